/-
  fix.missed, mercatorref3.MissOf, fix.Miss.
-/
import Derived.Test.YtehkonddgiakaaaDoorQFxC
namespace Go.Proofs.YtehkonddgiakaaaDoor
open Go.RowKit
attribute [local go_sem ↓] Go.wp_at_zero Go.wp_at_succ

/-- By how much one is missed. -/
def ms1 (x y : Int) (r : Rg) : Int := ((far x y r.x r.y - r.q).natAbs : Int)
def mss (l : List Rg) (x y : Int) : Int := (l.map (ms1 x y)).sum
theorem mss_snoc (l : List Rg) (r : Rg) (x y : Int) : mss (l ++ [r]) x y = mss l x y + ms1 x y r := by simp [mss]
theorem ms1_bd {x y : Int} {r : Rg} (h : inP x y) (k : okR r) : 0 ≤ ms1 x y r ∧ ms1 x y r ≤ 4503599627370496 := by
  have := far_bd h k.1
  have h1 := k.2
  unfold ms1
  omega
theorem mss_bd {l : List Rg} {x y : Int} (h : inP x y) (k : ∀ r ∈ l, okR r) : 0 ≤ mss l x y ∧ mss l x y ≤ l.length * 4503599627370496 := by
  induction l with
  | nil => simp [mss]
  | cons r l ih =>
    have h1 := ih (fun s hs => k s (List.mem_cons_of_mem _ hs))
    have h2 := ms1_bd h (k r (List.mem_cons_self ..))
    have e : mss (r :: l) x y = ms1 x y r + mss l x y := by simp [mss]
    rw [e, List.length_cons]
    omega
set_option maxRecDepth 4000 in
set_option maxHeartbeats 4000000 in
theorem missed_any (ad : Option Addr) (b cap : Nat) (l : List Rg) (x y : Int) (w : World) (h : RSl 30 w ad b cap l) (ll : l.length ≤ 70) (hok : ∀ r ∈ l, okR r) (hp : inP x y) : Calls Tryd.prog 38 #[.slice ad l.length cap, spV x y] w fun e w' => e = .returned (.int .i64 (mss l x y)) ∧ Gr w w' := by
  have HR := hidb h
  have HO := hidb hok
  have HP := hidb hp
  clear h hok hp
  go_enter Tryd.func38, Tryd.ntmps38
  go_wp2
  have A0 := hidb (At.new2 w (.int .i64 x) (.int .i64 y) 45)
  have G0 := hidb ((Gr.refl w).alloc (.cells #[.int .i64 x, .int .i64 y] 45))
  go_loopw [5, 11] (fun s t wr => ∃ (k : Nat), k ≤ l.length ∧ s = .int .i64 (mss (l.take k) x y) ∧ t = .int .i64 (k : Int) ∧ Hid (At wr w.heap.size [.int .i64 x, .int .i64 y]) ∧ Hid (Gr w wr)) (fun _ t _ => l.length - (intOf t).toNat)
  case atStart => exact ⟨0, Nat.zero_le _, rfl, rfl, A0.out, G0.out⟩
  case round =>
    clear A0 G0
    obtain ⟨k, hk, rfl, rfl, HA, HG⟩ := hrel
    by_cases h1 : k < l.length
    · obtain ⟨c0, c1, c2⟩ := (HR.out.below HG.out.out).cell h1
      have ix := HR.out.ix k h1
      have ho := HO.out l[k] (List.getElem_mem h1)
      have HT : Hid (mss (l.take (k + 1)) x y = mss (l.take k) x y + ms1 x y l[k]) := by
        show _ = _
        rw [List.take_succ_eq_append_getElem h1, mss_snoc]
      obtain ⟨s0, s1⟩ := mss_bd (l := l.take k) HP.out (fun r hr => HO.out r (List.mem_of_mem_take hr))
      have hlen : (l.take k).length ≤ 70 := by rw [List.length_take]; omega
      obtain ⟨r, hr⟩ : ∃ r, r = l[k] := ⟨_, rfl⟩
      rw [← hr] at c0 c1 c2 HT ho
      clear hr
      have HAp := hidb (fun w => apart_any (x := x) (y := y) (a := r.x) (b := r.y) HP.out ho.1 w)
      obtain ⟨f1, f2⟩ := far_bd HP.out ho.1
      have q0 := ho.2.1
      have q1 := ho.2.2
      have hms : ms1 x y r = ((far x y r.x r.y - r.q).natAbs : Int) := rfl
      rw [hms] at HT
      generalize far x y r.x r.y = ff at *
      have w1 : IntKind.i64.wrap (ff - r.q) = ff - r.q := wr_in (by omega) (by omega)
      obtain ⟨dd, hdd⟩ : ∃ dd, dd = ff - r.q := ⟨_, rfl⟩
      have w1' : IntKind.i64.wrap (ff - r.q) = dd := by rw [hdd]; exact w1
      rw [← hdd] at HT
      have d1 : -4503599627370496 ≤ dd := by omega
      have d2 : dd ≤ 4503599627370496 := by omega
      generalize mss (l.take k) x y = ss at *
      have s2 : ss ≤ 315251973915934720 := by
        have : (((l.take k).length : Nat) : Int) * 4503599627370496 ≤ 70 * 4503599627370496 := by omega
        omega
      clear w1 hdd f1 f2 q0 q1 ho s1 hlen hms
      have EA := At.new3 wr (.int .i64 r.x) (.int .i64 r.y) (.int .i64 r.q) 61
      have HA1 := HA.out.alloc (.cells #[.int .i64 r.x, .int .i64 r.y, .int .i64 r.q] 61)
      have HG1 := HG.out.alloc (.cells #[.int .i64 r.x, .int .i64 r.y, .int .i64 r.q] 61)
      obtain ⟨R, hRe⟩ : ∃ R, R = wr.heap.size := ⟨_, rfl⟩
      rw [← hRe] at EA
      go_upto_region 5 with fail
      rw [← hRe]
      clear hRe c0 c1 c2
      generalize wr.alloc (.cells #[.int .i64 r.x, .int .i64 r.y, .int .i64 r.q] 61) = w2 at *
      go_region_held (fun w' => (w'.cell? ⟨w.heap.size, 0, none⟩ = some (.int .i64 x) ∧ w'.cell? ⟨w.heap.size, 1, none⟩ = some (.int .i64 y)) ∧ w'.cell? ⟨R, 0, none⟩ = some (.int .i64 r.x) ∧ w'.cell? ⟨R, 1, none⟩ = some (.int .i64 r.y) ∧ w'.cell? ⟨R, 2, none⟩ = some (.int .i64 r.q))
        (first | (with_reducible exact ⟨HA1.c2, EA.c3⟩) | exact ⟨HA1.c2, EA.c3⟩)
        ((first | (go_at_call 40; refine (HAp.out _).mono ?_; rintro e w5 ⟨rfl, hB5, hs5⟩; replace hB5 := hB5.out; (with_reducible first | replace hB5 := undr hB5 | skip); replace HA1 := At.below hB5 HA1; replace EA := At.below hB5 EA; replace HG1 := Gr.step HG1 hB5) | fail))
      all_goals
        have HA2 := hidb HA1
        have HG2 := hidb HG1
        clear HA1 HG1 EA HA HG
        by_cases c : dd < 0
        · have ha : (dd.natAbs : Int) = -dd := by omega
          rw [ha] at HT
          have cm : dd < -dd := by omega
          go_wp2
          go_roundw
          case rel => exact ⟨k + 1, by omega, by rw [HT.out], by go_num, HA2.out, HG2.out⟩
          case measure => simp [intOf]; omega
        · have ha : (dd.natAbs : Int) = dd := by omega
          rw [ha] at HT
          have cm : ¬ dd < -dd := by omega
          go_wp2
          go_roundw
          case rel => exact ⟨k + 1, by omega, by rw [HT.out], by go_num, HA2.out, HG2.out⟩
          case measure => simp [intOf]; omega
    · have hkl : k = l.length := by omega
      have HE : Hid (mss (l.take k) x y = mss l x y) := by rw [hkl, List.take_of_length_le (Nat.le_refl _)]; rfl
      clear hkl
      go_wp2
      go_ret
      exact ⟨by rw [← HE.out]; rfl, HG.out⟩
set_option maxRecDepth 4000 in
set_option maxHeartbeats 4000000 in
theorem missOf_any (ad : Option Addr) (b cap : Nat) (l : List Rg) (x y : Int) (w : World) (h : RSl 22 w ad b cap l) (ll : l.length ≤ 70) (hok : ∀ r ∈ l, okR r) (hp : inP x y) : Calls Tryd.prog 16 #[.slice ad l.length cap, spV x y] w fun e w' => e = .returned (.int .i64 (mss l x y)) ∧ Gr w w' := by
  have HR := hidb h
  have HO := hidb hok
  have HP := hidb hp
  clear h hok hp
  go_enter Tryd.func16, Tryd.ntmps16
  go_wp2
  have A0 := hidb (At.new2 w (.int .i64 x) (.int .i64 y) 45)
  have G0 := hidb ((Gr.refl w).alloc (.cells #[.int .i64 x, .int .i64 y] 45))
  go_loopw [5, 6] (fun s t wr => ∃ (k : Nat), k ≤ l.length ∧ s = .int .i64 (mss (l.take k) x y) ∧ t = .int .i64 (k : Int) ∧ Hid (At wr w.heap.size [.int .i64 x, .int .i64 y]) ∧ Hid (Gr w wr)) (fun _ t _ => l.length - (intOf t).toNat)
  case atStart => exact ⟨0, Nat.zero_le _, rfl, rfl, A0.out, G0.out⟩
  case round =>
    clear A0 G0
    obtain ⟨k, hk, rfl, rfl, HA, HG⟩ := hrel
    by_cases h1 : k < l.length
    · obtain ⟨c0, c1, c2⟩ := (HR.out.below HG.out.out).cell h1
      have ix := HR.out.ix k h1
      have ho := HO.out l[k] (List.getElem_mem h1)
      have HT : Hid (mss (l.take (k + 1)) x y = mss (l.take k) x y + ms1 x y l[k]) := by
        show _ = _
        rw [List.take_succ_eq_append_getElem h1, mss_snoc]
      obtain ⟨s0, s1⟩ := mss_bd (l := l.take k) HP.out (fun r hr => HO.out r (List.mem_of_mem_take hr))
      have hlen : (l.take k).length ≤ 70 := by rw [List.length_take]; omega
      obtain ⟨r, hr⟩ : ∃ r, r = l[k] := ⟨_, rfl⟩
      rw [← hr] at c0 c1 c2 HT ho
      clear hr
      obtain ⟨f1, f2⟩ := far_bd HP.out ho.1
      have q0 := ho.2.1
      have q1 := ho.2.2
      have hms : ms1 x y r = ((far x y r.x r.y - r.q).natAbs : Int) := rfl
      rw [hms] at HT
      obtain ⟨⟨⟨p1, p2⟩, p3, p4⟩, _⟩ := ho
      obtain ⟨⟨t1, t2⟩, t3, t4⟩ := HP.out
      have w1 : IntKind.i64.wrap (x - r.x) = x - r.x := wr_in (by omega) (by omega)
      have w2 : IntKind.i64.wrap (y - r.y) = y - r.y := wr_in (by omega) (by omega)
      obtain ⟨e1, e2⟩ := sq_le (x := x - r.x) (b := 33554432) (by omega) (by omega)
      obtain ⟨e3, e4⟩ := sq_le (x := y - r.y) (b := 33554432) (by omega) (by omega)
      have w3 : IntKind.i64.wrap ((x - r.x) * (x - r.x)) = (x - r.x) * (x - r.x) := wr_in (by omega) (by omega)
      have w4 : IntKind.i64.wrap ((y - r.y) * (y - r.y)) = (y - r.y) * (y - r.y) := wr_in (by omega) (by omega)
      have hff : far x y r.x r.y = (x - r.x) * (x - r.x) + (y - r.y) * (y - r.y) := rfl
      rw [hff] at HT f1 f2
      obtain ⟨u, hu⟩ : ∃ u, u = x - r.x := ⟨_, rfl⟩
      obtain ⟨v, hv⟩ : ∃ v, v = y - r.y := ⟨_, rfl⟩
      have w1' : IntKind.i64.wrap (x - r.x) = u := by rw [hu]; exact w1
      have w2' : IntKind.i64.wrap (y - r.y) = v := by rw [hv]; exact w2
      rw [← hu] at w3 HT f1 f2 e1 e2
      rw [← hv] at w4 HT f1 f2 e3 e4
      obtain ⟨uu, huu⟩ : ∃ uu, uu = u * u := ⟨_, rfl⟩
      obtain ⟨vv, hvv⟩ : ∃ vv, vv = v * v := ⟨_, rfl⟩
      rw [← huu] at w3 HT f1 f2 e1 e2
      rw [← hvv] at w4 HT f1 f2 e3 e4
      have w3' : IntKind.i64.wrap (u * u) = uu := by rw [← huu]; exact w3
      have w4' : IntKind.i64.wrap (v * v) = vv := by rw [← hvv]; exact w4
      have w5 : IntKind.i64.wrap (uu + vv) = uu + vv := wr_in (by omega) (by omega)
      obtain ⟨ff, hf⟩ : ∃ ff, ff = uu + vv := ⟨_, rfl⟩
      have w5' : IntKind.i64.wrap (uu + vv) = ff := by rw [hf]; exact w5
      rw [← hf] at HT f1 f2
      have w6 : IntKind.i64.wrap (ff - r.q) = ff - r.q := wr_in (by omega) (by omega)
      obtain ⟨dd, hdd⟩ : ∃ dd, dd = ff - r.q := ⟨_, rfl⟩
      have w6' : IntKind.i64.wrap (ff - r.q) = dd := by rw [hdd]; exact w6
      rw [← hdd] at HT
      have d1 : -4503599627370496 ≤ dd := by omega
      have d2 : dd ≤ 4503599627370496 := by omega
      generalize mss (l.take k) x y = ss at *
      have s2 : ss ≤ 315251973915934720 := by
        have : (((l.take k).length : Nat) : Int) * 4503599627370496 ≤ 70 * 4503599627370496 := by omega
        omega
      clear w1 w2 w3 w4 w5 w6 hu hv huu hvv hf hdd f1 f2 q0 q1 s1 hlen hms hff e1 e2 e3 e4 p1 p2 p3 p4 t1 t2 t3 t4
      obtain ⟨a0, a1⟩ := HA.out.c2
      go_upto_region 5 with fail
      go_quiet (fail)
      go_wp2_with fail
      go_quiet (fail)
      have HA2 := fun n => hidb (HA.out.drewN n)
      have HG2 := fun n => hidb (HG.out.drewN n)
      by_cases c : dd < 0
      · have ha : (dd.natAbs : Int) = -dd := by omega
        rw [ha] at HT
        go_wp2
        go_roundw
        case rel => exact ⟨k + 1, by omega, by rw [HT.out], by go_num, HA.out.drewN _, HG.out.drewN _⟩
        case measure => simp [intOf]; omega
      · have ha : (dd.natAbs : Int) = dd := by omega
        rw [ha] at HT
        go_wp2
        go_roundw
        case rel => exact ⟨k + 1, by omega, by rw [HT.out], by go_num, HA.out.drewN _, HG.out.drewN _⟩
        case measure => simp [intOf]; omega
    · have hkl : k = l.length := by omega
      have HE : Hid (mss (l.take k) x y = mss l x y) := by rw [hkl, List.take_of_length_le (Nat.le_refl _)]; rfl
      clear hkl
      go_wp2
      go_ret
      exact ⟨by rw [← HE.out]; rfl, HG.out⟩
end Go.Proofs.YtehkonddgiakaaaDoor
