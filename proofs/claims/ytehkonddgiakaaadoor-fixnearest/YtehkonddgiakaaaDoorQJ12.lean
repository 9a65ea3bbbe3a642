/-
  The nearest point of a box, looked for one by one. No Go text.; mercatorref3.MissOf of a slice that begins anywhere in its block; fix.Miss.
-/
import Derived.Test.YtehkonddgiakaaaDoorQFxP
import Derived.Test.YtehkonddgiakaaaDoorQFxT
namespace Go.Proofs.YtehkonddgiakaaaDoor
open Go.RowKit

/-- A point, and by how much it misses; one more point; one more column; so many columns. -/
def stp (l : List Rg) (s : Int × Int × Int) (x y : Int) : Int × Int × Int := if mss l x y < s.2.2 then (x, y, mss l x y) else s
def cln (l : List Rg) (x ly : Int) (s : Int × Int × Int) : Nat → Int × Int × Int
  | 0 => s
  | k + 1 => stp l (cln l x ly s k) x (ly + (k : Int))
def scn (l : List Rg) (lx ly : Int) (ny : Nat) : Nat → Int × Int × Int
  | 0 => (lx, ly, mss l lx ly)
  | k + 1 => cln l (lx + (k : Int)) ly (scn l lx ly ny k) ny
def nrs (l : List Rg) (lx ly hx hy : Int) : Int × Int × Int := scn l lx ly (hy - ly + 1).toNat (hx - lx + 1).toNat
structure InS (l : List Rg) (lx ly hx hy : Int) (s : Int × Int × Int) : Prop where
  x1 : lx ≤ s.1
  x2 : s.1 ≤ hx
  y1 : ly ≤ s.2.1
  y2 : s.2.1 ≤ hy
  m : s.2.2 = mss l s.1 s.2.1
theorem InS.stp {l : List Rg} {lx ly hx hy : Int} {s : Int × Int × Int} (h : InS l lx ly hx hy s) {x y : Int} (h1 : lx ≤ x) (h2 : x ≤ hx) (h3 : ly ≤ y) (h4 : y ≤ hy) : InS l lx ly hx hy (stp l s x y) := by
  unfold Go.Proofs.YtehkonddgiakaaaDoor.stp
  split
  · exact ⟨h1, h2, h3, h4, rfl⟩
  · exact h
theorem InS.cln {l : List Rg} {lx ly hx hy : Int} {s : Int × Int × Int} (h : InS l lx ly hx hy s) {x : Int} (h1 : lx ≤ x) (h2 : x ≤ hx) : ∀ k : Nat, ly + (k : Int) ≤ hy + 1 → InS l lx ly hx hy (cln l x ly s k)
  | 0, _ => h
  | k + 1, hk => (InS.cln h h1 h2 k (by omega)).stp h1 h2 (by omega) (by omega)
theorem InS.scn {l : List Rg} {lx ly hx hy : Int} (hx0 : lx ≤ hx) (hy0 : ly ≤ hy) {ny : Nat} (hn : ly + (ny : Int) ≤ hy + 1) : ∀ k : Nat, lx + (k : Int) ≤ hx + 1 → InS l lx ly hx hy (scn l lx ly ny k)
  | 0, _ => ⟨Int.le_refl _, hx0, Int.le_refl _, hy0, rfl⟩
  | k + 1, hk => (InS.scn hx0 hy0 hn k (by omega)).cln (by omega) (by omega) ny hn
theorem nrs_in {l : List Rg} {lx ly hx hy : Int} (hx0 : lx ≤ hx) (hy0 : ly ≤ hy) : InS l lx ly hx hy (nrs l lx ly hx hy) :=
  InS.scn hx0 hy0 (by omega) _ (by omega)
end Go.Proofs.YtehkonddgiakaaaDoor
namespace Go.Proofs.YtehkonddgiakaaaDoor
open Go.RowKit

set_option maxRecDepth 4000 in
set_option maxHeartbeats 4000000 in
theorem missOfO (ad : Option Addr) (b o cap : Nat) (l : List Rg) (x y : Int) (w : World) (h : RSo w ad b o cap l) (ll : l.length ≤ 70) (hok : ∀ r ∈ l, okR r) (hp : inP x y) : Calls Tryd.prog 16 #[.slice ad l.length cap, spV x y] w fun e w' => e = .returned (.int .i64 (mss l x y)) ∧ Gr w w' := by
  have HR := hidb h
  have HO := hidb hok
  have HP := hidb hp
  clear h hok hp
  go_enter Tryd.func16, Tryd.ntmps16
  go_wp2
  have A0 := hidb (At.new2 w (.int .i64 x) (.int .i64 y) 45)
  have G0 := hidb ((Gr.refl w).alloc (.cells #[.int .i64 x, .int .i64 y] 45))
  go_loopw [5, 6] (fun s t wr => ∃ (k : Nat), k ≤ l.length ∧ s = .int .i64 (mss (l.take k) x y) ∧ t = .int .i64 (k : Int) ∧ Hid (At wr w.heap.size [.int .i64 x, .int .i64 y]) ∧ Hid (Gr w wr)) (fun _ t _ => l.length - (intOf t).toNat)
  case atStart => exact ⟨0, Nat.zero_le _, rfl, rfl, A0.out, G0.out⟩
  case round =>
    clear A0 G0
    obtain ⟨k, hk, rfl, rfl, HA, HG⟩ := hrel
    by_cases h1 : k < l.length
    · obtain ⟨c0, c1, c2⟩ := (HR.out.below HG.out.out).cell h1
      have ix := HR.out.ix k h1
      have ho := HO.out l[k] (List.getElem_mem h1)
      have HT : Hid (mss (l.take (k + 1)) x y = mss (l.take k) x y + ms1 x y l[k]) := by
        show _ = _
        rw [List.take_succ_eq_append_getElem h1, mss_snoc]
      obtain ⟨s0, s1⟩ := mss_bd (l := l.take k) HP.out (fun r hr => HO.out r (List.mem_of_mem_take hr))
      have hlen : (l.take k).length ≤ 70 := by rw [List.length_take]; omega
      obtain ⟨r, hr⟩ : ∃ r, r = l[k] := ⟨_, rfl⟩
      rw [← hr] at c0 c1 c2 HT ho
      clear hr
      obtain ⟨f1, f2⟩ := far_bd HP.out ho.1
      have q0 := ho.2.1
      have q1 := ho.2.2
      have hms : ms1 x y r = ((far x y r.x r.y - r.q).natAbs : Int) := rfl
      rw [hms] at HT
      obtain ⟨⟨⟨p1, p2⟩, p3, p4⟩, _⟩ := ho
      obtain ⟨⟨t1, t2⟩, t3, t4⟩ := HP.out
      have w1 : IntKind.i64.wrap (x - r.x) = x - r.x := wr_in (by omega) (by omega)
      have w2 : IntKind.i64.wrap (y - r.y) = y - r.y := wr_in (by omega) (by omega)
      obtain ⟨e1, e2⟩ := sq_le (x := x - r.x) (b := 33554432) (by omega) (by omega)
      obtain ⟨e3, e4⟩ := sq_le (x := y - r.y) (b := 33554432) (by omega) (by omega)
      have w3 : IntKind.i64.wrap ((x - r.x) * (x - r.x)) = (x - r.x) * (x - r.x) := wr_in (by omega) (by omega)
      have w4 : IntKind.i64.wrap ((y - r.y) * (y - r.y)) = (y - r.y) * (y - r.y) := wr_in (by omega) (by omega)
      have hff : far x y r.x r.y = (x - r.x) * (x - r.x) + (y - r.y) * (y - r.y) := rfl
      rw [hff] at HT f1 f2
      obtain ⟨u, hu⟩ : ∃ u, u = x - r.x := ⟨_, rfl⟩
      obtain ⟨v, hv⟩ : ∃ v, v = y - r.y := ⟨_, rfl⟩
      have w1' : IntKind.i64.wrap (x - r.x) = u := by rw [hu]; exact w1
      have w2' : IntKind.i64.wrap (y - r.y) = v := by rw [hv]; exact w2
      rw [← hu] at w3 HT f1 f2 e1 e2
      rw [← hv] at w4 HT f1 f2 e3 e4
      obtain ⟨uu, huu⟩ : ∃ uu, uu = u * u := ⟨_, rfl⟩
      obtain ⟨vv, hvv⟩ : ∃ vv, vv = v * v := ⟨_, rfl⟩
      rw [← huu] at w3 HT f1 f2 e1 e2
      rw [← hvv] at w4 HT f1 f2 e3 e4
      have w3' : IntKind.i64.wrap (u * u) = uu := by rw [← huu]; exact w3
      have w4' : IntKind.i64.wrap (v * v) = vv := by rw [← hvv]; exact w4
      have w5 : IntKind.i64.wrap (uu + vv) = uu + vv := wr_in (by omega) (by omega)
      obtain ⟨ff, hf⟩ : ∃ ff, ff = uu + vv := ⟨_, rfl⟩
      have w5' : IntKind.i64.wrap (uu + vv) = ff := by rw [hf]; exact w5
      rw [← hf] at HT f1 f2
      have w6 : IntKind.i64.wrap (ff - r.q) = ff - r.q := wr_in (by omega) (by omega)
      obtain ⟨dd, hdd⟩ : ∃ dd, dd = ff - r.q := ⟨_, rfl⟩
      have w6' : IntKind.i64.wrap (ff - r.q) = dd := by rw [hdd]; exact w6
      rw [← hdd] at HT
      have d1 : -4503599627370496 ≤ dd := by omega
      have d2 : dd ≤ 4503599627370496 := by omega
      generalize mss (l.take k) x y = ss at *
      have s2 : ss ≤ 315251973915934720 := by
        have : (((l.take k).length : Nat) : Int) * 4503599627370496 ≤ 70 * 4503599627370496 := by omega
        omega
      clear w1 w2 w3 w4 w5 w6 hu hv huu hvv hf hdd f1 f2 q0 q1 s1 hlen hms hff e1 e2 e3 e4 p1 p2 p3 p4 t1 t2 t3 t4
      obtain ⟨a0, a1⟩ := HA.out.c2
      go_upto_region 5 with fail
      go_quiet (fail)
      go_wp2_with fail
      go_quiet (fail)
      have HA2 := fun n => hidb (HA.out.drewN n)
      have HG2 := fun n => hidb (HG.out.drewN n)
      by_cases c : dd < 0
      · have ha : (dd.natAbs : Int) = -dd := by omega
        rw [ha] at HT
        go_wp2
        go_roundw
        case rel => exact ⟨k + 1, by omega, by rw [HT.out], by go_num, HA.out.drewN _, HG.out.drewN _⟩
        case measure => simp [intOf]; omega
      · have ha : (dd.natAbs : Int) = dd := by omega
        rw [ha] at HT
        go_wp2
        go_roundw
        case rel => exact ⟨k + 1, by omega, by rw [HT.out], by go_num, HA.out.drewN _, HG.out.drewN _⟩
        case measure => simp [intOf]; omega
    · have hkl : k = l.length := by omega
      have HE : Hid (mss (l.take k) x y = mss l x y) := by rw [hkl, List.take_of_length_le (Nat.le_refl _)]; rfl
      clear hkl
      go_wp2
      go_ret
      exact ⟨by rw [← HE.out]; rfl, HG.out⟩
set_option maxRecDepth 4000 in
set_option maxHeartbeats 4000000 in
theorem miss_bad1 (g : Nat → Addr) (ad : Option Addr) (b cap : Nat) (l : List Rg) (x y : Int) (w : World) (h : RSl 30 w ad b cap l) (ll : l.length ≤ 70) (hl : Laid w g) (i : Nat) (hr : rerr g l = errV g i) : Calls Tryd.prog 14 #[.slice ad l.length cap, spV x y] w fun e w' => e = .returned (.tuple #[.int .i64 0, errV g i]) ∧ Gr w w' := by
  have C1 := hidb (fun W (hG : Gr w W) => valid_any g ad b cap l W (h.below hG.out) (by omega) (hl.below hG.out))
  rw [hr] at C1
  have G0 := hidb ((Gr.refl w).alloc (.cells #[.int .i64 x, .int .i64 y] 45))
  clear h ll hl hr
  go_enter Tryd.func14, Tryd.ntmps14
  go_wp2_with fail
  refine (C1.out _ G0.out).mono ?_
  rintro e w1 ⟨rfl, hB⟩
  replace G0 := hidb (Gr.step G0.out hB.out)
  clear hB
  go_wp2
  go_ret2
  exact ⟨rfl, G0.out⟩
set_option maxRecDepth 4000 in
set_option maxHeartbeats 4000000 in
theorem miss_bad2 (g : Nat → Addr) (ad : Option Addr) (b cap : Nat) (l : List Rg) (x y : Int) (w : World) (h : RSl 30 w ad b cap l) (ll : l.length ≤ 70) (hl : Laid w g) (hr : rerr g l = .nilIface) (hp : ¬ inP x y) : Calls Tryd.prog 14 #[.slice ad l.length cap, spV x y] w fun e w' => e = .returned (.tuple #[.int .i64 0, errV g 2]) ∧ Gr w w' := by
  have C1 := hidb (fun W (hG : Gr w W) => valid_any g ad b cap l W (h.below hG.out) (by omega) (hl.below hG.out))
  rw [hr] at C1
  have C2 := hidb (fun W => placed_any x y W)
  rw [decide_eq_false hp] at C2
  have HL := hidb hl
  have G0 := hidb ((Gr.refl w).alloc (.cells #[.int .i64 x, .int .i64 y] 45))
  have A0 := hidb (At.new2 w (.int .i64 x) (.int .i64 y) 45)
  clear h ll hl hr hp
  go_enter Tryd.func14, Tryd.ntmps14
  go_wp2_with fail
  refine (C1.out _ G0.out).mono ?_
  rintro e w1 ⟨rfl, hB⟩
  replace G0 := hidb (Gr.step G0.out hB.out)
  replace A0 := hidb (At.below hB.out A0.out)
  clear hB
  obtain ⟨a0, a1⟩ := A0.out.c2
  go_wp2_with fail
  refine (C2.out _).mono ?_
  rintro e w2 ⟨rfl, hB, _⟩
  replace G0 := hidb (Gr.step G0.out hB.out)
  have cE : w2.cell? ⟨2, 0, none⟩ = some (errV g 2) := (HL.out.below G0.out.out).cell 2 (by decide)
  clear hB a0 a1
  go_upto_region 5 with fail
  go_quiet (fail)
  go_wp2
  go_ret2
  exact ⟨rfl, G0.out.drewN _⟩
set_option maxRecDepth 4000 in
set_option maxHeartbeats 4000000 in
theorem miss_ok (g : Nat → Addr) (ad : Option Addr) (b cap : Nat) (l : List Rg) (x y : Int) (w : World) (h : RSl 30 w ad b cap l) (ll : l.length ≤ 70) (hl : Laid w g) (hr : rerr g l = .nilIface) (hok : ∀ r ∈ l, okR r) (hp : inP x y) : Calls Tryd.prog 14 #[.slice ad l.length cap, spV x y] w fun e w' => e = .returned (.tuple #[.int .i64 (mss l x y), .nilIface]) ∧ Gr w w' := by
  have C1 := hidb (fun W (hG : Gr w W) => valid_any g ad b cap l W (h.below hG.out) (by omega) (hl.below hG.out))
  rw [hr] at C1
  have C2 := hidb (fun W => placed_any x y W)
  rw [decide_eq_true hp] at C2
  have C3 := hidb (fun W (hG : Gr w W) => missed_any ad b cap l x y W (h.below hG.out) ll hok hp)
  have G0 := hidb ((Gr.refl w).alloc (.cells #[.int .i64 x, .int .i64 y] 45))
  have A0 := hidb (At.new2 w (.int .i64 x) (.int .i64 y) 45)
  obtain ⟨z, hz⟩ : ∃ z, z = mss l x y := ⟨_, rfl⟩
  rw [← hz] at C3 ⊢
  clear h ll hl hr hp hok hz
  go_enter Tryd.func14, Tryd.ntmps14
  go_wp2_with fail
  refine (C1.out _ G0.out).mono ?_
  rintro e w1 ⟨rfl, hB⟩
  replace G0 := hidb (Gr.step G0.out hB.out)
  replace A0 := hidb (At.below hB.out A0.out)
  clear hB
  obtain ⟨a0, a1⟩ := A0.out.c2
  go_wp2_with fail
  refine (C2.out _).mono ?_
  rintro e w2 ⟨rfl, hB, _⟩
  replace G0 := hidb (Gr.step G0.out hB.out)
  replace A0 := hidb (At.below hB.out A0.out)
  clear hB a0 a1
  obtain ⟨a0, a1⟩ := A0.out.c2
  go_wp2_with fail
  refine (C3.out _ G0.out).mono ?_
  rintro e w3 ⟨rfl, hB⟩
  replace G0 := hidb (Gr.step G0.out hB.out)
  clear hB a0 a1
  go_wp2
  go_ret2
  exact ⟨rfl, G0.out⟩
end Go.Proofs.YtehkonddgiakaaaDoor
