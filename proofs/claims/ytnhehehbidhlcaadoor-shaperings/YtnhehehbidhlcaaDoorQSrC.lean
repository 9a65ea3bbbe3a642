/-
  mercatorref5: PlaceIn, IsSimple.
-/
import Derived.Test.YtnhehehbidhlcaaDoorQSrB
namespace Go.Proofs.YtnhehehbidhlcaaDoor
open Go.RowKit
attribute [local go_sem ↓] Go.wp_at_zero Go.wp_at_succ

theorem nxm_lt {n i : Nat} (h : i < n) : (i + 1) % n < n := Nat.mod_lt _ (by omega)
theorem eg_take {l : List Sp} (h : 1 ≤ l.length) {k : Nat} (hk : k < l.length) : (eg l).take (k + 1) = (eg l).take k ++ [ed l k] := by
  have hl : k < (eg l).length := by rw [eg_len h]; exact hk
  rw [List.take_succ_eq_append_getElem hl]
  congr 1
  have : (eg l)[k] = ed l k := by simp only [eg_ed h, List.getElem_map, List.getElem_range]
  rw [this]
/-- An edge to the east, as the reference tells it. -/
theorem es_iff (q r s : Sp) : esP (q, r) s ↔ (q.2 ≤ s.2 ∧ s.2 < r.2 ∧ 0 < tn q r s) ∨ (r.2 ≤ s.2 ∧ s.2 < q.2 ∧ tn q r s < 0) := by
  unfold esP lwE upE
  dsimp only
  by_cases c : r.2 < q.2
  · rw [if_pos c, if_pos c, tn_turn]
    constructor
    · rintro ⟨⟨h1, h2⟩, h3⟩; exact .inr ⟨h1, h2, by omega⟩
    · rintro (⟨h1, h2, h3⟩ | ⟨h1, h2, h3⟩)
      · omega
      · exact ⟨⟨h1, h2⟩, by omega⟩
  · rw [if_neg c, if_neg c]
    constructor
    · rintro ⟨⟨h1, h2⟩, h3⟩; exact .inl ⟨h1, h2, h3⟩
    · rintro (⟨h1, h2, h3⟩ | ⟨h1, h2, h3⟩)
      · exact ⟨⟨h1, h2⟩, h3⟩
      · omega
def ctK (l : List Sp) (s : Sp) (k : Nat) : Nat := ((eg l).take k).countP (fun e => decide (esP e s))
theorem ctK_succ {l : List Sp} (h : 1 ≤ l.length) {k : Nat} (hk : k < l.length) (s : Sp) : ctK l s (k + 1) = ctK l s k + (if esP (ed l k) s then 1 else 0) := by
  unfold ctK
  rw [eg_take h hk, List.countP_append]
  by_cases c : esP (ed l k) s <;> simp [c]
theorem ctK_le (l : List Sp) (s : Sp) (k : Nat) : ctK l s k ≤ k := by
  unfold ctK
  exact Nat.le_trans List.countP_le_length (by rw [List.length_take]; omega)
set_option maxRecDepth 4000 in
set_option maxHeartbeats 16000000 in
theorem placeIn_any {ad : Option Addr} {b o cap : Nat} {l : List Sp} (l1 : 1 ≤ l.length) (ll : l.length ≤ 4000) (hok : ∀ i, i < l.length → okS (sx l i)) (s : Sp) (hs : okS s) (w : World) (h : SSl w ad b o cap l) : Calls Tryd.prog 15 #[.slice ad l.length cap, sv s] w fun e w' => e = .returned (.int .i64 (whP (eg l) s)) ∧ Gr w w' := by
  generalize hr : whP (eg l) s = res
  have HRes1 : Hid (∀ k, k < l.length → hsP (ed l k) s → res = 0) := fun k hk hh => by
    rw [← hr]; exact whP_hit (by rw [eg_ed l1]; exact List.mem_map.2 ⟨k, List.mem_range.2 hk, rfl⟩) hh
  have hres2 : (∀ k, k < l.length → ¬ hsP (ed l k) s) → res = if ctK l s l.length % 2 = 1 then 1 else -1 := fun hh => by
    rw [← hr]
    unfold whP
    rw [if_neg, sdP_cnt]
    · unfold ctK; rw [List.take_of_length_le (by rw [eg_len l1]; exact Nat.le_refl _)]
    · rintro ⟨e, he, hx⟩
      rw [eg_ed l1] at he
      obtain ⟨k, hk, rfl⟩ := List.mem_map.1 he
      exact hh k (List.mem_range.1 hk) hx
  have HRes2 : Hid ((∀ k, k < l.length → ¬ hsP (ed l k) s) → ctK l s l.length % 2 = 1 → res = 1) := fun hh h2 => by rw [hres2 hh, if_pos h2]
  have HRes3 : Hid ((∀ k, k < l.length → ¬ hsP (ed l k) s) → ¬ ctK l s l.length % 2 = 1 → res = -1) := fun hh h2 => by rw [hres2 hh, if_neg h2]
  clear hres2
  have HCt := hidb (fun k (hk : k < l.length) => ctK_succ l1 hk s)
  have HCl := hidb (fun k => ctK_le l s k)
  have HR := hidb h
  have HOn := hidb (fun k (hk : k < l.length) w => onPiece_any (hok k hk) (hok _ (nxm_lt hk)) hs w)
  have HTn := hidb (fun k (hk : k < l.length) w => turnOf_any (hok k hk) (hok _ (nxm_lt hk)) hs w)
  have HEd : Hid (∀ k, ed l k = (sx l k, sx l ((k + 1) % l.length))) := fun k => rfl
  clear hr hok hs
  obtain ⟨n, hn⟩ : ∃ n, n = l.length := ⟨_, rfl⟩
  have HX := hidb (fun k (hk : k < n) => h.ix k (by rw [← hn]; exact hk))
  have HNn := hidb hn
  rw [← hn] at HX HRes1 HRes2 HRes3 HCt HOn HTn HEd l1 ll ⊢
  clear hn h
  have HGG := hidb ((Gr.refl w).alloc (.cells #[.int .i64 s.1, .int .i64 s.2] 24))
  have HFS := hidb (At.new2 w (.int .i64 s.1) (.int .i64 s.2) 24)
  go_enter Tryd.func15, Tryd.ntmps15
  go_upto_region 1 with fail
  generalize w.alloc (.cells #[.int .i64 s.1, .int .i64 s.2] 24) = W0 at *
  go_wp2
  go_loopw [5, 6] (fun v t wr => ∃ (k : Nat), k ≤ n ∧ t = .int .i64 (k : Int) ∧ v = .int .i64 (ctK l s k : Int) ∧ Hid (∀ j, j < k → ¬ hsP (ed l j) s) ∧ Hid (Gr W0 wr)) (fun _ t _ => n - (intOf t).toNat)
  case atStart => exact ⟨0, Nat.zero_le _, rfl, rfl, (by intro j hj; omega), Gr.refl _⟩
  case round =>
    obtain ⟨k, hk, rfl, rfl, HI, HG⟩ := hrel
    by_cases h1 : ¬ k < n
    · have h1' : ¬ (k : Int) < (n : Int) := by omega
      obtain rfl : k = n := by omega
      clear h1
      by_cases c : ctK l s k % 2 = 1
      · have c' : ((ctK l s k : Nat) : Int).tmod 2 = 1 := by rw [Int.tmod_eq_emod_of_nonneg (by omega)]; omega
        obtain rfl := HRes2.out HI.out c
        clear c
        generalize ((ctK l s k : Nat) : Int) = z at *
        go_wp2
        go_ret
        exact ⟨rfl, Gr.step HGG.out HG.out⟩
      · have c' : ¬ ((ctK l s k : Nat) : Int).tmod 2 = 1 := by rw [Int.tmod_eq_emod_of_nonneg (by omega)]; omega
        obtain rfl := HRes3.out HI.out c
        clear c
        generalize ((ctK l s k : Nat) : Int) = z at *
        go_wp2
        go_ret
        exact ⟨rfl, Gr.step HGG.out HG.out⟩
    · have h1' : (k : Int) < (n : Int) := by omega
      have hkn : k < n := by omega
      have HKN := hidb hkn
      have hn0 : ¬ n = 0 := by omega
      have hn0' : ¬ (n : Int) = 0 := by omega
      obtain ⟨m, hm⟩ : ∃ m, m = (k + 1) % n := ⟨_, rfl⟩
      obtain ⟨s1, hs1⟩ : ∃ z : Int, z = (k : Int) + 1 := ⟨_, rfl⟩
      have e1 : IntKind.i64.wrap ((k : Int) + 1) = s1 := by rw [hs1]; exact wr_in (by omega) (by omega)
      have e2 : s1.tmod (n : Int) = (m : Int) := by rw [hs1, hm, Int.tmod_eq_emod_of_nonneg (by omega)]; push_cast; rfl
      have HS1 : Hid (s1 = ((k + 1 : Nat) : Int)) := by show _ = _; rw [hs1]; push_cast; rfl
      have hmn : m < n := by rw [hm]; exact nxm_lt hkn
      have ix := HX.out k hkn
      have ixm := HX.out m hmn
      have HC0 := hidb (HOn.out k hkn)
      have HC1 := hidb (HTn.out k hkn)
      have hed := HEd.out k
      rw [← hm] at HC0 HC1 hed
      have HR1 := hidb (HRes1.out k hkn)
      have HCs := HCt.out k hkn
      have hcl := HCl.out k
      have HI2 : Hid (¬ hsP (ed l k) s → ∀ j, j < k + 1 → ¬ hsP (ed l j) s) := fun hh j hj => by
        rcases Nat.lt_succ_iff_lt_or_eq.1 hj with c | c
        · exact HI.out j c
        · subst c; exact hh
      rw [hed] at HCs HR1 HI2
      have hes := es_iff (sx l k) (sx l m) s
      have HQk := hidb (fun W (hW : Gr w W) => ((HR.out.gr hW).row k (by rw [← HNn.out]; exact HKN.out)).1)
      have HQm := hidb (fun W (hW : Gr w W) => ((HR.out.gr hW).row m (by rw [← HNn.out]; exact hmn)).1)
      generalize sx l k = q at *
      generalize sx l m = r at *
      obtain ⟨z, hz⟩ : ∃ z : Int, z = (ctK l s k : Int) := ⟨_, rfl⟩
      rw [← hz]
      have ez : IntKind.i64.wrap (z + 1) = z + 1 := by rw [hz]; exact wr_in (by omega) (by omega)
      have HZ1 : Hid (esP (q, r) s → (ctK l s (k + 1) : Int) = z + 1) := fun hh => by rw [HCs, if_pos hh, hz]; push_cast; rfl
      have HZ0 : Hid (¬ esP (q, r) s → (ctK l s (k + 1) : Int) = z) := fun hh => by rw [HCs, if_neg hh, hz]; simp
      have HW := hidb (Gr.step HGG.out HG.out)
      obtain ⟨a0, a1⟩ := HQk.out _ HW.out
      have HQm2 := hidb (fun (o : Obj) => HQm.out _ (HW.out.alloc o))
      obtain ⟨b0, b1⟩ := HQm2.out (.cells #[.int .i64 q.1, .int .i64 q.2] 24)
      have HES := hidb hes
      have HEZ := hidb ez
      have hbl : b < wr.heap.size := lt_of_cell (p := ⟨b, o + m * 2, none⟩) (HQm.out _ HW.out).1
      have bn1 : ¬ wr.heap.size = b := by omega
      have bn2 : ¬ b = wr.heap.size := fun e => bn1 e.symm
      obtain ⟨b0, b1⟩ := HQm.out _ HW.out
      have FQ := (At.new2 wr (.int .i64 q.1) (.int .i64 q.2) 24).alloc (.cells #[.int .i64 r.1, .int .i64 r.2] 24)
      have FR := At.nx2 (W := wr) (.cells #[.int .i64 q.1, .int .i64 q.2] 24) (.int .i64 r.1) (.int .i64 r.2) 24
      have FS := ((At.below HG.out.out HFS.out).alloc (.cells #[.int .i64 q.1, .int .i64 q.2] 24)).alloc (.cells #[.int .i64 r.1, .int .i64 r.2] 24)
      have HGA := hidb ((HG.out.alloc (.cells #[.int .i64 q.1, .int .i64 q.2] 24)).alloc (.cells #[.int .i64 r.1, .int .i64 r.2] 24))
      clear h1 hkn hm hs1 hmn hed HCs hcl hz ez hes
      go_upto_region 7 with fail
      clear a0 a1 b0 b1 bn1 bn2 ix ixm
      generalize (wr.alloc (.cells #[.int .i64 q.1, .int .i64 q.2] 24)).alloc (.cells #[.int .i64 r.1, .int .i64 r.2] 24) = W1 at *
      obtain ⟨f0, f1⟩ := FQ.c2
      obtain ⟨g0, g1⟩ := FR.c2
      obtain ⟨t0, t1⟩ := FS.c2
      go_wp2_with fail
      refine (HC0.out _).mono ?_
      rintro e w2 ⟨rfl, hB⟩
      replace FQ := At.below hB.out FQ
      replace FR := At.below hB.out FR
      replace FS := At.below hB.out FS
      replace HGA := hidb (Gr.step HGA.out hB.out)
      clear f0 f1 g0 g1 t0 t1 hB
      by_cases d0 : hsP (q, r) s
      · rw [decide_eq_true d0]
        obtain rfl := HR1.out d0
        clear d0
        go_wp2
        go_ret
        exact ⟨rfl, Gr.step HGG.out HGA.out⟩
      · rw [decide_eq_false d0]
        have HI3 := hidb (HI2.out d0)
        clear d0
        obtain ⟨f0, f1⟩ := FQ.c2
        obtain ⟨g0, g1⟩ := FR.c2
        obtain ⟨t0, t1⟩ := FS.c2
        by_cases a1' : q.2 ≤ s.2
        · by_cases a2' : s.2 < r.2
          · by_cases a3' : 0 < tn q r s
            · have HZ := hidb (HZ1.out (HES.out.2 (.inl ⟨a1', a2', a3'⟩)))
              have b1' : ¬ r.2 ≤ s.2 := by omega
              have ez := HEZ.out
              go_wp2_with fail
              refine (HC1.out _).mono ?_
              rintro e w3 ⟨rfl, hB⟩
              replace FQ := At.below hB.out FQ
              replace FR := At.below hB.out FR
              replace FS := At.below hB.out FS
              replace HGA := hidb (Gr.step HGA.out hB.out)
              clear f0 f1 g0 g1 t0 t1 hB
              obtain ⟨f0, f1⟩ := FQ.c2
              obtain ⟨g0, g1⟩ := FR.c2
              obtain ⟨t0, t1⟩ := FS.c2
              go_wp2
              go_roundw
              case rel => exact ⟨k + 1, HKN.out, by rw [HS1.out], by rw [HZ.out], HI3, HGA⟩
              case measure => have := HKN.out; rw [HS1.out]; simp [intOf]; omega
            · have HZ := hidb (HZ0.out (fun hh => by rcases HES.out.1 hh with hx | hx <;> omega))
              have b1' : ¬ r.2 ≤ s.2 := by omega
              go_wp2_with fail
              refine (HC1.out _).mono ?_
              rintro e w3 ⟨rfl, hB⟩
              replace FQ := At.below hB.out FQ
              replace FR := At.below hB.out FR
              replace FS := At.below hB.out FS
              replace HGA := hidb (Gr.step HGA.out hB.out)
              clear f0 f1 g0 g1 t0 t1 hB
              obtain ⟨f0, f1⟩ := FQ.c2
              obtain ⟨g0, g1⟩ := FR.c2
              obtain ⟨t0, t1⟩ := FS.c2
              go_wp2
              go_roundw
              case rel => exact ⟨k + 1, HKN.out, by rw [HS1.out], by rw [HZ.out], HI3, HGA⟩
              case measure => have := HKN.out; rw [HS1.out]; simp [intOf]; omega
          · have HZ := hidb (HZ0.out (fun hh => by rcases HES.out.1 hh with hx | hx <;> omega))
            have b1' : r.2 ≤ s.2 := by omega
            have b2' : ¬ s.2 < q.2 := by omega
            go_wp2
            go_roundw
            case rel => exact ⟨k + 1, HKN.out, by rw [HS1.out], by rw [HZ.out], HI3, HGA⟩
            case measure => have := HKN.out; rw [HS1.out]; simp [intOf]; omega
        · by_cases b1' : r.2 ≤ s.2
          · have b2' : s.2 < q.2 := by omega
            by_cases b3' : tn q r s < 0
            · have HZ := hidb (HZ1.out (HES.out.2 (.inr ⟨b1', b2', b3'⟩)))
              have ez := HEZ.out
              go_wp2_with fail
              refine (HC1.out _).mono ?_
              rintro e w3 ⟨rfl, hB⟩
              replace FQ := At.below hB.out FQ
              replace FR := At.below hB.out FR
              replace FS := At.below hB.out FS
              replace HGA := hidb (Gr.step HGA.out hB.out)
              clear f0 f1 g0 g1 t0 t1 hB
              obtain ⟨f0, f1⟩ := FQ.c2
              obtain ⟨g0, g1⟩ := FR.c2
              obtain ⟨t0, t1⟩ := FS.c2
              go_wp2
              go_roundw
              case rel => exact ⟨k + 1, HKN.out, by rw [HS1.out], by rw [HZ.out], HI3, HGA⟩
              case measure => have := HKN.out; rw [HS1.out]; simp [intOf]; omega
            · have HZ := hidb (HZ0.out (fun hh => by rcases HES.out.1 hh with hx | hx <;> omega))
              go_wp2_with fail
              refine (HC1.out _).mono ?_
              rintro e w3 ⟨rfl, hB⟩
              replace FQ := At.below hB.out FQ
              replace FR := At.below hB.out FR
              replace FS := At.below hB.out FS
              replace HGA := hidb (Gr.step HGA.out hB.out)
              clear f0 f1 g0 g1 t0 t1 hB
              obtain ⟨f0, f1⟩ := FQ.c2
              obtain ⟨g0, g1⟩ := FR.c2
              obtain ⟨t0, t1⟩ := FS.c2
              go_wp2
              go_roundw
              case rel => exact ⟨k + 1, HKN.out, by rw [HS1.out], by rw [HZ.out], HI3, HGA⟩
              case measure => have := HKN.out; rw [HS1.out]; simp [intOf]; omega
          · have HZ := hidb (HZ0.out (fun hh => by rcases HES.out.1 hh with hx | hx <;> omega))
            go_wp2
            go_roundw
            case rel => exact ⟨k + 1, HKN.out, by rw [HS1.out], by rw [HZ.out], HI3, HGA⟩
            case measure => have := HKN.out; rw [HS1.out]; simp [intOf]; omega
end Go.Proofs.YtnhehehbidhlcaaDoor
