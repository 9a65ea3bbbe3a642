/-
  A slice of ranges that the law is handed: it may begin anywhere in its block. mercatorref3.RangesError, mercatorlaw3.ranges of it.
-/
import Derived.Test.YtehkonddgiakaaaDoorQFxH
namespace Go.Proofs.YtehkonddgiakaaaDoor
open Go.RowKit
attribute [local go_sem ↓] Go.wp_at_zero Go.wp_at_succ

def RRo (w : World) (b o : Nat) (l : List Rg) : Prop := (∀ i, (h : i < l.length) → w.cell? ⟨b, o + i * 3, none⟩ = some (.int .i64 l[i].x) ∧ w.cell? ⟨b, o + i * 3 + 1, none⟩ = some (.int .i64 l[i].y) ∧ w.cell? ⟨b, o + i * 3 + 2, none⟩ = some (.int .i64 l[i].q)) ∧ b < w.heap.size
theorem RRo.below {W w' : World} {b o : Nat} {l : List Rg} (hB : Below W.heap.size W w') (h : RRo W b o l) : RRo w' b o l := by
  refine ⟨fun i hi => ?_, Nat.lt_of_lt_of_le h.2 hB.size⟩
  obtain ⟨k0, k1, k2⟩ := h.1 i hi
  have e := fun j => hB.cell (p := ⟨b, j, none⟩) h.2
  exact ⟨(e _).trans k0, (e _).trans k1, (e _).trans k2⟩
theorem oindex (b o n cap k : Nat) (hk : k < n) (w : World) : (Instr.indexAt 22 (.slice (some ⟨b, o, none⟩) n cap) (.int .i64 k)).run Tryd.prog w = .ok (.pointer (some ⟨b, o + k * 3, none⟩)) w := by
  have hu : Tryd.prog.underlying 22 = some (.slice (Tryd.prog.elem 22)) := by kernel_rfl
  refine (run_indexAt_slice (P := Tryd.prog) (w := w) 22 ⟨b, o, none⟩ n cap .i64 (k : Int) hu).trans ?_
  rw [if_pos ⟨by omega, by omega⟩]
  have hs : (sizeOf (Tryd.prog.elem 22)).run Tryd.prog w = .ok 3 w := by kernel_rfl
  rw [hs]
  simp [Addr.add]
  try (intro h; omega)
structure RSo (w : World) (ad : Option Addr) (b o cap : Nat) (l : List Rg) : Prop where
  row : RRo w b o l ∨ l = []
  ix : ∀ k : Nat, k < l.length → ∀ w, (Instr.indexAt 22 (.slice ad l.length cap) (.int .i64 k)).run Tryd.prog w = .ok (.pointer (some ⟨b, o + k * 3, none⟩)) w
theorem RSo.below {W w' : World} {ad : Option Addr} {b o cap : Nat} {l : List Rg} (hB : Below W.heap.size W w') (h : RSo W ad b o cap l) : RSo w' ad b o cap l :=
  ⟨h.row.imp (fun r => r.below hB) id, h.ix⟩
theorem RSo.cell {W : World} {ad : Option Addr} {b o cap : Nat} {l : List Rg} (h : RSo W ad b o cap l) {k : Nat} (hk : k < l.length) : W.cell? ⟨b, o + k * 3, none⟩ = some (.int .i64 l[k].x) ∧ W.cell? ⟨b, o + k * 3 + 1, none⟩ = some (.int .i64 l[k].y) ∧ W.cell? ⟨b, o + k * 3 + 2, none⟩ = some (.int .i64 l[k].q) := by
  have hn : l ≠ [] := by intro e; rw [e] at hk; simp at hk
  exact (h.row.resolve_right hn).1 k hk
set_option maxRecDepth 4000 in
set_option maxHeartbeats 4000000 in
theorem rangesErrorO (ad : Option Addr) (b o cap : Nat) (l : List Rg) (w : World) (h : RSo w ad b o cap l) (ll : l.length ≤ 1000) : Calls Tryd.prog 9 #[.slice ad l.length cap] w fun e w' => e = .returned (.int .i64 (rcode l : Int)) ∧ Gr w w' := by
  have HR := hidb h
  clear h
  by_cases c : 60 < l.length
  · have HE : Hid (rcode l = 2) := by unfold rcode Hid; rw [if_pos c]
    go_enter Tryd.func9, Tryd.ntmps9
    go_wp2
    go_ret
    exact ⟨by rw [HE.out]; rfl, Gr.refl _⟩
  · go_enter Tryd.func9, Tryd.ntmps9
    go_wp2
    go_loopw [3] (fun t wr => ∃ (k : Nat), k ≤ l.length ∧ t = .int .i64 (k : Int) ∧ Hid (∀ r ∈ l.take k, okR r) ∧ Hid (Gr w wr)) (fun t _ => l.length - (intOf t).toNat)
    case atStart => exact ⟨0, Nat.zero_le _, rfl, (by intro r hr; simp at hr), Gr.refl _⟩
    case round =>
      obtain ⟨k, hk, rfl, HK, HG⟩ := hrel
      by_cases h1 : k < l.length
      · obtain ⟨c0, c1, c2⟩ := (HR.out.below HG.out.out).cell h1
        have ix := HR.out.ix k h1
        have HOK := hidb (fun ho => ok_step h1 HK.out ho)
        have HNO : Hid (¬ okR l[k] → rcode l = 3) := fun hn => by
          unfold rcode
          rw [if_neg c, if_neg (fun ha => hn (ha _ (List.getElem_mem h1)))]
        have HCL := hidb (fun w' (hB : Below w.heap.size w w') => (HR.out.below hB).cell h1)
        generalize l[k] = r at *
        obtain ⟨x, y, q⟩ := r
        dsimp only at c0 c1 c2 HCL
        have HP := hidb (fun w => isPlace_any x y w)
        by_cases d1 : inP x y
        · rw [decide_eq_true d1] at HP
          have HD1 := hidb d1
          clear d1
          go_wp2_with fail
          refine (HP.out _).mono ?_
          rintro e w1 ⟨rfl, hB, _⟩
          have HG2 := hidb (Gr.step HG.out hB)
          clear hB c0 c1 c2
          obtain ⟨c0, c1, c2⟩ := HCL.out w1 HG2.out
          by_cases d2 : q < 0
          · have HE := hidb (HNO.out (fun h => by have : 0 ≤ q := h.2.1; omega))
            go_wp2
            go_ret
            exact ⟨by rw [HE.out]; rfl, HG2.out⟩
          · by_cases d3 : 4503599627370496 < q
            · have HE := hidb (HNO.out (fun h => by have : q ≤ 4503599627370496 := h.2.2; omega))
              go_wp2
              go_ret
              exact ⟨by rw [HE.out]; rfl, HG2.out⟩
            · have HE := hidb (HOK.out ⟨HD1.out, (show 0 ≤ q by omega), (show q ≤ 4503599627370496 by omega)⟩)
              go_wp2
              go_roundw
              case rel => exact ⟨k + 1, by omega, by go_num, HE.out, HG2.out⟩
              case measure => simp [intOf]; omega
        · rw [decide_eq_false d1] at HP
          have HE := hidb (HNO.out (fun h => d1 h.1))
          clear d1
          go_wp2_with fail
          refine (HP.out _).mono ?_
          rintro e w1 ⟨rfl, hB, _⟩
          have HG2 := hidb (Gr.step HG.out hB)
          clear hB c0 c1 c2
          obtain ⟨c0, c1, c2⟩ := HCL.out w1 HG2.out
          go_wp2
          go_ret
          exact ⟨by rw [HE.out]; rfl, HG2.out⟩
      · have HE : Hid (rcode l = 0) := by
          have ha := HK.out
          rw [List.take_of_length_le (by omega)] at ha
          unfold rcode Hid
          rw [if_neg c, if_pos ha]
        go_wp2
        go_ret
        exact ⟨by rw [HE.out]; rfl, HG.out⟩
set_option maxRecDepth 4000 in
set_option maxHeartbeats 4000000 in
theorem rangesO (ad : Option Addr) (b o cap : Nat) (l : List Rg) (w : World) (h : RSo w ad b o cap l) (ll : l.length ≤ 90) : Calls Tryd.prog 8 #[.slice ad l.length cap] w fun e w' => ∃ ad' b' cap', e = .returned (.slice ad' l.length cap') ∧ RSl 30 w' ad' b' cap' l ∧ Gr w w' := by
  have HR := hidb h
  clear h
  go_enter Tryd.func8, Tryd.ntmps8
  go_wp2
  go_loopw [3, 4] (fun v t wr => ∃ (k : Nat), k ≤ l.length ∧ t = .int .i64 (k : Int) ∧ wr.ownsRow w.heap.size 61 3 v k (rc (l.take k)) ∧ Hid (Gr w wr)) (fun _ t _ => l.length - (intOf t).toNat)
  case atStart => exact ⟨0, Nat.zero_le _, rfl, by simpa [rc] using World.ownsRow_nil w w.heap.size 61 3, Gr.refl _⟩
  case round =>
    obtain ⟨k, hk, rfl, hown, HG⟩ := hrel
    by_cases h1 : k < l.length
    · obtain ⟨c0, c1, c2⟩ := (HR.out.below HG.out.out).cell h1
      have ix := HR.out.ix k h1
      have HT : Hid (l.take (k + 1) = l.take k ++ [l[k]]) := List.take_succ_eq_append_getElem h1
      have hlen : (l.take k).length = k := by rw [List.length_take]; omega
      obtain ⟨r, hr⟩ : ∃ r, r = l[k] := ⟨_, rfl⟩
      rw [← hr] at c0 c1 c2 HT
      clear hr
      obtain ⟨x, y, q⟩ := r
      dsimp only at c0 c1 c2
      obtain ⟨ad1, cap1, rfl⟩ := own_shape3 hown
      have HOw := hidb hown
      have HLn := hidb hlen
      clear hown hlen
      go_upto_region 5 with fail
      go_region_law (refine step_r3 30 61 (.inl ⟨rfl, rfl⟩) _ w.heap.size (.slice ad1 k cap1) (l.take k) ⟨x, y, q⟩ k wr.heap.size _ _ rfl rfl rfl rfl HLn.out (by omega) (HOw.out.alloc _) (At.new3 _ _ _ _ _) (by have := HG.out.out.size; simp; omega) ?_; intro g cap2 w2 hown2 hgrow2)
      all_goals
        have HG2 : Hid (Gr w w2) := Below.grown (HG.out.drew.alloc _).out hgrow2 (by have := HG.out.out.size; simp; omega) (fun kk hkk => (HOw.out.lt kk hkk).1)
        rw [← HT.out] at hown2
        clear hgrow2 HOw HG HT c0 c1 c2 ix
        go_wp2
        go_roundw
      all_goals first
        | (case rel => exact ⟨k + 1, by omega, by go_num, hown2, HG2.out⟩)
        | (case measure => simp [intOf]; omega)
    · have hkl : k = l.length := by omega
      rw [hkl, List.take_of_length_le (Nat.le_refl _)] at hown
      obtain ⟨ad1, b1, cap1, rfl, hr1⟩ := own_rsl (T := 30) (.inl rfl) hown
      have H1 := hidb hr1
      clear hown hr1 hkl
      go_wp2
      go_ret
      exact ⟨ad1, b1, cap1, rfl, H1.out, HG.out⟩
end Go.Proofs.YtehkonddgiakaaaDoor
