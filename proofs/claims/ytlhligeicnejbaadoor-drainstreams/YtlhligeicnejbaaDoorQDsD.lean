/-
  drain.rank; the orders as they are told, from the last cell taken back.
-/
import Derived.Test.YtlhligeicnejbaaDoorQDsN
namespace Go.Proofs.YtlhligeicnejbaaDoor
open Go.RowKit
attribute [local go_sem ↓] Go.wp_at_zero Go.wp_at_succ

/-- One more cell: its order, handed on to where it flows. -/
def sst (m n : Nat) (l : List Int) (q : Int) (s : (Nat → Nat) × (Nat → Nat × Nat)) (x : Nat) : (Nat → Nat) × (Nat → Nat × Nat) :=
  if stB m n l q (oc m n l (l.length - 1 - x)) = true then
    (fun k => if k = oc m n l (l.length - 1 - x) then rkO (s.2 (oc m n l (l.length - 1 - x))) else s.1 k,
     if tw m n l (oc m n l (l.length - 1 - x)) = oc m n l (l.length - 1 - x) then s.2 else fun k => if k = tw m n l (oc m n l (l.length - 1 - x)) then wth (s.2 (tw m n l (oc m n l (l.length - 1 - x)))) (rkO (s.2 (oc m n l (l.length - 1 - x)))) else s.2 k)
  else s
def sF (m n : Nat) (l : List Int) (q : Int) (pre : List Nat) : (Nat → Nat) × (Nat → Nat × Nat) := pre.foldl (sst m n l q) (fun _ => 0, fun _ => (0, 0))
theorem sF_snoc (m n : Nat) (l : List Int) (q : Int) (pre : List Nat) (x : Nat) : sF m n l q (pre ++ [x]) = sst m n l q (sF m n l q pre) x := by simp [sF]
theorem sst_bd {m n : Nat} {l : List Int} {q : Int} {s : (Nat → Nat) × (Nat → Nat × Nat)} {B : Nat} (h : ∀ k, (s.2 k).1 ≤ B ∧ (s.2 k).2 ≤ B) (x : Nat) : ∀ k, ((sst m n l q s x).2 k).1 ≤ B + 1 ∧ ((sst m n l q s x).2 k).2 ≤ B + 1 := by
  intro k
  have h0 : (s.2 k).1 ≤ B + 1 ∧ (s.2 k).2 ≤ B + 1 := ⟨Nat.le_succ_of_le (h k).1, Nat.le_succ_of_le (h k).2⟩
  unfold sst
  split
  · dsimp only
    split
    · exact h0
    · dsimp only
      split
      · have h1 := h (tw m n l (oc m n l (l.length - 1 - x)))
        have h2 := rkO_bd (h (oc m n l (l.length - 1 - x))).1
        have h3 := wth_many (s.2 (tw m n l (oc m n l (l.length - 1 - x)))) (rkO (s.2 (oc m n l (l.length - 1 - x))))
        exact ⟨wth_le (by omega) h2, by omega⟩
      · exact h0
  · exact h0
theorem fold_bd {m n : Nat} {l : List Int} {q : Int} : ∀ (pre : List Nat) (s : (Nat → Nat) × (Nat → Nat × Nat)) (B : Nat), (∀ k, (s.2 k).1 ≤ B ∧ (s.2 k).2 ≤ B) → ∀ k, ((pre.foldl (sst m n l q) s).2 k).1 ≤ B + pre.length ∧ ((pre.foldl (sst m n l q) s).2 k).2 ≤ B + pre.length
  | [], _, _, h, k => h k
  | x :: pre, s, B, h, k => by
    have := fold_bd (m := m) (n := n) (l := l) (q := q) pre _ (B + 1) (sst_bd (m := m) (n := n) (l := l) (q := q) h x) k
    rw [List.foldl_cons, List.length_cons]
    omega
theorem sF_bd (m n : Nat) (l : List Int) (q : Int) (pre : List Nat) (k : Nat) : ((sF m n l q pre).2 k).1 ≤ pre.length ∧ ((sF m n l q pre).2 k).2 ≤ pre.length := by
  have := fold_bd (m := m) (n := n) (l := l) (q := q) pre (fun _ => 0, fun _ => (0, 0)) 0 (fun _ => ⟨Nat.le_refl _, Nat.le_refl _⟩) k
  unfold sF
  omega
theorem sF_eq {m n : Nat} {l : List Int} (q : Int) (hm : 1 ≤ m) (hl : l.length = m * n) : ∀ j, j ≤ l.length → (∀ c, c < l.length → (sF m n l q (List.range j)).1 c = ouS m n l q j c) ∧ ∀ c, (sF m n l q (List.range j)).2 c = rkS m n l q j c
  | 0, _ => ⟨fun c _ => by simp [sF, ouS, prc], fun c => by rw [rkS_zero]; rfl⟩
  | j + 1, hj => by
    obtain ⟨h1, h2⟩ := sF_eq q hm hl j (by omega)
    rw [List.range_succ, sF_snoc]
    unfold sst
    by_cases hs : stB m n l q (oc m n l (l.length - 1 - j)) = true
    · rw [if_pos hs, h2, h2, rkS_so m n l q hm hl (by omega)]
      refine ⟨fun c hc => ?_, fun c => ?_⟩
      · rw [ouS_new m n l q (by omega) hc]
        show (if c = _ then _ else _) = _
        by_cases e : c = oc m n l (l.length - 1 - j)
        · rw [if_pos e, if_pos ⟨e, by rw [e]; exact hs⟩, e]
        · rw [if_neg e, if_neg (fun x => e x.1), h1 c hc]
      · have hf := flB_tw m n l q (c := c) hs
        by_cases e : tw m n l (oc m n l (l.length - 1 - j)) = oc m n l (l.length - 1 - j)
        · rw [if_pos e, h2, rkS_no m n l q (by rw [hf]; simp [e])]
        · rw [if_neg e]
          show (if c = _ then _ else _) = _
          by_cases e2 : c = tw m n l (oc m n l (l.length - 1 - j))
          · rw [if_pos e2, rkS_yes m n l q (by rw [hf]; exact decide_eq_true ⟨e2, e⟩), ← e2]
          · rw [if_neg e2, h2, rkS_no m n l q (by rw [hf]; exact decide_eq_false (fun x => e2 x.1))]
    · rw [if_neg hs]
      have hs' : stB m n l q (oc m n l (l.length - 1 - j)) = false := by simpa using hs
      refine ⟨fun c hc => ?_, fun c => ?_⟩
      · rw [ouS_new m n l q (by omega) hc, h1 c hc]
        rw [if_neg (fun x : _ ∧ _ => hs (by rw [← x.1]; exact x.2))]
      · rw [h2, rkS_no m n l q (flB_no m n l q hs')]
/-- Two numbers a cell. -/
def kfn (f : Nat → Nat × Nat) (j : Nat) : Int := if j % 2 = 0 then ((f (j / 2)).1 : Int) else ((f (j / 2)).2 : Int)
theorem kfn_even (f : Nat → Nat × Nat) (c : Nat) : kfn f (2 * c) = ((f c).1 : Int) := by unfold kfn; rw [if_pos (by omega), show 2 * c / 2 = c by omega]
theorem kfn_odd (f : Nat → Nat × Nat) (c : Nat) : kfn f (2 * c + 1) = ((f c).2 : Int) := by unfold kfn; rw [if_neg (by omega), show (2 * c + 1) / 2 = c by omega]
theorem kfn_set {N : Nat} (f : Nat → Nat × Nat) {c : Nat} (p : Nat × Nat) : ((iF (2 * N) (kfn f)).set (2 * c) (p.1 : Int)).set (2 * c + 1) (p.2 : Int) = iF (2 * N) (kfn (fun k => if k = c then p else f k)) := by
  rw [iF_set (kfn f) (fun j => if j = 2 * c then (p.1 : Int) else kfn f j) (p.1 : Int) (fun _ _ => rfl)]
  refine iF_set _ _ _ (fun j _ => ?_)
  unfold kfn
  dsimp only
  by_cases e : j / 2 = c
  · by_cases e2 : j % 2 = 0
    · rw [if_neg (show ¬ j = 2 * c + 1 by omega), if_pos (show j = 2 * c by omega), if_pos e2, if_pos e]
    · rw [if_pos (show j = 2 * c + 1 by omega), if_neg e2, if_pos e]
  · rw [if_neg (show ¬ j = 2 * c + 1 by omega), if_neg (show ¬ j = 2 * c by omega), if_neg e]
theorem infoR : (Tryd.prog.info? 63).map (fun i => (i.zero, i.size, i.bytes)) = some (some (.agg #[.int .i64 0, .int .i64 0]), 2, 16) := by kernel_rfl
theorem undR : Tryd.prog.underlying 54 = some (.slice 63) := by kernel_rfl
theorem made_runR (K : Nat) (hK : K ≤ 20000) : ∃ CS : Array Value, CS.toList = ir (List.replicate (2 * K) 0) ∧ ∀ w, (Instr.makeSlice 54 (.int .i64 (K : Int)) (.int .i64 (K : Int))).run Tryd.prog w = .ok (.slice (some ⟨w.heap.size, 0, none⟩) K K) (w.alloc (.cells CS 63)) := by
  obtain ⟨i0, hi, hz0, hz1, hz2⟩ := info_parts infoR
  refine ⟨madeCells #[.int .i64 0, .int .i64 0] (K * 2), ?_, fun w => ?_⟩
  · apply List.ext_getElem
    · simp [madeCells]; omega
    · intro j h1 h2
      have hj : j % 2 = 0 ∨ j % 2 = 1 := by omega
      rcases hj with e | e <;> simp [madeCells, e]
  · have := run_makeSlice (P := Tryd.prog) w 54 63 i0 (.agg #[.int .i64 0, .int .i64 0]) undR hi hz0 .i64 .i64 (K : Int) (K : Int) (by omega) (Int.le_refl _) (by rw [hz1]; omega) (by rw [hz2]; omega) (by omega)
    rw [hz1, Int.toNat_natCast] at this
    exact this
theorem rindex (b n cap k : Nat) (hk : k < n) (w : World) : (Instr.indexAt 54 (.slice (some ⟨b, 0, none⟩) n cap) (.int .i64 k)).run Tryd.prog w = .ok (.pointer (some ⟨b, 2 * k, none⟩)) w := by
  have hu : Tryd.prog.underlying 54 = some (.slice (Tryd.prog.elem 54)) := by kernel_rfl
  refine (run_indexAt_slice (P := Tryd.prog) (w := w) 54 ⟨b, 0, none⟩ n cap .i64 (k : Int) hu).trans ?_
  rw [if_pos ⟨by omega, by omega⟩]
  have hs : (sizeOf (Tryd.prog.elem 54)).run Tryd.prog w = .ok 2 w := by kernel_rfl
  rw [hs]
  simp [Addr.add]
  by_cases e : k = 0
  · subst e; rfl
  · rw [if_neg (by omega), Nat.mul_comm]
set_option maxRecDepth 4000 in
set_option maxHeartbeats 4000000 in
theorem order_any (r : Nat × Nat) (h : r.1 ≤ 20000 ∧ r.2 ≤ 20000) (w : World) : Calls Tryd.prog 19 #[.agg #[.int .i64 (r.1 : Int), .int .i64 (r.2 : Int)]] w fun e w' => e = .returned (.int .i64 (rkO r : Int)) ∧ Gr w w' := by
  obtain ⟨a, b⟩ := r
  have HG := hidb ((Gr.refl w).alloc (.cells #[.int .i64 (a : Int), .int .i64 (b : Int)] 63))
  unfold rkO
  dsimp only at h ⊢
  by_cases hb : b = 1
  · rw [if_pos hb]
    have hb' : (b : Int) = 1 := by omega
    obtain ⟨bI, hbI⟩ : ∃ z : Int, z = (b : Int) := ⟨_, rfl⟩
    rw [← hbI] at hb' HG ⊢
    subst hb'
    clear hb h hbI
    go_enter Tryd.func19, Tryd.ntmps19
    go_wp2
    go_ret
    exact ⟨rfl, HG.out⟩
  · rw [if_neg hb]
    have hb' : ¬ (b : Int) = 1 := by omega
    have e1 : IntKind.i64.wrap ((a : Int) + 1) = ((a + 1 : Nat) : Int) := by rw [show (a : Int) + 1 = ((a + 1 : Nat) : Int) by omega]; exact wrap_in (by omega) (by omega)
    clear hb h
    go_enter Tryd.func19, Tryd.ntmps19
    go_wp2
    go_ret
    exact ⟨by simp, HG.out⟩
set_option maxRecDepth 4000 in
set_option maxHeartbeats 4000000 in
theorem with_any (r : Nat × Nat) (o : Nat) (h : r.1 ≤ 20000 ∧ r.2 ≤ 20000) (w : World) : Calls Tryd.prog 21 #[.agg #[.int .i64 (r.1 : Int), .int .i64 (r.2 : Int)], .int .i64 (o : Int)] w fun e w' => e = .returned (.agg #[.int .i64 ((wth r o).1 : Int), .int .i64 ((wth r o).2 : Int)]) ∧ Gr w w' := by
  obtain ⟨a, b⟩ := r
  dsimp only at h ⊢
  have hs : w.heap.size ≤ w.heap.size + 1 := by omega
  have A1 := At.nx2 (W := w) (.cells #[.int .i64 (a : Int), .int .i64 (b : Int)] 63) (.int .i64 0) (.int .i64 0) 63
  have HG := hidb (((Gr.refl w).alloc (.cells #[.int .i64 (a : Int), .int .i64 (b : Int)] 63)).alloc (.cells #[.int .i64 0, .int .i64 0] 63))
  rcases Nat.lt_trichotomy a o with hlt | heq | hgt
  · have hw : wth (a, b) o = (o, 1) := by unfold wth; rw [if_pos hlt]
    rw [hw]
    have k1 : (a : Int) < (o : Int) := by omega
    clear hw hlt h A1
    go_enter Tryd.func21, Tryd.ntmps21
    go_wp2
    refine bodyPost_ret (v := .agg #[.int .i64 (o : Int), .int .i64 1]) (by simp [results, Tryd.results21, go_sem]) rfl ⟨rfl, ?_⟩
    first | exact (HG.out.set hs _ _).set hs _ _ | exact ((Gr.refl w).alloc _).alloc _
  · subst heq
    have hw : wth (a, b) a = (a, b + 1) := by unfold wth; rw [if_neg (by dsimp only; omega), if_pos rfl]
    rw [hw]
    have k1 : ¬ (a : Int) < (a : Int) := by omega
    have e1 : IntKind.i64.wrap ((b : Int) + 1) = ((b + 1 : Nat) : Int) := by rw [show (b : Int) + 1 = ((b + 1 : Nat) : Int) by omega]; exact wrap_in (by omega) (by omega)
    clear hw h A1
    go_enter Tryd.func21, Tryd.ntmps21
    go_wp2
    refine bodyPost_ret (v := .agg #[.int .i64 (a : Int), .int .i64 ((b + 1 : Nat) : Int)]) (by simp [results, Tryd.results21, go_sem]) rfl ⟨rfl, ?_⟩
    first | exact ((HG.out.set (Nat.le_refl _) _ _).set hs _ _).set hs _ _ | exact ((Gr.refl w).alloc _).alloc _
  · have hw : wth (a, b) o = (a, b) := by unfold wth; rw [if_neg (by dsimp only; omega), if_neg (by dsimp only; omega)]
    rw [hw]
    have k1 : ¬ (a : Int) < (o : Int) := by omega
    have k2 : ¬ (o : Int) = (a : Int) := by omega
    clear hw hgt h A1
    go_enter Tryd.func21, Tryd.ntmps21
    go_wp2
    refine bodyPost_ret (v := .agg #[.int .i64 (a : Int), .int .i64 (b : Int)]) (by simp [results, Tryd.results21, go_sem]) rfl ⟨rfl, ?_⟩
    first | exact (HG.out.set hs _ _).set hs _ _ | exact ((Gr.refl w).alloc _).alloc _
end Go.Proofs.YtlhligeicnejbaaDoor
