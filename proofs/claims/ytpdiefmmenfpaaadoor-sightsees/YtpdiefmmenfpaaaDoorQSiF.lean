/-
  sight.line's free.
-/
import Derived.Test.YtpdiefmmenfpaaaDoorQSiE
namespace Go.Proofs.YtpdiefmmenfpaaaDoor
open Go.RowKit Go.Shelf
attribute [local go_sem] Oper.semAt_some

theorem keeps_below {W W' : World} (h : Below W.heap.size W W') : KeepsOthers W W' :=
  ⟨h.size, fun k o hk _ => by
    have hlt := (Array.getElem?_eq_some_iff.1 hk).1
    exact (h.block k hlt).trans hk⟩
theorem At.kept {W W' : World} {row : Option Nat} {B : Nat} {L : List Value} (h : At W B L) (hg : W.grownBy W' row) (hr : ∀ r, row = some r → ∃ o : Obj, W.heap[r]? = some o ∧ o.isCells = false) : At W' B L :=
  ⟨fun i hi => ⟨cell_kept (h.1 i hi).1 hg hr, (frozen_kept (h.1 i hi).1 hg hr).trans (h.1 i hi).2⟩, Nat.lt_of_lt_of_le h.2 hg.size⟩
theorem At.fz1 {W : World} {B : Nat} {a : Value} (h : At W B [a]) : W.frozen? ⟨B, 0, none⟩ = false := (h.1 0 (by simp)).2
/-- A stop's bounds. -/
theorem St.bd {c0 r0 c1 r1 : Nat} (x : St c0 r0 c1 r1) (b1 : c0 < 128) (b2 : c1 < 128) (b3 : r0 < 128) (b4 : r1 < 128) : 1 ≤ x.1.1 ∧ x.1.1 < x.1.2 ∧ x.1.2 ≤ 254 := ⟨(sts_in x.2).1, (sts_in x.2).2, sts_le x.2 b1 b2 b3 b4⟩
/-- What lies in memory between two rounds of free. -/
structure FI (W : World) (B : Nat) (L : List Value) (v : Value) : Prop where
  l : At W B L
  r : At W (B + 1) [v]
theorem FI.kept {W W' : World} {row : Option Nat} {B : Nat} {L : List Value} {v : Value} (h : FI W B L v) (hg : W.grownBy W' row) (hr : ∀ r, row = some r → ∃ o : Obj, W.heap[r]? = some o ∧ o.isCells = false) : FI W' B L v := ⟨h.l.kept hg hr, h.r.kept hg hr⟩
theorem FI.below {W W' : World} {B : Nat} {L : List Value} {v : Value} (h : FI W B L v) (hB : Below W.heap.size W W') : FI W' B L v := ⟨At.below hB h.l, At.below hB h.r⟩
set_option maxRecDepth 100000 in
set_option maxHeartbeats 8000000 in
theorem free_any {b o cap m n c0 r0 c1 r1 : Nat} {l : List Int} (x y : Int) (w : World) (h : Rs w b o cap l) (ok : Ok l m n) (hc0 : c0 < m) (hc1 : c1 < m) (hr0 : r0 < n) (hr1 : r1 < n) (hx : hiE x) (hy : hiE y) : Calls Tryd.prog 39 #[lnV m n (.slice (some ⟨b, o, none⟩) l.length cap) (c0 : Int) (r0 : Int) ((c1 : Int) - c0) ((r1 : Int) - r0) x y] w fun e w' => e = .returned (.bool (decide (frK l m n c0 r0 c1 r1 x y))) ∧ Gr w w' := by
  have hm2 := ok.m2
  have hn2 := ok.n2
  have HB4 := hidb (show c0 < 128 ∧ c1 < 128 ∧ r0 < 128 ∧ r1 < 128 by omega)
  have HLk := hidb (fun (p : St c0 r0 c1 r1) (W : World) (hG : Gr w W) => lack_any (k := p.1.1) (p := p.1.2) x y W (h.below hG.out) ok hc0 hc1 hr0 hr1 hx hy (p.bd HB4.out.1 HB4.out.2.1 HB4.out.2.2.1 HB4.out.2.2.2).1 (p.bd HB4.out.1 HB4.out.2.1 HB4.out.2.2.1 HB4.out.2.2.2).2.1 (p.bd HB4.out.1 HB4.out.2.1 HB4.out.2.2.1 HB4.out.2.2.2).2.2)
  obtain ⟨lk, hlk⟩ : ∃ f, f = lkK l m n c0 r0 c1 r1 x y := ⟨_, rfl⟩
  obtain ⟨bb, hbb⟩ : ∃ bb, bb = decide (frK l m n c0 r0 c1 r1 x y) := ⟨_, rfl⟩
  have HT : Hid ((∀ p ∈ sts c0 r0 c1 r1, lk p ≤ 0) → bb = true) := fun hall => by rw [hbb, hlk] at *; exact decide_eq_true hall
  have HF : Hid ((∃ p ∈ sts c0 r0 c1 r1, 0 < lk p) → bb = false) := fun ⟨p, hp, h0⟩ => by
    rw [hbb, hlk] at *
    exact decide_eq_false fun k => by have := k p hp; omega
  have HLp : Hid (∀ (p : St c0 r0 c1 r1) (W : World), Gr w W → Calls Tryd.prog 60 #[lnV m n (.slice (some ⟨b, o, none⟩) l.length cap) (c0 : Int) (r0 : Int) ((c1 : Int) - c0) ((r1 : Int) - r0) x y, .int .i64 (p.1.1 : Int), .int .i64 (p.1.2 : Int)] W fun e w' => e = .returned (.int .i64 (lk p.1)) ∧ Gr W w') := by rw [hlk]; exact HLk.out
  rw [← hbb]
  obtain ⟨eI, heI⟩ : ∃ z : Int, z = (c1 : Int) - c0 := ⟨_, rfl⟩
  obtain ⟨sI, hsI⟩ : ∃ z : Int, z = (r1 : Int) - r0 := ⟨_, rfl⟩
  have HE := hidb (show eI = (c1 : Int) - c0 ∧ sI = (r1 : Int) - r0 from ⟨heI, hsI⟩)
  rw [← heI, ← hsI] at HLp ⊢
  generalize l.length = N at *
  obtain ⟨cI, hcI⟩ : ∃ z : Int, z = (c0 : Int) := ⟨_, rfl⟩
  obtain ⟨rI, hrI⟩ : ∃ z : Int, z = (r0 : Int) := ⟨_, rfl⟩
  rw [← hcI, ← hrI] at HLp ⊢
  clear hm2 hn2 HLk hlk hbb heI hsI hcI hrI h ok hc0 hc1 hr0 hr1 hx hy
  refine (callsIn_wide (n := 3)).1 ?_
  refine callsIn_of_wp_marks Tryd.func39 rfl trivial ?_ rfl
  simp only [Tryd.ntmps39, List.size_toArray, List.length_cons, List.length_nil, Nat.reduceAdd, Nat.reduceSub, Array.replicate_succ, Array.replicate_zero, List.push_toArray, List.append_toArray, List.nil_append, List.cons_append]
  gi_wp2_with fail
  refine ⟨trivial, (stopsM_in Fence.wide 2 trivial rfl m n (.slice (some ⟨b, o, none⟩) N cap) cI rI eI sI x y _).mono ?_⟩
  rintro e w' ⟨rfl, rfl⟩
  gi_wp2
  have A0 := At.newRow w (lnC m n (.slice (some ⟨b, o, none⟩) N cap) cI rI eI sI x y) 78
  have A1 := A0.alloc (.cells #[.bool false] 4)
  have R1 := At.nx1 (W := w) (.cells (lnC m n (.slice (some ⟨b, o, none⟩) N cap) cI rI eI sI x y).toArray 78) (.bool false) 4
  have G1 := ((Gr.refl w).alloc (.cells (lnC m n (.slice (some ⟨b, o, none⟩) N cap) cI rI eI sI x y).toArray 78)).alloc (.cells #[.bool false] 4)
  have hs1 : ((w.alloc (.cells (lnC m n (.slice (some ⟨b, o, none⟩) N cap) cI rI eI sI x y).toArray 78)).alloc (.cells #[.bool false] 4)).heap.size = w.heap.size + 1 + 1 := by simp
  show Code.wpIn _ _ _ _ _ _ (((w.alloc (.cells (lnC m n (.slice (some ⟨b, o, none⟩) N cap) cI rI eI sI x y).toArray 78)).alloc (.cells #[.bool false] 4)).alloc (.cells (lnC m n (.slice (some ⟨b, o, none⟩) N cap) cI rI eI sI x y).toArray 78))
  generalize (w.alloc (.cells (lnC m n (.slice (some ⟨b, o, none⟩) N cap) cI rI eI sI x y).toArray 78)).alloc (.cells #[.bool false] 4) = w2 at *
  have B3 := At.newRow w2 (lnC m n (.slice (some ⟨b, o, none⟩) N cap) cI rI eI sI x y) 78
  have A3 := A1.alloc (.cells (lnC m n (.slice (some ⟨b, o, none⟩) N cap) cI rI eI sI x y).toArray 78)
  have R3 := R1.alloc (.cells (lnC m n (.slice (some ⟨b, o, none⟩) N cap) cI rI eI sI x y).toArray 78)
  have G3 := G1.alloc (.cells (lnC m n (.slice (some ⟨b, o, none⟩) N cap) cI rI eI sI x y).toArray 78)
  rw [hs1] at B3
  clear A0 A1 R1 G1
  generalize w2.alloc (.cells (lnC m n (.slice (some ⟨b, o, none⟩) N cap) cI rI eI sI x y).toArray 78) = w3 at *
  have hwl := G3.out.size
  have hcE := B3.c9.2.2.2.2.2.1
  have hcS := B3.c9.2.2.2.2.2.2.1
  rw [HE.out.1] at hcE
  rw [HE.out.2] at hcS
  refine wpIn_rangeFunc_ownG (α := St c0 r0 c1 r1) rfl (by decide) (gf := 61) (lb := #[.pointer (some ⟨w.heap.size + 1 + 1, 0, none⟩)]) rfl trivial (enters_of Tryd.func61 (by kernel_rfl) rfl)
    (stops_stops 2 (by decide) (w.heap.size + 1 + 1) HB4.out.1 HB4.out.2.1 HB4.out.2.2.1 HB4.out.2.2.2 w3 B3.lt hcE hcS) (fun _ _ => trivial) (fun _ _ _ _ _ _ _ _ => trivial) (Below.refl _ _) (fun _ => rfl)
    (fun pre W => (FI W w.heap.size (lnC m n (.slice (some ⟨b, o, none⟩) N cap) cI rI eI sI x y) (.bool false) ∧ ∀ p ∈ pre, lk p.1 ≤ 0) ∧ Below w.heap.size w W)
    (fun c _ W => (c = .ret ∧ FI W w.heap.size (lnC m n (.slice (some ⟨b, o, none⟩) N cap) cI rI eI sI x y) (.bool false) ∧ ∃ p ∈ sts c0 r0 c1 r1, 0 < lk p) ∧ Below w.heap.size w W)
    (OwnFrom.and (Own.from (fun s A B row hs hg hr => ⟨hs.1.kept hg hr, hs.2⟩) _) (ownFrom_below (Nat.le_refl _) hwl))
    (fun c => OwnFrom.and (Own.from (fun s A B row hs hg hr => ⟨hs.1, hs.2.1.kept hg hr, hs.2.2⟩) _) (ownFrom_below (Nat.le_refl _) hwl))
    ⟨⟨⟨A3, R3⟩, by simp⟩, G3.out⟩ ?a1 ?assign ?body ?done ?stop
  case assign =>
    intro l x W K hK
    gi_wp2
    exact hK
  case body =>
    rintro lp pre p W ⟨⟨E, hp⟩, hB⟩ _
    have HC := hidb (HLp.out p W hB)
    have HE2 := hidb (show FI W w.heap.size (lnC m n (.slice (some ⟨b, o, none⟩) N cap) cI rI eI sI x y) (.bool false) ∧ ∀ q ∈ pre, lk q.1 ≤ 0 from ⟨E, hp⟩)
    have hWl := hB.size
    obtain ⟨z0, z1, z2, z3, z4, z5, z6, z7, z8⟩ := E.l.c9
    obtain ⟨v, hv⟩ : ∃ v, v = lk p.1 := ⟨_, rfl⟩
    rw [← hv] at HC
    have HV := hidb hv
    clear E hp hv
    gi_wp2_with fail
    refine ⟨trivial, (CallsIn.inRound lp (callsIn_wide.2 HC.out)).mono ?_⟩
    rintro e w9 ⟨rfl, hB9⟩
    have E9 := HE2.out.1.below hB9.out
    have r0 := E9.r.c1
    have fz := E9.r.fz1
    by_cases h0 : 0 < v
    · gi_wp2
      exact ⟨((keeps_below hB9.out).trans (KeepsOthers.setCell _ _ _)).from _, ⟨rfl, ⟨E9.l.skip (by omega) _ _, At.fill1 (E9.r.has rfl) _⟩, p.1, p.2, by rw [← HV.out]; exact h0⟩, (hB.trans (hB9.out.mono hWl)).setCell (p := ⟨w.heap.size + 1, 0, none⟩) (by simp) _⟩
    · gi_wp2
      refine ⟨(keeps_below hB9.out).from _, trivial, ⟨E9, fun q hq => ?_⟩, hB.trans (hB9.out.mono hWl)⟩
      rcases List.mem_append.1 hq with hq | hq
      · exact HE2.out.2 q hq
      · rw [List.mem_singleton] at hq
        subst hq
        have := HV.out
        omega
  case done =>
    rintro D ys W hD hys ⟨⟨E, hp⟩, hB⟩ hK
    have r0 := E.r.c1
    have fz := E.r.fz1
    gi_wp2
    have hK' := (KeepsOthers.setCell W ⟨w.heap.size + 1, 0, none⟩ (.bool true)).same D _ hK rfl
    refine ⟨by simp, .inl ⟨_, _, rfl, run_takeDeferred hK', ?_⟩⟩
    have hc5 := cell_kept (World.cell?_setCell_same' W ⟨w.heap.size + 1, 0, none⟩ (.bool true) (by rw [r0]; rfl)) (grownBy_putObj' _ D (.deferred none)) (fun r e => by cases e; exact ⟨_, hK', rfl⟩)
    have hbt : bb = true := HT.out (fun q hq => by
      have hq2 := hys ▸ hq
      obtain ⟨q', hq', rfl⟩ := List.mem_map.1 hq2
      exact hp q' hq')
    refine ⟨.bool true, ?_, by rw [hbt], (hB.setCell (p := ⟨w.heap.size + 1, 0, none⟩) (by simp) _).trans (belowK_b (w := w) (Nat.le_refl _) _ D _ _ (by omega) hK' rfl rfl)⟩
    simp [results, Tryd.f39, go_sem, hc5]
  case stop =>
    rintro D c pre W hD _ ⟨⟨rfl, E, hp⟩, hB⟩ hK
    gi_wp2
    refine ⟨by simp, .inl ⟨_, _, rfl, run_takeDeferred hK, ?_⟩⟩
    have hc5 := cell_kept E.r.c1 (grownBy_putObj' _ D (.deferred none)) (fun r e => by cases e; exact ⟨_, hK, rfl⟩)
    refine ⟨.bool false, ?_, by rw [HF.out hp], hB.trans (belowK_b (w := w) (Nat.le_refl _) W D _ _ (by omega) hK rfl rfl)⟩
    simp [results, Tryd.f39, go_sem, hc5]
end Go.Proofs.YtpdiefmmenfpaaaDoor
