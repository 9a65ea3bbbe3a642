/-
  Rows of ranges that a call makes; mercatorlaw3.ranges.
-/
import Derived.Test.YtehkonddgiakaaaDoorQFxB
import Derived.Deep.AppendLies
import Derived.Deep.RegionLaw
namespace Go.Proofs.YtehkonddgiakaaaDoor
open Go.RowKit
attribute [local go_sem ↓] Go.wp_at_zero Go.wp_at_succ

abbrev Rg.cs (r : Rg) : List Value := [.int .i64 r.x, .int .i64 r.y, .int .i64 r.q]
def rc (l : List Rg) : List Value := l.flatMap Rg.cs
theorem rc_snoc (l : List Rg) (r : Rg) : rc l ++ r.cs = rc (l ++ [r]) := by simp [rc]
theorem rc_len (l : List Rg) : (rc l).length = l.length * 3 := by
  induction l with
  | nil => rfl
  | cons s l ih => simp [rc] at ih ⊢; omega
theorem rc_get : ∀ (l : List Rg) (k : Nat) (hk : k < l.length) (j : Nat), j < 3 → (rc l)[k * 3 + j]? = (l[k]).cs[j]?
  | s :: l, 0, _, j, hj => by
    match j, hj with
    | 0, _ => rfl
    | 1, _ => rfl
    | 2, _ => rfl
  | s :: l, k + 1, hk, j, hj => by
    have ih := rc_get l k (by simp at hk; omega) j hj
    rw [show (k + 1) * 3 + j = (k * 3 + j) + 3 by omega]
    exact ih
theorem own_rr {w : World} {base e : Nat} {v : Value} {n : Nat} {l : List Rg} (h : w.ownsRow base e 3 v n (rc l)) : n = l.length ∧ ((v = .slice none 0 0 ∧ l = []) ∨ ∃ b cap, v = .slice (some ⟨b, 0, none⟩) l.length cap ∧ RRow w b l ∧ base ≤ b) := by
  have hn : n = l.length := by have := h.1; rw [rc_len] at this; omega
  subst hn
  refine ⟨rfl, ?_⟩
  obtain ⟨h1, h | ⟨g, cap, cur, hv, hb, hg, hc, hm, hs, ht⟩⟩ := h
  · obtain ⟨rfl, h0⟩ := h
    exact .inl ⟨rfl, List.eq_nil_of_length_eq_zero h0⟩
  · refine .inr ⟨g, cap, hv, ⟨?_, ?_⟩, hb⟩
    · intro k hk
      have key : ∀ j, (hj : j < 3) → w.cell? ⟨g, k * 3 + j, none⟩ = (l[k]).cs[j]? := by
        intro j hj
        have e1 : (cur.toList.take (l.length * 3))[k * 3 + j]? = (rc l)[k * 3 + j]? := by rw [ht]
        rw [List.getElem?_take, if_pos (by omega), rc_get l k hk j hj] at e1
        simp [World.cell?, hg]
        simpa using e1
      exact ⟨key 0 (by decide), key 1 (by decide), key 2 (by decide)⟩
    · rcases Nat.lt_or_ge g w.heap.size with c | c
      · exact c
      · rw [Array.getElem?_eq_none c] at hg; cases hg
theorem own_rsl {T : Nat} (hT : T = 30 ∨ T = 22) {w : World} {base e : Nat} {v : Value} {n : Nat} {l : List Rg} (h : w.ownsRow base e 3 v n (rc l)) : ∃ ad b cap, v = .slice ad l.length cap ∧ RSl T w ad b cap l := by
  obtain ⟨_, ⟨rfl, rfl⟩ | ⟨b, cap, rfl, hr, _⟩⟩ := own_rr h
  · exact ⟨none, 0, 0, rfl, .inr rfl, fun k hk => by simp at hk⟩
  · exact ⟨_, b, cap, rfl, .inl hr, fun k hk w => rindex T hT b _ cap k hk w⟩
theorem infoR : (Tryd.prog.info? 61).map (fun i => (i.zero, i.size, i.bytes)) = some (some (.agg #[.int .i64 0, .int .i64 0, .int .i64 0]), 3, 24) := by kernel_rfl
theorem undR : Tryd.prog.underlying 30 = some (.slice 61) := by kernel_rfl
theorem infoE : (Tryd.prog.info? 96).map (fun i => (i.zero, i.size, i.bytes)) = some (some (.agg #[.int .i64 0, .int .i64 0, .int .i64 0]), 3, 24) := by kernel_rfl
theorem undE : Tryd.prog.underlying 73 = some (.slice 96) := by kernel_rfl
theorem news_At3 {W : World} {B : Nat} {l : List Value} (h : At W B l) : ∀ j u, l[j]? = some u → W.cell? ((⟨B, 0, none⟩ : Addr).add j) = some u := by
  intro j u hu
  have hadd : (⟨B, 0, none⟩ : Addr).add j = ⟨B, j, none⟩ := by unfold Addr.add; split <;> simp_all
  obtain ⟨hj, rfl⟩ := List.getElem?_eq_some_iff.1 hu
  rw [hadd]
  exact (h.1 j hj).1
/-- An append to such a row, at a step of a region that draws its order. -/
theorem step_r3 (T E : Nat) (hTE : (T = 30 ∧ E = 61) ∨ (T = 73 ∧ E = 96)) {ops : Array Oper} {o : Oper} {a : Act} {K : Act → World → Prop} {Q : Exit → Act → World → Prop} {Ep : Prop} (W : World) (b0 : Nat) (v : Value) (l : List Rg) (r : Rg) (n B : Nat) (s x : Operand) (hgd : o.guard = none)
    (ho : o.op = .call { callee := .builtin .append, args := #[s, x], argTypes := #[T, T] }) (hs : a.eval s = v) (hx : a.eval x = .slice (some ⟨B, 0, none⟩) 1 1) (hn : l.length = n) (hl : n ≤ 100)
    (hO : W.ownsRow b0 E 3 v n (rc l)) (hN : At W B r.cs) (hb : b0 ≤ W.heap.size)
    (h : ∀ g cap w', w'.ownsRow b0 E 3 (.slice (some ⟨g, 0, none⟩) (n + 1) cap) (n + 1) (rc (l ++ [r])) → W.grownBy w' v.ownBlock → K (a.put o.dst (.slice (some ⟨g, 0, none⟩) (n + 1) cap)) w') :
    if Region.wanted o (yielded ops a.tmps) = true then Oper.wp Tryd.prog o a W K Q else Ep := by
  have hml : 1000 ≤ maxLen := by decide
  have ones : ∀ u ∈ r.cs, u.oneCell' = true := by
    intro u hu
    simp only [List.mem_cons, List.not_mem_nil, or_false] at hu
    rcases hu with rfl | rfl | rfl <;> rfl
  rcases hTE with ⟨rfl, rfl⟩ | ⟨rfl, rfl⟩
  · obtain ⟨i0, hi, hz0, hz1, hz2⟩ := info_parts infoR
    refine step_append_lies W hgd s x _ ho b0 _ i0 (.agg #[.int .i64 0, .int .i64 0, .int .i64 0]) 3 24 undR hi hz0 hz1 hz2 rfl (by decide) v n (rc l) hs hO ⟨B, 0, none⟩ 1 1 r.cs hx rfl (news_At3 hN) ones (by decide) (by omega) (by omega) hb _ rfl ?_
    intro g cap w' hown hgrow _ _
    rw [rc_snoc] at hown
    exact h g cap w' hown hgrow
  · obtain ⟨i0, hi, hz0, hz1, hz2⟩ := info_parts infoE
    refine step_append_lies W hgd s x _ ho b0 _ i0 (.agg #[.int .i64 0, .int .i64 0, .int .i64 0]) 3 24 undE hi hz0 hz1 hz2 rfl (by decide) v n (rc l) hs hO ⟨B, 0, none⟩ 1 1 r.cs hx rfl (news_At3 hN) ones (by decide) (by omega) (by omega) hb _ rfl ?_
    intro g cap w' hown hgrow _ _
    rw [rc_snoc] at hown
    exact h g cap w' hown hgrow
theorem own_shape3 {w : World} {base : Nat} {v : Value} {n e : Nat} {xs : List Value} (h : w.ownsRow base e 3 v n xs) : ∃ ad cap, v = .slice ad n cap := by
  obtain ⟨_, ⟨rfl, rfl⟩ | ⟨g, cap, cur, hv, _⟩⟩ := h
  · exact ⟨none, 0, rfl⟩
  · exact ⟨_, _, hv⟩
set_option maxRecDepth 4000 in
set_option maxHeartbeats 4000000 in
theorem ranges_any (ad : Option Addr) (b cap : Nat) (l : List Rg) (w : World) (h : RSl 22 w ad b cap l) (ll : l.length ≤ 90) : Calls Tryd.prog 8 #[.slice ad l.length cap] w fun e w' => ∃ ad' b' cap', e = .returned (.slice ad' l.length cap') ∧ RSl 30 w' ad' b' cap' l ∧ Gr w w' := by
  have HR := hidb h
  clear h
  go_enter Tryd.func8, Tryd.ntmps8
  go_wp2
  go_loopw [3, 4] (fun v t wr => ∃ (k : Nat), k ≤ l.length ∧ t = .int .i64 (k : Int) ∧ wr.ownsRow w.heap.size 61 3 v k (rc (l.take k)) ∧ Hid (Gr w wr)) (fun _ t _ => l.length - (intOf t).toNat)
  case atStart => exact ⟨0, Nat.zero_le _, rfl, by simpa [rc] using World.ownsRow_nil w w.heap.size 61 3, Gr.refl _⟩
  case round =>
    obtain ⟨k, hk, rfl, hown, HG⟩ := hrel
    by_cases h1 : k < l.length
    · obtain ⟨c0, c1, c2⟩ := (HR.out.below HG.out.out).cell h1
      have ix := HR.out.ix k h1
      have HT : Hid (l.take (k + 1) = l.take k ++ [l[k]]) := List.take_succ_eq_append_getElem h1
      have hlen : (l.take k).length = k := by rw [List.length_take]; omega
      obtain ⟨r, hr⟩ : ∃ r, r = l[k] := ⟨_, rfl⟩
      rw [← hr] at c0 c1 c2 HT
      clear hr
      obtain ⟨x, y, q⟩ := r
      dsimp only at c0 c1 c2
      obtain ⟨ad1, cap1, rfl⟩ := own_shape3 hown
      have HOw := hidb hown
      have HLn := hidb hlen
      clear hown hlen
      go_upto_region 5 with fail
      go_region_law (refine step_r3 30 61 (.inl ⟨rfl, rfl⟩) _ w.heap.size (.slice ad1 k cap1) (l.take k) ⟨x, y, q⟩ k wr.heap.size _ _ rfl rfl rfl rfl HLn.out (by omega) (HOw.out.alloc _) (At.new3 _ _ _ _ _) (by have := HG.out.out.size; simp; omega) ?_; intro g cap2 w2 hown2 hgrow2)
      all_goals
        have HG2 : Hid (Gr w w2) := Below.grown (HG.out.drew.alloc _).out hgrow2 (by have := HG.out.out.size; simp; omega) (fun kk hkk => (HOw.out.lt kk hkk).1)
        rw [← HT.out] at hown2
        clear hgrow2 HOw HG HT c0 c1 c2 ix
        go_wp2
        go_roundw
      all_goals first
        | (case rel => exact ⟨k + 1, by omega, by go_num, hown2, HG2.out⟩)
        | (case measure => simp [intOf]; omega)
    · have hkl : k = l.length := by omega
      rw [hkl, List.take_of_length_le (Nat.le_refl _)] at hown
      obtain ⟨ad1, b1, cap1, rfl, hr1⟩ := own_rsl (T := 30) (.inl rfl) hown
      have H1 := hidb hr1
      clear hown hr1 hkl
      go_wp2
      go_ret
      exact ⟨ad1, b1, cap1, rfl, H1.out, HG.out⟩
end Go.Proofs.YtehkonddgiakaaaDoor
