/-
  basin.pool.
-/
import Derived.Test.YtddnebgnohlchaaGreatDoorQRiC
import Derived.Test.YtddnebgnohlchaaGreatDoorQJ18
namespace Go.Proofs.YtddnebgnohlchaaGreatDoor
open Go.RowKit
attribute [local go_sem ↓] Go.wp_at_zero Go.wp_at_succ

theorem wpList_iz {ops : Array Oper} {rest : List Oper} {o : Oper} {a : Act} {Q : Exit → Act → World → Prop} (W : World) (b0 : Nat) (v : Value) (l : List Int) (r : Int) (n B : Nat) (s x : Operand) (hgd : o.guard = none)
    (ho : o.op = .call { callee := .builtin .append, args := #[s, x], argTypes := #[30, 30] }) (hs : a.eval s = v) (hx : a.eval x = .slice (some ⟨B, 0, none⟩) 1 1) (hl : n ≤ 20000)
    (hO : W.ownsRow b0 3 1 v n (ir l)) (hN : At W B [.int .i64 r]) (hb : b0 ≤ W.heap.size) (H : Nat) (hH : W.heap.size = H)
    (h : ∀ g cap w', Hid (w'.ownsRow b0 3 1 (.slice (some ⟨g, 0, none⟩) (n + 1) cap) (n + 1) (ir (l ++ [r]))) → Hid (W.grownBy w' v.ownBlock) → Hid (v.ownBlock = some g ∨ g = H) → wpList Tryz.prog ops Q rest (a.put o.dst (.slice (some ⟨g, 0, none⟩) (n + 1) cap)) w') : wpList Tryz.prog ops Q (o :: rest) a W := by
  have hml : 30000 ≤ maxLen := by decide
  obtain ⟨i0, hi, hz0, hz1, hz2⟩ := info_parts infoJ
  refine wpList_plain hgd fun _ hK => wp_append_lies W s x _ ho b0 _ i0 (.int .i64 0) 1 8 undI hi hz0 hz1 hz2 rfl (by decide) v n (ir l) hs hO ⟨B, 0, none⟩ 1 1 [.int .i64 r] hx rfl ?_ ?_ (by decide) (by omega) (by omega) hb H hH ?_
  · intro j u hu
    match j with
    | 0 => simp at hu; subst hu; exact (hN.1 0 (by simp)).1
    | j + 1 => simp at hu
  · intro u hu; simp at hu; subst hu; rfl
  · intro g cap w' h1 h2 h3 _
    rw [ir_snoc] at h1
    exact hK _ _ (h g cap w' h1 h2 h3)
theorem own_put {w : World} {base e size n : Nat} {v : Value} {xs : List Value} (h : w.ownsRow base e size v n xs) {c : Nat} (hc : v.ownBlock ≠ some c) (o : Nat) (u : Value) : (w.setCell ⟨c, o, none⟩ u).ownsRow base e size v n xs := by
  have k := Below.setCell (Below.refl 0 w) (p := ⟨c, o, none⟩) (Nat.zero_le _) u
  refine h.kept (row := some c) ⟨k.os, k.tape, k.output, by simp, fun i hi hn => ?_⟩ (.inr ?_)
  · exact Below.heap_setCell w ⟨c, o, none⟩ u i (fun e => hn (by rw [e]))
  · exact hc
theorem own_one' {w : World} {B : Nat} (hB : B = w.heap.size) (t : Nat) (x : Value) : (w.alloc (.cells #[x] t)).ownsRow B t 1 (.slice (some ⟨B, 0, none⟩) 1 1) 1 [x] := by subst hB; exact own_one w t x
theorem undr9 {W w' : World} (h : Below W.drew.heap.size W.drew w') : Below W.heap.size W w' := ⟨h.1, h.2, h.3, h.4, h.5⟩
theorem At.c3c {W : World} {B : Nat} {a b c : Value} (h : At W B [a, b, c]) : W.cell? ⟨B, 2, none⟩ = some c := h.c3.2.2
/-- What lies in memory while a pool is looked at. -/
structure PW (w W : World) (T base FB q : Nat) (t : List Value) (v : Value) (O : List Nat) (Fl : List Bool) : Prop where
  t : At W T t
  f : At W FB (br Fl)
  r : W.ownsRow base 3 1 v q (ir (on O))
  len : O.length = q
  gr : Gr w W
  b : T < base ∧ T < FB ∧ w.heap.size ≤ T ∧ base ≤ W.heap.size ∧ v.ownBlock ≠ some FB
section
variable {w W : World} {T base FB q : Nat} {t : List Value} {v : Value} {O : List Nat} {Fl : List Bool}
theorem PW.below {w' : World} (h : PW w W T base FB q t v O Fl) (hB : Below W.heap.size W w') : PW w w' T base FB q t v O Fl :=
  ⟨At.below hB h.t, At.below hB h.f, own_keep h.r hB, h.len, Gr.step h.gr hB, h.b.1, h.b.2.1, h.b.2.2.1, Nat.le_trans h.b.2.2.2.1 hB.size, h.b.2.2.2.2⟩
theorem PW.put (h : PW w W T base FB q t v O Fl) (i : Nat) (x : Bool) : PW w (W.setCell ⟨FB, i, none⟩ (.bool x)) T base FB q t v O (Fl.set i x) :=
  ⟨h.t.skip (by have := h.b.2.1; omega) _ _, by rw [← br_set]; exact h.f.put i _, own_put h.r h.b.2.2.2.2 _ _, h.len, h.gr.set (by have := h.b; omega) _ _, by simpa using h.b⟩
theorem PW.app {w' : World} {ob : Obj} {g cap y : Nat} (h : PW w W T base FB q t v O Fl) (hown : w'.ownsRow base 3 1 (.slice (some ⟨g, 0, none⟩) (q + 1) cap) (q + 1) (ir (on O ++ [(y : Int)]))) (hg : (W.alloc ob).grownBy w' v.ownBlock) (hl : v.ownBlock = some g ∨ g = W.heap.size + 1) : PW w w' T base FB (q + 1) t (.slice (some ⟨g, 0, none⟩) (q + 1) cap) (O ++ [y]) Fl := by
  have hv : ∀ i, i < base → v.ownBlock ≠ some i := fun i hi e => by have := (h.r.lt i e).1; omega
  have hf := h.f.lt
  refine ⟨At.grow (h.t.alloc ob) hg (hv _ h.b.1), At.grow (h.f.alloc ob) hg h.b.2.2.2.2, by rw [show on (O ++ [y]) = on O ++ [(y : Int)] by simp [on]]; exact hown, by rw [List.length_append, h.len]; rfl, Below.grown (h.gr.alloc ob).out hg (by have := h.gr.out.size; simp; omega) (fun k hk => by have := (h.r.lt k hk).1; have := h.b; omega), h.b.1, h.b.2.1, h.b.2.2.1, by have := hg.size; have := h.b.2.2.2.1; simp at *; omega, fun e => ?_⟩
  have e' : g = FB := Option.some.inj e
  rcases hl with hl | hl
  · exact h.b.2.2.2.2 (by rw [hl, e'])
  · omega
theorem PW.get (h : PW w W T base FB q t v O Fl) (h0 : 1 ≤ q) : ∃ g cap, v = .slice (some ⟨g, 0, none⟩) q cap ∧ g < W.heap.size ∧ ∀ k, k < q → W.cell? ⟨g, k, none⟩ = some (.int .i64 (ox O k : Int)) := by
  have hl : (on O).length = q := by rw [← h.len]; simp
  obtain ⟨g, cap, hv, hR⟩ := own_rs2 h.r (by rw [hl]; exact h0)
  rw [hl] at hv
  refine ⟨g, cap, hv, hR.lt, fun k hk => ?_⟩
  have := hR.get (i := k) (by rw [hl]; exact hk)
  rw [Nat.zero_add] at this
  rw [this]
  have hk2 : k < O.length := by rw [h.len]; exact hk
  unfold gl ox on
  simp [hk2]
end
/-- What pool answers. -/
def PAns (m n : Nat) (l : List Int) (c : Nat) (water h : Int) (w w' : World) (v : Value) : Prop :=
  (v = .slice none 0 0 ∧ Stp m n l c water h) ∨ ∃ O base g cap, v = .slice (some ⟨g, 0, none⟩) O.length cap ∧ 1 ≤ O.length ∧ Pool m n l c water h O ∧ w'.ownsRow base 3 1 v O.length (ir (on O)) ∧ w.heap.size ≤ base ∧ base ≤ w'.heap.size
set_option maxRecDepth 4000 in
set_option maxHeartbeats 16000000 in
theorem pool_any {m n Lb Lo Lcap : Nat} {l : List Int} (c : Nat) (h water : Int) (hc : c < l.length) (hh : gl l c ≤ h) (hb : h ≤ 1048576) (hw : 0 ≤ water ∧ water ≤ 1099511627776) (w : World) (hR : Rs w Lb Lo Lcap l) (ok : Ok l m n) : Calls Tryz.prog 54 #[raV m n (.slice (some ⟨Lb, Lo, none⟩) l.length Lcap), .int .i64 (c : Int), .int .i64 h, .int .i64 water] w fun e w' => ∃ v, e = .returned v ∧ PAns m n l c water h w w' v ∧ Gr w w' := by
  have hlen := ok.len_le
  have A0 := At.new3 w (.int .i64 (m : Int)) (.int .i64 (n : Int)) (.slice (some ⟨Lb, Lo, none⟩) l.length Lcap) 32
  have G0 := (Gr.refl w).alloc (.cells #[.int .i64 (m : Int), .int .i64 (n : Int), .slice (some ⟨Lb, Lo, none⟩) l.length Lcap] 32)
  obtain ⟨CS, hCS, mk⟩ := made_runB l.length (by omega)
  have HNb := hidb (fun x d (hx : x < l.length) (hd : d ≤ 8) W => neighbour_any (m := m) (n := n) (some ⟨Lb, Lo, none⟩) l.length Lcap x d ok.m1 ok.m2 ok.n2 (by omega) ⟨hx, hlen⟩ hd W)
  have HRs := hidb (fun W (hG : Gr w W) => hR.below hG.out)
  have HOk := hidb ok
  have HL := hidb (show c < l.length ∧ l.length ≤ 16384 ∧ gl l c ≤ h ∧ h ≤ 1048576 ∧ 0 ≤ water ∧ water ≤ 1099511627776 from ⟨hc, hlen, hh, hb, hw.1, hw.2⟩)
  have HCS := hidb hCS
  obtain ⟨N, hN⟩ : ∃ N, N = l.length := ⟨_, rfl⟩
  have HN := hidb hN
  rw [← hN] at HNb HL A0 G0 mk HCS ⊢
  have hcN : c < N := HL.out.1
  have hs0 := A0.lt
  clear hR ok hlen hN hCS hc hh hb hw
  show Calls Tryz.prog 54 #[.agg #[.int .i64 (m : Int), .int .i64 (n : Int), .slice (some ⟨Lb, Lo, none⟩) N Lcap], .int .i64 (c : Int), .int .i64 h, .int .i64 water] w _
  go_enter Tryz.func54, Tryz.ntmps54
  go_upto_region 1 with fail
  generalize w.alloc (.cells #[.int .i64 (m : Int), .int .i64 (n : Int), .slice (some ⟨Lb, Lo, none⟩) N Lcap] 32) = w1 at *
  go_cut [9, 10] from 15 to 21 (fun s9 s10 wx => ∃ base FB, s9 = .slice (some ⟨base, 0, none⟩) 1 1 ∧ s10 = .slice (some ⟨FB, 0, none⟩) N N ∧ Hid (PW w wx w.heap.size base FB 1 [.int .i64 (m : Int), .int .i64 (n : Int), .slice (some ⟨Lb, Lo, none⟩) N Lcap] (.slice (some ⟨base, 0, none⟩) 1 1) [c] (List.replicate N false)))
  case first =>
    have PX : PF w w1 w.heap.size [.int .i64 (m : Int), .int .i64 (n : Int), .slice (some ⟨Lb, Lo, none⟩) N Lcap] := ⟨A0, G0⟩
    have on1 : ir (on [c]) = [.int .i64 (c : Int)] := rfl
    refine wp_region_held_drew (S := (fun w' => w'.cell? ⟨w.heap.size, 2, none⟩ = some (.slice (some ⟨Lb, Lo, none⟩) N Lcap))) (by kernel_rfl) ?_ (fun hHeld => ?_)
    · (try dsimp only); (with_reducible first | exact PX.a.c3.2.2 | (refine At.c3c (a := .int .i64 (m : Int)) (b := .int .i64 (n : Int)) ?_; repeat (first | exact PX.a | refine At.drew ?_ | refine At.alloc ?_ _)))
    refine wpAnyH_take (i := 0) (v := ?vp10x2) rfl (by kernel_rfl) (by kernel_rfl) (by kernel_rfl) (fun _ _ _ h => h) (Or.inl ⟨by kernel_rfl, ?hp10x2⟩) (by assumption) ?rp10x2
    case hp10x2 => (intro w hSw; (try dsimp only at hSw); go_simp; try with_reducible rfl)
    (try simp only [Act.put, List.getElem_toArray, List.getElem_cons_zero, List.setIfInBounds_toArray, List.set_cons_zero, List.set_cons_succ])
    refine wpAnyH_take (i := 2) (v := ?vp12x5) rfl (by kernel_rfl) (by kernel_rfl) (by kernel_rfl) (fun _ _ _ h => h) (Or.inl ⟨by kernel_rfl, ?hp12x5⟩) (by assumption) ?rp12x5
    case hp12x5 => (intro w hSw; (try dsimp only at hSw); go_simp; try with_reducible rfl)
    (try simp only [Act.put, List.getElem_toArray, List.getElem_cons_zero, List.getElem_cons_succ, List.setIfInBounds_toArray, List.set_cons_zero, List.set_cons_succ])
    refine wpAnyH_take (i := 3) (v := ?vp13x8) rfl (by kernel_rfl) (by kernel_rfl) (by kernel_rfl) (fun _ _ _ h => h) (Or.inl ⟨by kernel_rfl, ?hp13x8⟩) (by assumption) ?rp13x8
    case hp13x8 => (intro w hSw; (try dsimp only at hSw); go_simp; try with_reducible rfl)
    (try simp only [Act.put, List.getElem_toArray, List.getElem_cons_zero, List.getElem_cons_succ, List.setIfInBounds_toArray, List.set_cons_zero, List.set_cons_succ])
    refine wpAnyH_take (i := 4) (v := ?vp14x11) rfl (by kernel_rfl) (by kernel_rfl) (by kernel_rfl) (fun _ _ _ h => h) (Or.inl ⟨by kernel_rfl, ?hp14x11⟩) (by assumption) ?rp14x11
    case hp14x11 => (intro w hSw; (try dsimp only at hSw); go_simp; try with_reducible rfl)
    (try simp only [Act.put, List.getElem_toArray, List.getElem_cons_zero, List.getElem_cons_succ, List.setIfInBounds_toArray, List.set_cons_zero, List.set_cons_succ])
    refine wpAnyH_ready (rs := [1, 5]) (by kernel_rfl) (by simp) ?_
    refine AllReadyH.cons rfl (fun K hK => ?_) (AllReadyH.cons rfl (fun K hK => ?_) AllReadyH.nil)
    · skip
      go_simp
      refine hK.out _ _ ?_ (fun hHeld => ?_)
      · (try dsimp only); (with_reducible first | exact PX.a.c3.2.2 | (refine At.c3c (a := .int .i64 (m : Int)) (b := .int .i64 (n : Int)) ?_; repeat (first | exact PX.a | refine At.drew ?_ | refine At.alloc ?_ _)))
      clear hK K
      refine wpAnyH_take (i := 6) (v := ?vp16x21) rfl (by kernel_rfl) (by kernel_rfl) (by kernel_rfl) (fun _ _ _ h => h) (Or.inl ⟨by kernel_rfl, ?hp16x21⟩) (by assumption) ?rp16x21
      case hp16x21 => (intro w hSw; (try dsimp only at hSw); go_simp; try with_reducible rfl)
      (try simp only [Act.put, List.getElem_toArray, List.getElem_cons_zero, List.getElem_cons_succ, List.setIfInBounds_toArray, List.set_cons_zero, List.set_cons_succ])
      refine wpAnyH_ready (rs := [5]) (by kernel_rfl) (by simp) ?_
      refine AllReadyH.cons rfl (fun K hK => ?_) AllReadyH.nil
      go_simp
      refine hK.out _ _ ?_ (fun hHeld => ?_)
      · (try dsimp only); (with_reducible first | exact PX.a.c3.2.2 | (refine At.c3c (a := .int .i64 (m : Int)) (b := .int .i64 (n : Int)) ?_; repeat (first | exact PX.a | refine At.drew ?_ | refine At.alloc ?_ _)))
      clear hK K
      refine wpAnyH_take (i := 7) (v := ?vp17x30) rfl (by kernel_rfl) (by kernel_rfl) (by kernel_rfl) (fun _ _ _ h => h) (Or.inl ⟨by kernel_rfl, ?hp17x30⟩) (by assumption) ?rp17x30
      case hp17x30 => (intro w hSw; (try dsimp only at hSw); go_simp; try with_reducible rfl)
      (try simp only [Act.put, List.getElem_toArray, List.getElem_cons_zero, List.getElem_cons_succ, List.setIfInBounds_toArray, List.set_cons_zero, List.set_cons_succ])
      refine wpAnyH_done (by kernel_rfl) ?_ _
      go_wp2_with fail
      go_meet
      refine ⟨w1.heap.size, w1.heap.size + 1, rfl, rfl, hidb ⟨?_, ?_, ?_, rfl, ?_, ?_⟩⟩
      · exact ((A0.alloc _).alloc _)
      · rw [← HCS.out]; exact At.nxArr _ _ CS _
      · rw [on1]; exact own_keep (own_one w1 3 (.int .i64 (c : Int))) ((Below.refl _ _).alloc (Nat.le_refl _) _).drew
      · exact ((G0.alloc _).alloc _).drew
      · exact ⟨hs0, Nat.lt_succ_of_lt hs0, Nat.le_refl _, by show w1.heap.size ≤ ((w1.alloc _).alloc _).heap.size; simp; omega, fun e => by have h : w1.heap.size = w1.heap.size + 1 := Option.some.inj e; omega⟩
    · skip
      go_simp
      refine hK.out _ _ ?_ (fun hHeld => ?_)
      · (try dsimp only); (with_reducible first | exact PX.a.c3.2.2 | (refine At.c3c (a := .int .i64 (m : Int)) (b := .int .i64 (n : Int)) ?_; repeat (first | exact PX.a | refine At.drew ?_ | refine At.alloc ?_ _)))
      clear hK K
      refine wpAnyH_ready (rs := [1]) (by kernel_rfl) (by simp) ?_
      refine AllReadyH.cons rfl (fun K hK => ?_) AllReadyH.nil
      go_simp
      refine hK.out _ _ ?_ (fun hHeld => ?_)
      · (try dsimp only); (with_reducible first | exact PX.a.c3.2.2 | (refine At.c3c (a := .int .i64 (m : Int)) (b := .int .i64 (n : Int)) ?_; repeat (first | exact PX.a | refine At.drew ?_ | refine At.alloc ?_ _)))
      clear hK K
      refine wpAnyH_take (i := 6) (v := ?vp16x46) rfl (by kernel_rfl) (by kernel_rfl) (by kernel_rfl) (fun _ _ _ h => h) (Or.inl ⟨by kernel_rfl, ?hp16x46⟩) (by assumption) ?rp16x46
      case hp16x46 => (intro w hSw; (try dsimp only at hSw); go_simp; try with_reducible rfl)
      (try simp only [Act.put, List.getElem_toArray, List.getElem_cons_zero, List.getElem_cons_succ, List.setIfInBounds_toArray, List.set_cons_zero, List.set_cons_succ])
      refine wpAnyH_take (i := 7) (v := ?vp17x49) rfl (by kernel_rfl) (by kernel_rfl) (by kernel_rfl) (fun _ _ _ h => h) (Or.inl ⟨by kernel_rfl, ?hp17x49⟩) (by assumption) ?rp17x49
      case hp17x49 => (intro w hSw; (try dsimp only at hSw); go_simp; try with_reducible rfl)
      (try simp only [Act.put, List.getElem_toArray, List.getElem_cons_zero, List.getElem_cons_succ, List.setIfInBounds_toArray, List.set_cons_zero, List.set_cons_succ])
      refine wpAnyH_done (by kernel_rfl) ?_ _
      go_wp2_with fail
      go_meet
      refine ⟨w1.heap.size + 1, w1.heap.size, by simp, rfl, hidb ⟨?_, ?_, ?_, rfl, ?_, ?_⟩⟩
      · exact ((A0.alloc _).alloc _)
      · rw [← HCS.out]; exact (At.newArr _ CS _).alloc _
      · rw [on1]; exact own_one' (by simp) 3 (.int .i64 (c : Int))
      · exact ((G0.alloc _).alloc _).drew
      · exact ⟨Nat.lt_succ_of_lt hs0, hs0, Nat.le_refl _, by show w1.heap.size + 1 ≤ ((w1.alloc _).alloc _).heap.size; simp, fun e => by have h : w1.heap.size + 1 = w1.heap.size := Option.some.inj e; omega⟩
  case rest =>
    clear A0 G0 mk HCS hs0
    obtain ⟨base, FB, rfl, rfl, E0⟩ := hcut
    have ixB := bindex FB N N c hcN
    obtain ⟨cB, fB⟩ := E0.out.f.getb (j := c) (by rw [List.length_replicate]; exact hcN)
    have E1 := hidb (E0.out.put c true)
    have HP0 := hidb (PI.start (m := m) (n := n) HL.out.2.2.1 (by rw [← HN.out]; exact hcN))
    have HF0 : Hid (((List.replicate N false).set c true).length = N ∧ ∀ y, y < N → glb ((List.replicate N false).set c true) y = decide (y ∈ [c])) := by
      refine ⟨by simp, fun y hy => ?_⟩
      rw [glb_set (by rw [List.length_replicate]; exact hcN)]
      by_cases e : y = c
      · rw [if_pos e, e]; simp
      · rw [if_neg e]
        have : glb (List.replicate N false) y = false := by unfold glb; rw [List.getD_eq_getElem?_getD, List.getElem?_replicate]; split <;> rfl
        rw [this]; simp [e]
    clear E0
    go_upto_region 3 with fail
    clear fB ixB cB
    generalize wc.setCell ⟨FB, c, none⟩ (.bool true) = w2 at *
    generalize (List.replicate N false).set c true = Fl0 at *
    go_wp2
    go_loopg [3, 9, 11] (2 * N) (fun gk s t u wr => ∃ (wt : Int) (k q : Nat) (O : List Nat) (Fl : List Bool), s = .int .i64 wt ∧ u = .int .i64 (k : Int) ∧ k ≤ q ∧ Hid (PW w wr w.heap.size base FB q [.int .i64 (m : Int), .int .i64 (n : Int), .slice (some ⟨Lb, Lo, none⟩) N Lcap] t O Fl) ∧ Hid (PI m n l c h k 0 O) ∧ Hid (wt = water - vol l h (O.take k) ∧ (0 < wt ∨ k = 0) ∧ wt ≤ water) ∧ Hid (Fl.length = N ∧ ∀ y, y < N → glb Fl y = decide (y ∈ O)) ∧ Hid (N - k ≤ gk))
    case atStart => exact ⟨water, 0, 1, [c], Fl0, rfl, rfl, Nat.zero_le _, E1, HP0, hidb ⟨by simp [vol], .inr rfl, Int.le_refl _⟩, HF0, hidb (by omega)⟩
    case round =>
      clear E1 HP0 HF0
      obtain ⟨wt, k, q, O, Fl, rfl, rfl, hkq, E, HPI, HW, HFl, HG⟩ := hrel
      have hO1 := HPI.out.len
      have hq := E.out.len
      rw [hq, ← HN.out] at hO1
      obtain ⟨g, cap, rfl, -, hget⟩ := E.out.get hO1.1
      have HQ := hidb (show 1 ≤ q ∧ q ≤ N from hO1)
      have Hq := hidb hq
      clear hO1 hq
      by_cases h1 : ¬ k < q
      · have h1' : ¬ (k : Int) < (q : Int) := by omega
        obtain rfl : k = q := by omega
        have HPo : Hid (Pool m n l c water h O) := by
          have hp := HPI.out
          have hw := HW.out
          rw [← Hq.out] at hp hw
          rw [List.take_length] at hw
          refine hp.fin HOk.out.m1 HOk.out.len ?_
          have := HQ.out.1
          have := Hq.out
          omega
        clear h1 hget
        go_wp2
        go_ret
        refine ⟨_, rfl, .inr ⟨O, base, g, cap, ?_, ?_, HPo.out, ?_, ?_⟩, E.out.gr⟩
        · show _ = _
          rw [Hq.out]
          rfl
        · rw [Hq.out]; exact HQ.out.1
        · rw [Hq.out]; exact E.out.r
        · exact ⟨Nat.le_of_lt (by have := E.out.b; omega), E.out.b.2.2.2.1⟩
      · have h1' : (k : Int) < (q : Int) := by omega
        have hk : k < q := by omega
        have Hk := hidb hk
        have hkO : k < O.length := by rw [Hq.out]; exact hk
        have hx := HPI.out.lt _ (ox_mem hkO)
        rw [← HN.out] at hx
        have Hx := hidb hx
        have cO := hget k hk
        have ixO := iindex g 0 q cap k hk
        rw [Nat.zero_add] at ixO
        have HOx := hidb (show ox O k = ox O k from rfl)
        have hle := (HPI.out.ok _ (ox_mem hkO)).le.1
        have HT := hidb (take_ox hkO)
        obtain ⟨t0, t1, t2⟩ := E.out.t.c3
        have cL := (HRs.out _ E.out.gr).get (i := ox O k) (by rw [← HN.out]; exact hx)
        have ixL := iindex Lb Lo N Lcap (ox O k) hx
        have hi := HOk.out.hi (ox O k)
        unfold hiI at hi
        have hwb := HW.out
        have hLb := HL.out
        have hbase := HPI.out.ok _ HPI.out.base
        have hv0 : 0 ≤ vol l h (O.take k) := vol_nn (fun y hy => (HPI.out.ok y (List.mem_of_mem_take hy)).le.1)
        have hv00 : k = 0 → vol l h (O.take k) = 0 := fun e => by rw [e]; simp [vol]
        obtain ⟨dd, hdd, e0⟩ : ∃ z, z = h - gl l (ox O k) ∧ IntKind.i64.wrap (h - gl l (ox O k)) = z := ⟨_, rfl, wrap_in (by omega) (by omega)⟩
        obtain ⟨wt2, hwt2, e1⟩ : ∃ z, z = wt - (h - gl l (ox O k)) ∧ IntKind.i64.wrap (wt - dd) = z := ⟨_, rfl, by rw [hdd]; exact wrap_in (by omega) (by omega)⟩
        have HW2 : Hid (wt2 = water - vol l h (O.take (k + 1)) ∧ wt2 ≤ water) := by
          refine ⟨?_, by omega⟩
          rw [HT.out, vol_snoc]
          omega
        generalize hxx : ox O k = x at *
        have Hxx := hidb hxx
        have e2 : IntKind.i64.wrap ((k : Int) + 1) = ((k + 1 : Nat) : Int) := by rw [show (k : Int) + 1 = ((k + 1 : Nat) : Int) by omega]; exact wrap_in (by have := HQ.out; omega) (by have := HQ.out; omega)
        have HE2 := hidb e2
        generalize gl l x = hgx at *
        clear h1 hget hwb hLb hbase hv0 hv00 hwt2 hdd hle hi HT HOx hxx HW hx hkO e2
        have HEc := hidb e1
        by_cases hz : wt2 ≤ 0
        · have HS : Hid (Stp m n l c water h) := HPI.out.full (i := k + 1) (by have := HW2.out; omega)
          go_upto_region 6 with fail
          go_quiet (fail)
          go_wp2
          go_ret
          exact ⟨_, rfl, .inl ⟨rfl, HS.out⟩, by have := E.out.gr; with_reducible first | exact this | exact this.drewN _⟩
        · have hz' : ¬ wt2 ≤ 0 := hz
          go_upto_region 6 with fail
          go_quiet (fail)
          clear t0 t1 t2 cL ixL cO
          generalize hwd : wr.drewN _ = wd at *
          have hBd : Below wr.heap.size wr wd := by rw [← hwd]; exact (Gr.drewN (Gr.refl wr) _).out
          replace E := hidb (E.out.below hBd)
          clear hwd hBd
          have HZ := hidb hz
          clear hz e0 e1
          go_wp2
          clear hz'
          go_loopg [9, 44] 8 (fun gj s t wr => ∃ (j q : Nat) (O : List Nat) (Fl : List Bool), t = .int .i64 (j : Int) ∧ j ≤ 8 ∧ Hid (gj = 8 - j) ∧ Hid (k < q ∧ ox O k = x) ∧ Hid (PW w wr w.heap.size base FB q [.int .i64 (m : Int), .int .i64 (n : Int), .slice (some ⟨Lb, Lo, none⟩) N Lcap] s O Fl) ∧ Hid (PI m n l c h k j O) ∧ Hid (wt2 = water - vol l h (O.take (k + 1))) ∧ Hid (Fl.length = N ∧ ∀ y, y < N → glb Fl y = decide (y ∈ O)))
          case atStart => exact ⟨0, q, O, Fl, rfl, Nat.zero_le _, hidb rfl, hidb ⟨Hk.out, Hxx.out⟩, E, HPI, hidb HW2.out.1, HFl⟩
          case round =>
            have HWl := hidb HW2.out.2
            clear E HPI HFl HW2 Hk HQ Hq Hxx
            obtain ⟨j, q, O, Fl, rfl, hj, HGj, Hkx, E, HPI, HW, HFl⟩ := hrel
            by_cases h2 : ¬ j < 8
            · have h2' : ¬ (j : Int) < 8 := by omega
              obtain rfl : j = 8 := by omega
              have e2 := HE2.out
              clear h2
              obtain ⟨ad3, cap3, hv3⟩ := own_shape1' E.out.r
              subst hv3
              go_wp2
              go_roundg (N - (k + 1))
              case measure => have := HG.out; have := Hkx.out.1; have := E.out.len; have := HPI.out.len.2; have := HN.out; omega
              case rel => exact ⟨wt2, k + 1, q, O, Fl, rfl, rfl, Hkx.out.1, E, hidb HPI.out.next, hidb ⟨HW.out, .inl (by have := HZ.out; omega), HWl.out⟩, HFl, hidb (Nat.le_refl _)⟩
            · have h2' : (j : Int) < 8 := by omega
              have hj8 : j < 8 := by omega
              have Hj8 := hidb hj8
              have e3 : IntKind.i64.wrap ((j : Int) + 1) = ((j + 1 : Nat) : Int) := by rw [show (j : Int) + 1 = ((j + 1 : Nat) : Int) by omega]; exact wrap_in (by omega) (by omega)
              have HE3 := hidb e3
              have hq1 : 1 ≤ q := by have := Hkx.out.1; omega
              obtain ⟨g2, cap2, rfl, hg2, hget⟩ := E.out.get hq1
              have cO := hget k Hkx.out.1
              rw [Hkx.out.2] at cO
              have ixO := iindex g2 0 q cap2 k Hkx.out.1
              rw [Nat.zero_add] at ixO
              obtain ⟨t0, t1, t2⟩ := E.out.t.c3
              have HC := hidb (HNb.out x j Hx.out (by omega))
              have HkO : Hid (k < O.length) := by rw [E.out.len]; exact Hkx.out.1
              clear hget h2 hq1 e3
              cases ho : nbO m n x j with
              | none =>
                have HS := hidb (HPI.out.out HOk.out.len HkO.out hj8 (by rw [Hkx.out.2]; exact ho) water)
                rw [ho] at HC
                unfold nbA at HC
                clear ho hj8
                go_upto_region 12 with fail
                refine wp_region_held_drew (S := (fun w' => (w'.cell? ⟨w.heap.size, 0, none⟩ = some (.int .i64 (m : Int)) ∧ w'.cell? ⟨w.heap.size, 1, none⟩ = some (.int .i64 (n : Int)) ∧ w'.cell? ⟨w.heap.size, 2, none⟩ = some (.slice (some ⟨Lb, Lo, none⟩) N Lcap)) ∧ w'.cell? ⟨g2, k, none⟩ = some (.int .i64 (x : Int)))) (by kernel_rfl) ?_ (fun hHeld => ?_)
                · (try dsimp only); (first | exact ⟨⟨t0, t1, t2⟩, cO⟩ | exact K9.out)
                refine wpAnyH_take (i := 0) (v := ?vn120x2) rfl (by kernel_rfl) (by kernel_rfl) (by kernel_rfl) (fun _ _ _ h => h) (Or.inl ⟨by kernel_rfl, ?hn120x2⟩) (by assumption) ?rn120x2
                case hn120x2 => (intro w hSw; (try dsimp only at hSw); go_simp; try with_reducible rfl)
                (try simp only [Act.put, List.getElem_toArray, List.getElem_cons_zero, List.setIfInBounds_toArray, List.set_cons_zero, List.set_cons_succ])
                refine wpAnyH_take (i := 1) (v := ?vn121x5) rfl (by kernel_rfl) (by kernel_rfl) (by kernel_rfl) (fun _ _ _ h => h) (Or.inl ⟨by kernel_rfl, ?hn121x5⟩) (by assumption) ?rn121x5
                case hn121x5 => (intro w hSw; (try dsimp only at hSw); go_simp; try with_reducible rfl)
                (try simp only [Act.put, List.getElem_toArray, List.getElem_cons_zero, List.getElem_cons_succ, List.setIfInBounds_toArray, List.set_cons_zero, List.set_cons_succ])
                refine wpAnyH_take (i := 2) (v := ?vn122x8) rfl (by kernel_rfl) (by kernel_rfl) (by kernel_rfl) (fun _ _ _ h => h) (Or.inl ⟨by kernel_rfl, ?hn122x8⟩) (by assumption) ?rn122x8
                case hn122x8 => (intro w hSw; (try dsimp only at hSw); go_simp; try with_reducible rfl)
                (try simp only [Act.put, List.getElem_toArray, List.getElem_cons_zero, List.getElem_cons_succ, List.setIfInBounds_toArray, List.set_cons_zero, List.set_cons_succ])
                refine wpAnyH_take (i := 3) (v := ?vn123x11) rfl (by kernel_rfl) (by kernel_rfl) (by kernel_rfl) (fun _ _ _ h => h) (Or.inl ⟨by kernel_rfl, ?hn123x11⟩) (by assumption) ?rn123x11
                case hn123x11 => (intro w hSw; (try dsimp only at hSw); go_simp; try with_reducible rfl)
                (try simp only [Act.put, List.getElem_toArray, List.getElem_cons_zero, List.getElem_cons_succ, List.setIfInBounds_toArray, List.set_cons_zero, List.set_cons_succ])
                refine wpAnyH_take (i := 4) (v := ?vn124x14) rfl (by kernel_rfl) (by kernel_rfl) (by kernel_rfl) (fun _ _ _ h => h) (Or.inl ⟨by kernel_rfl, ?hn124x14⟩) (by assumption) ?rn124x14
                case hn124x14 => (intro w hSw; (try dsimp only at hSw); go_simp; try with_reducible rfl)
                (try simp only [Act.put, List.getElem_toArray, List.getElem_cons_zero, List.getElem_cons_succ, List.setIfInBounds_toArray, List.set_cons_zero, List.set_cons_succ])
                refine wpAnyH_take (i := 5) (v := ?vn125x17) rfl (by kernel_rfl) (by kernel_rfl) (by kernel_rfl) (fun _ _ _ h => h) (Or.inl ⟨by kernel_rfl, ?hn125x17⟩) (by assumption) ?rn125x17
                case hn125x17 => (intro w hSw; (try dsimp only at hSw); go_simp; try with_reducible rfl)
                (try simp only [Act.put, List.getElem_toArray, List.getElem_cons_zero, List.getElem_cons_succ, List.setIfInBounds_toArray, List.set_cons_zero, List.set_cons_succ])
                refine wpAnyH_ready (rs := [6]) (by kernel_rfl) (by simp) ?_
                refine AllReadyH.cons rfl (fun K hK => ?_) AllReadyH.nil
                go_simp
                go_wp2_with ((go_at_call 43; refine (HC.out _).mono ?_; rintro e w9 ⟨rfl, hB9⟩))
                have B9 : Below wr.heap.size wr w9 := by first | exact hB9.out | exact undr9 hB9.out
                have E9 := hidb (E.out.below B9)
                have K9 := hidb (And.intro E9.out.t.c3 ((B9.cell (p := ⟨g2, k, none⟩) hg2).trans cO))
                refine hK.out _ _ ?_ (fun hHeld => ?_)
                · (try dsimp only); (first | exact ⟨⟨t0, t1, t2⟩, cO⟩ | exact K9.out)
                clear hK K
                refine wpAnyH_take (i := 7) (v := ?vn127x30) rfl (by kernel_rfl) (by kernel_rfl) (by kernel_rfl) (fun _ _ _ h => h) (Or.inl ⟨by kernel_rfl, ?hn127x30⟩) (by assumption) ?rn127x30
                case hn127x30 => (intro w hSw; (try dsimp only at hSw); go_simp; try with_reducible rfl)
                (try simp only [Act.put, List.getElem_toArray, List.getElem_cons_zero, List.getElem_cons_succ, List.setIfInBounds_toArray, List.set_cons_zero, List.set_cons_succ])
                refine wpAnyH_take (i := 8) (v := ?vn128x33) rfl (by kernel_rfl) (by kernel_rfl) (by kernel_rfl) (fun _ _ _ h => h) (Or.inl ⟨by kernel_rfl, ?hn128x33⟩) (by assumption) ?rn128x33
                case hn128x33 => (intro w hSw; (try dsimp only at hSw); go_simp; try with_reducible rfl)
                (try simp only [Act.put, List.getElem_toArray, List.getElem_cons_zero, List.getElem_cons_succ, List.setIfInBounds_toArray, List.set_cons_zero, List.set_cons_succ])
                refine wpAnyH_take (i := 10) (v := ?vn1210x36) rfl (by kernel_rfl) (by kernel_rfl) (by kernel_rfl) (fun _ _ _ h => h) (Or.inl ⟨by kernel_rfl, ?hn1210x36⟩) (by assumption) ?rn1210x36
                case hn1210x36 => (intro w hSw; (try dsimp only at hSw); go_simp; try with_reducible rfl)
                (try simp only [Act.put, List.getElem_toArray, List.getElem_cons_zero, List.getElem_cons_succ, List.setIfInBounds_toArray, List.set_cons_zero, List.set_cons_succ])
                refine wpAnyH_take (i := 9) (v := ?vn129x39) rfl (by kernel_rfl) (by kernel_rfl) (by kernel_rfl) (fun _ _ _ h => h) (Or.inl ⟨by kernel_rfl, ?hn129x39⟩) (by assumption) ?rn129x39
                case hn129x39 => (intro w hSw; (try dsimp only at hSw); go_simp; try with_reducible rfl)
                (try simp only [Act.put, List.getElem_toArray, List.getElem_cons_zero, List.getElem_cons_succ, List.setIfInBounds_toArray, List.set_cons_zero, List.set_cons_succ])
                refine wpAnyH_take (i := 11) (v := ?vn1211x42) rfl (by kernel_rfl) (by kernel_rfl) (by kernel_rfl) (fun _ _ _ h => h) (Or.inl ⟨by kernel_rfl, ?hn1211x42⟩) (by assumption) ?rn1211x42
                case hn1211x42 => (intro w hSw; (try dsimp only at hSw); go_simp; try with_reducible rfl)
                (try simp only [Act.put, List.getElem_toArray, List.getElem_cons_zero, List.getElem_cons_succ, List.setIfInBounds_toArray, List.set_cons_zero, List.set_cons_succ])
                refine wpAnyH_done (by kernel_rfl) ?_ _
                go_wp2
                go_ret
                exact ⟨_, rfl, .inl ⟨rfl, HS.out⟩, E9.out.gr⟩
              | some y =>
                have hy : y < N := by rw [HN.out, HOk.out.len]; exact nb_lt ho
                have Hy := hidb hy
                have Ho := hidb (show nbO m n (ox O k) j = some y by rw [Hkx.out.2]; exact ho)
                rw [ho] at HC
                unfold nbA at HC
                dsimp only at HC
                clear ho hj8
                go_upto_region 12 with fail
                refine wp_region_held_drew (S := (fun w' => (w'.cell? ⟨w.heap.size, 0, none⟩ = some (.int .i64 (m : Int)) ∧ w'.cell? ⟨w.heap.size, 1, none⟩ = some (.int .i64 (n : Int)) ∧ w'.cell? ⟨w.heap.size, 2, none⟩ = some (.slice (some ⟨Lb, Lo, none⟩) N Lcap)) ∧ w'.cell? ⟨g2, k, none⟩ = some (.int .i64 (x : Int)))) (by kernel_rfl) ?_ (fun hHeld => ?_)
                · (try dsimp only); (first | exact ⟨⟨t0, t1, t2⟩, cO⟩ | exact K9.out)
                refine wpAnyH_take (i := 0) (v := ?vs120x2) rfl (by kernel_rfl) (by kernel_rfl) (by kernel_rfl) (fun _ _ _ h => h) (Or.inl ⟨by kernel_rfl, ?hs120x2⟩) (by assumption) ?rs120x2
                case hs120x2 => (intro w hSw; (try dsimp only at hSw); go_simp; try with_reducible rfl)
                (try simp only [Act.put, List.getElem_toArray, List.getElem_cons_zero, List.setIfInBounds_toArray, List.set_cons_zero, List.set_cons_succ])
                refine wpAnyH_take (i := 1) (v := ?vs121x5) rfl (by kernel_rfl) (by kernel_rfl) (by kernel_rfl) (fun _ _ _ h => h) (Or.inl ⟨by kernel_rfl, ?hs121x5⟩) (by assumption) ?rs121x5
                case hs121x5 => (intro w hSw; (try dsimp only at hSw); go_simp; try with_reducible rfl)
                (try simp only [Act.put, List.getElem_toArray, List.getElem_cons_zero, List.getElem_cons_succ, List.setIfInBounds_toArray, List.set_cons_zero, List.set_cons_succ])
                refine wpAnyH_take (i := 2) (v := ?vs122x8) rfl (by kernel_rfl) (by kernel_rfl) (by kernel_rfl) (fun _ _ _ h => h) (Or.inl ⟨by kernel_rfl, ?hs122x8⟩) (by assumption) ?rs122x8
                case hs122x8 => (intro w hSw; (try dsimp only at hSw); go_simp; try with_reducible rfl)
                (try simp only [Act.put, List.getElem_toArray, List.getElem_cons_zero, List.getElem_cons_succ, List.setIfInBounds_toArray, List.set_cons_zero, List.set_cons_succ])
                refine wpAnyH_take (i := 3) (v := ?vs123x11) rfl (by kernel_rfl) (by kernel_rfl) (by kernel_rfl) (fun _ _ _ h => h) (Or.inl ⟨by kernel_rfl, ?hs123x11⟩) (by assumption) ?rs123x11
                case hs123x11 => (intro w hSw; (try dsimp only at hSw); go_simp; try with_reducible rfl)
                (try simp only [Act.put, List.getElem_toArray, List.getElem_cons_zero, List.getElem_cons_succ, List.setIfInBounds_toArray, List.set_cons_zero, List.set_cons_succ])
                refine wpAnyH_take (i := 4) (v := ?vs124x14) rfl (by kernel_rfl) (by kernel_rfl) (by kernel_rfl) (fun _ _ _ h => h) (Or.inl ⟨by kernel_rfl, ?hs124x14⟩) (by assumption) ?rs124x14
                case hs124x14 => (intro w hSw; (try dsimp only at hSw); go_simp; try with_reducible rfl)
                (try simp only [Act.put, List.getElem_toArray, List.getElem_cons_zero, List.getElem_cons_succ, List.setIfInBounds_toArray, List.set_cons_zero, List.set_cons_succ])
                refine wpAnyH_take (i := 5) (v := ?vs125x17) rfl (by kernel_rfl) (by kernel_rfl) (by kernel_rfl) (fun _ _ _ h => h) (Or.inl ⟨by kernel_rfl, ?hs125x17⟩) (by assumption) ?rs125x17
                case hs125x17 => (intro w hSw; (try dsimp only at hSw); go_simp; try with_reducible rfl)
                (try simp only [Act.put, List.getElem_toArray, List.getElem_cons_zero, List.getElem_cons_succ, List.setIfInBounds_toArray, List.set_cons_zero, List.set_cons_succ])
                refine wpAnyH_ready (rs := [6]) (by kernel_rfl) (by simp) ?_
                refine AllReadyH.cons rfl (fun K hK => ?_) AllReadyH.nil
                go_simp
                go_wp2_with ((go_at_call 43; refine (HC.out _).mono ?_; rintro e w9 ⟨rfl, hB9⟩))
                have B9 : Below wr.heap.size wr w9 := by first | exact hB9.out | exact undr9 hB9.out
                have E9 := hidb (E.out.below B9)
                have K9 := hidb (And.intro E9.out.t.c3 ((B9.cell (p := ⟨g2, k, none⟩) hg2).trans cO))
                refine hK.out _ _ ?_ (fun hHeld => ?_)
                · (try dsimp only); (first | exact ⟨⟨t0, t1, t2⟩, cO⟩ | exact K9.out)
                clear hK K
                refine wpAnyH_take (i := 7) (v := ?vs127x30) rfl (by kernel_rfl) (by kernel_rfl) (by kernel_rfl) (fun _ _ _ h => h) (Or.inl ⟨by kernel_rfl, ?hs127x30⟩) (by assumption) ?rs127x30
                case hs127x30 => (intro w hSw; (try dsimp only at hSw); go_simp; try with_reducible rfl)
                (try simp only [Act.put, List.getElem_toArray, List.getElem_cons_zero, List.getElem_cons_succ, List.setIfInBounds_toArray, List.set_cons_zero, List.set_cons_succ])
                refine wpAnyH_take (i := 8) (v := ?vs128x33) rfl (by kernel_rfl) (by kernel_rfl) (by kernel_rfl) (fun _ _ _ h => h) (Or.inl ⟨by kernel_rfl, ?hs128x33⟩) (by assumption) ?rs128x33
                case hs128x33 => (intro w hSw; (try dsimp only at hSw); go_simp; try with_reducible rfl)
                (try simp only [Act.put, List.getElem_toArray, List.getElem_cons_zero, List.getElem_cons_succ, List.setIfInBounds_toArray, List.set_cons_zero, List.set_cons_succ])
                refine wpAnyH_take (i := 10) (v := ?vs1210x36) rfl (by kernel_rfl) (by kernel_rfl) (by kernel_rfl) (fun _ _ _ h => h) (Or.inl ⟨by kernel_rfl, ?hs1210x36⟩) (by assumption) ?rs1210x36
                case hs1210x36 => (intro w hSw; (try dsimp only at hSw); go_simp; try with_reducible rfl)
                (try simp only [Act.put, List.getElem_toArray, List.getElem_cons_zero, List.getElem_cons_succ, List.setIfInBounds_toArray, List.set_cons_zero, List.set_cons_succ])
                refine wpAnyH_take (i := 9) (v := ?vs129x39) rfl (by kernel_rfl) (by kernel_rfl) (by kernel_rfl) (fun _ _ _ h => h) (Or.inl ⟨by kernel_rfl, ?hs129x39⟩) (by assumption) ?rs129x39
                case hs129x39 => (intro w hSw; (try dsimp only at hSw); go_simp; try with_reducible rfl)
                (try simp only [Act.put, List.getElem_toArray, List.getElem_cons_zero, List.getElem_cons_succ, List.setIfInBounds_toArray, List.set_cons_zero, List.set_cons_succ])
                refine wpAnyH_take (i := 11) (v := ?vs1211x42) rfl (by kernel_rfl) (by kernel_rfl) (by kernel_rfl) (fun _ _ _ h => h) (Or.inl ⟨by kernel_rfl, ?hs1211x42⟩) (by assumption) ?rs1211x42
                case hs1211x42 => (intro w hSw; (try dsimp only at hSw); go_simp; try with_reducible rfl)
                (try simp only [Act.put, List.getElem_toArray, List.getElem_cons_zero, List.getElem_cons_succ, List.setIfInBounds_toArray, List.set_cons_zero, List.set_cons_succ])
                refine wpAnyH_done (by kernel_rfl) ?_ _
                replace E := E9
                clear E9 K9 B9 hB9 t0 t1 t2 cO ixO hg2 HC hHeld
                obtain ⟨cF, fF⟩ := E.out.f.getb (j := y) (by rw [HFl.out.1]; exact hy)
                rw [HFl.out.2 y hy] at cF
                have ixF := bindex FB N N y hy
                have ixL := iindex Lb Lo N Lcap y hy
                obtain ⟨t0, t1, t2⟩ := E.out.t.c3
                have cL := (HRs.out _ E.out.gr).get (i := y) (by rw [← HN.out]; exact hy)
                by_cases hin : y ∈ O
                · have HSm := hidb (HPI.out.same Ho.out (fun _ => hin))
                  rw [decide_eq_true hin] at cF
                  clear hin hy fF ixL cL
                  have e3 := HE3.out
                  go_wp2
                  go_roundg (8 - (j + 1))
                  case measure => have := HGj.out; have := Hj8.out; omega
                  case rel => exact ⟨j + 1, q, O, Fl, rfl, Hj8.out, hidb rfl, Hkx, E, HSm, HW, HFl⟩
                · rw [decide_eq_false hin] at cF
                  have Hin := hidb hin
                  generalize hgy : gl l y = gy at *
                  have Hgy := hidb hgy
                  clear hgy hin
                  by_cases hlow : gy ≤ h
                  · have HPm := hidb (HPI.out.more HOk.out.len HkO.out Hj8.out Ho.out (by rw [Hgy.out]; exact hlow) Hin.out)
                    have HWm : Hid (wt2 = water - vol l h ((O ++ [y]).take (k + 1))) := by
                      show _ = _
                      rw [List.take_append_of_le_length (by have := HkO.out; omega)]
                      exact HW.out
                    have HFm : Hid ((Fl.set y true).length = N ∧ ∀ z, z < N → glb (Fl.set y true) z = decide (z ∈ O ++ [y])) := by
                      refine ⟨by rw [List.length_set]; exact HFl.out.1, fun z hz => ?_⟩
                      rw [glb_set (by rw [HFl.out.1]; exact hy)]
                      by_cases e : z = y
                      · rw [if_pos e, e]; simp
                      · rw [if_neg e, HFl.out.2 z hz]
                        simp [e]
                    have hql : q ≤ 20000 := by have := E.out.len; have := HPI.out.len.2; have := HL.out.2.1; have := HN.out; omega
                    have Hkm := hidb (show k < q + 1 ∧ ox (O ++ [y]) k = x from ⟨by have := Hkx.out.1; omega, by rw [ox_app HkO.out]; exact Hkx.out.2⟩)
                    have E16 := hidb (E.out.put y true)
                    have e3 := HE3.out
                    go_upto_region 17 with fail
                    clear cF cL t0 t1 t2 ixL fF hlow ixF
                    generalize w9.setCell ⟨FB, y, none⟩ (.bool true) = w16 at *
                    go_wp2_with (at_builtin; refine wpList_iz _ base (.slice (some ⟨g2, 0, none⟩) q cap2) (on O) (y : Int) q w16.heap.size _ _ rfl rfl rfl rfl hql (E16.out.r.alloc _) (At.new1 _ _ _) (by have := E16.out.b; simp; omega) (w16.heap.size + 1) (by simp) ?_; intro g3 cap3 w17 hown hgrow hli)
                    have E17 := hidb (E16.out.app hown.out hgrow.out hli.out)
                    clear hown hgrow hli
                    go_wp2
                    go_roundg (8 - (j + 1))
                    case measure => have := HGj.out; have := Hj8.out; omega
                    case rel => exact ⟨j + 1, q + 1, O ++ [y], Fl.set y true, rfl, Hj8.out, hidb rfl, Hkm, E17, HPm, HWm, HFm⟩
                  · have HSm := hidb (HPI.out.same Ho.out (fun hl => absurd (by rw [← Hgy.out]; exact hl) hlow))
                    have e3 := HE3.out
                    go_wp2
                    go_roundg (8 - (j + 1))
                    case measure => have := HGj.out; have := Hj8.out; omega
                    case rel => exact ⟨j + 1, q, O, Fl, rfl, Hj8.out, hidb rfl, Hkx, E, HSm, HW, HFl⟩
end Go.Proofs.YtddnebgnohlchaaGreatDoor
