/-
  shape.thinner.left.; Points and their numbers while a thinner is made; what it is then.
-/
import Derived.Test.YtnadgoomkaldkaaDoorQTgL
import Derived.Test.YtnadgoomkaldkaaDoorQJ11
namespace Go.Proofs.YtnadgoomkaldkaaDoor
open Go.RowKit
attribute [local go_sem ↓] Go.wp_at_zero Go.wp_at_succ

set_option maxRecDepth 4000 in
set_option maxHeartbeats 16000000 in
theorem left_any {w W : World} {T SP cS GO CL AR cA : Nat} {B cp : Nat → Nat} {most : Int} {S : List Sp} {A : List (List Nat)} {G : List Bool} {C : List Nat} (h : TH w W T SP cS GO CL AR cA B cp most S A G C) (hN : NI S A G C) (hAl : A.length ≤ 5000) (hl : ∀ j, j < A.length → (ax A j).length ≤ 5000) : Calls Tryd.prog 35 #[.pointer (some ⟨T, 0, none⟩)] W fun e w' => ∃ v vs, e = .returned v ∧ RP w' W.heap.size v vs (lsA S A) ∧ Gr W w' := by
  have HT := hidb h
  have HNi := hidb hN
  have HLl := hidb hl
  have HLs := hidb (ls_len S A)
  have t4 := (at5 h.t).2.2.2.2
  have HTc := hidb (fun W' (hG : Gr W W') => at5 (h.below hG.out).t)
  have E0 := hidb (RM.start W W W.heap.size (Gr.refl W) ⟨Nat.le_refl _, Nat.le_refl _⟩)
  obtain ⟨N, hNn⟩ : ∃ N, N = A.length := ⟨_, rfl⟩
  have HNn := hidb hNn
  rw [← hNn] at t4 HTc HLs hAl
  have HNb := hidb hAl
  obtain ⟨base, hbase⟩ : ∃ z, z = W.heap.size := ⟨_, rfl⟩
  rw [← hbase] at E0 ⊢
  clear h hN hl hAl hNn hbase
  go_enter Tryd.func35, Tryd.ntmps35
  go_wp2
  clear t4
  go_loopw [3, 14] (fun v t wr => ∃ (x : Nat) (vs : List Value), x ≤ N ∧ t = .int .i64 (x : Int) ∧ Hid (RM W wr base v vs ((lsA S A).take x) (.slice none 0 0) [])) (fun _ t _ => N - (intOf t).toNat)
  case atStart => exact ⟨0, [], Nat.zero_le _, rfl, E0⟩
  case round =>
    clear E0
    obtain ⟨x, vs, hx, rfl, E⟩ := hrel
    obtain ⟨adv, cv, rfl⟩ := own_form E.out.q.o
    by_cases h1 : ¬ x < N
    · have h1' : ¬ (x : Int) < (N : Int) := by omega
      have HZ := hidb (show (lsA S A).take x = lsA S A from List.take_of_length_le (by rw [HLs.out]; omega))
      rw [HZ.out] at E
      clear h1
      go_wp2
      go_ret
      exact ⟨_, rfl, ⟨vs, E.out.q⟩, E.out.g⟩
    · have h1' : (x : Int) < (N : Int) := by omega
      have H1 := hidb (show x < N by omega)
      have hxA : x < A.length := by rw [← HNn.out]; exact H1.out
      have e1 : IntKind.i64.wrap ((x : Int) + 1) = ((x + 1 : Nat) : Int) := by rw [show (x : Int) + 1 = ((x + 1 : Nat) : Int) by omega]; exact wr_in (by omega) (by have := HNb.out; omega)
      have ix : ∀ w, (Instr.indexAt 34 (.slice (some ⟨AR, 0, none⟩) N cA) (.int .i64 (x : Int))).run Tryd.prog w = .ok (.pointer (some ⟨AR, x, none⟩)) w := fun w => by
        have := tindex AR N cA x H1.out w
        rw [Nat.zero_add] at this
        exact this
      have cX := ((HT.out.below E.out.g.out).arc hxA).1
      have HTk : Hid ((lsA S A).take (x + 1) = (lsA S A).take x ++ [lx (lsA S A) x]) := by
        have hx2 : x < (lsA S A).length := by rw [HLs.out]; exact H1.out
        show _ = _
        rw [List.take_succ_eq_append_getElem hx2, lx_get hx2]
      have HNu := hidb (fun j (hj : j < (ax A x).length) W' (hG : Gr W W') => ((HT.out.below hG.out).num hxA hj).1)
      have HPt := hidb (fun j (hj : j < (ax A x).length) W' (hG : Gr W W') => (HT.out.below hG.out).pt (HNi.out.lt x hxA j hj))
      have HLt := hidb (fun j (hj : j < (ax A x).length) => And.intro (HNi.out.lt x hxA j hj) (sx_ls (S := S) hxA hj))
      have HAl := hidb (lx_lsl (S := S) hxA)
      have HLb := hidb (HLl.out x hxA)
      have Hvs : Hid (vs.length = x) := by
        have := E.out.q.n
        rw [List.length_take, HLs.out] at this
        show _ = _
        omega
      have hvl := Hvs.out
      rw [hvl] at E ⊢
      generalize (lsA S A).take x = Lo at *
      obtain ⟨Q, hQ⟩ : ∃ z, z = lx (lsA S A) x := ⟨_, rfl⟩
      rw [← hQ] at HTk HLt HAl
      obtain ⟨L, hL⟩ : ∃ z, z = (ax A x).length := ⟨_, rfl⟩
      rw [← hL] at cX HNu HPt HLt HAl HLb
      have E1 : Hid (RM W wr base (.slice adv x cv) vs Lo (.slice none 0 0) (Q.take 0)) := E.out
      clear h1 hxA hvl hQ hL E
      obtain ⟨-, -, -, -, t4⟩ := HTc.out _ E1.out.g
      go_wp2
      clear cX t4
      go_loopw [6, 20] (fun r t wx => ∃ j : Nat, j ≤ L ∧ t = .int .i64 (j : Int) ∧ Hid (RM W wx base (.slice adv x cv) vs Lo r (Q.take j))) (fun _ t _ => L - (intOf t).toNat)
      case atStart => exact ⟨0, Nat.zero_le _, rfl, E1⟩
      case round =>
        clear E1
        obtain ⟨j, hj, rfl, E⟩ := hrel
        obtain ⟨adr, capr, rfl⟩ := own_sh E.out.r
        have hrn : (Q.take j).length = j := by rw [List.length_take, HAl.out]; omega
        rw [hrn] at E ⊢
        have HRn := hidb hrn
        have HQ2 := hidb E.out.r
        rw [hrn] at HQ2
        clear hrn
        by_cases h2 : ¬ j < L
        · have h2' : ¬ (j : Int) < (L : Int) := by omega
          have HZ := hidb (show Q.take j = Q from List.take_of_length_le (by rw [HAl.out]; omega))
          rw [HZ.out] at E
          have HVs2 := hidb E.out.q.o
          rw [Hvs.out] at HVs2
          clear h2
          go_wp2_with (at_builtin; refine wpList_as _ base (.slice adv x cv) vs (.slice adr j capr) x _ _ _ rfl rfl rfl rfl Hvs.out (by have := H1.out; have := HNb.out; omega) rfl (HVs2.out.alloc _) (At.new1 _ _ _) (by have := E.out.b.2; simp; omega) _ rfl ?_; intro g2 cp2 w2 hr2 hg2 hat2; have F2 := hidb ((E.out.below ((Below.refl _ _).alloc (Nat.le_refl _) (.cells #[.slice adr j capr] 43))).push Hvs.out hr2.out hg2.out hat2.out))
          go_roundw
          case rel => exact ⟨x + 1, _, H1.out, by go_num, hidb (by rw [HTk.out]; exact F2.out)⟩
          case measure => have := H1.out; simp [intOf]; omega
        · have h2' : (j : Int) < (L : Int) := by omega
          have H2 := hidb (show j < L by omega)
          have e2 : IntKind.i64.wrap ((j : Int) + 1) = ((j + 1 : Nat) : Int) := by rw [show (j : Int) + 1 = ((j + 1 : Nat) : Int) by omega]; exact wr_in (by omega) (by have := HLb.out; omega)
          have cN := HNu.out j H2.out _ E.out.g
          obtain ⟨p0, p1⟩ := HPt.out j H2.out _ E.out.g
          obtain ⟨-, t1, -, -, -⟩ := HTc.out _ E.out.g
          have hlt := HLt.out j H2.out
          have ixn := fun w => iindex0 (B x) L (cp x) j H2.out w
          have ixs := fun w => sindex0 SP S.length cS _ hlt.1 w
          have HTj : Hid (Q.take (j + 1) = Q.take j ++ [sx S (nn A x j)]) := by
            have hjQ : j < Q.length := by rw [HAl.out]; exact H2.out
            show _ = _
            rw [List.take_succ_eq_append_getElem hjQ, sx_get hjQ, hlt.2]
          generalize nn A x j = y at *
          generalize sx S y = P at *
          generalize y * 2 = u at *
          clear h2 hlt
          go_wp2_with (at_builtin; refine wpList_s2 _ base (.slice adr j capr) (Q.take j) P j _ _ _ rfl rfl rfl rfl HRn.out (by have := HLb.out; have := H2.out; omega) (HQ2.out.alloc _) (At.new2 _ _ _ _) (by have := E.out.b.2; simp; omega) ?_; intro g2 cp2 w2 hr2 hg2 hat2; have F2 := hidb ((E.out.below ((Below.refl _ _).alloc (Nat.le_refl _) (.cells #[.int .i64 P.1, .int .i64 P.2] 52))).app HRn.out hr2.out hg2.out hat2.out); clear p0 p1 t1 cN)
          go_roundw
          case rel => exact ⟨j + 1, H2.out, by go_num, hidb (by rw [HTj.out]; exact F2.out)⟩
          case measure => have := H2.out; simp [intOf]; omega
end Go.Proofs.YtnadgoomkaldkaaDoor
namespace Go.Proofs.YtnadgoomkaldkaaDoor
open Go.RowKit

/-- How many points lie ahead of an arc. -/
def ofL (Ls : List (List Sp)) (i : Nat) : Nat := (Ls.take i).flatten.length
theorem ofL_succ {Ls : List (List Sp)} {i : Nat} (hi : i < Ls.length) : ofL Ls (i + 1) = ofL Ls i + (lx Ls i).length := by
  unfold ofL
  rw [take_flat Ls hi, List.length_append, lx_get hi]
theorem ofL_all (Ls : List (List Sp)) : ofL Ls Ls.length = Ls.flatten.length := by unfold ofL; rw [List.take_of_length_le (Nat.le_refl _)]
theorem ofL_mono {Ls : List (List Sp)} {i : Nat} : ∀ {j : Nat}, i ≤ j → j ≤ Ls.length → ofL Ls i ≤ ofL Ls j
  | 0, h, _ => by obtain rfl : i = 0 := by omega
                  exact Nat.le_refl _
  | j + 1, h, hj => by
    rcases Nat.lt_or_ge j i with c | c
    · obtain rfl : i = j + 1 := by omega
      exact Nat.le_refl _
    · have := ofL_mono (Ls := Ls) (i := i) (j := j) c (by omega)
      rw [ofL_succ (by omega)]
      omega
theorem sx_app1 {a b : List Sp} {k : Nat} (h : k < a.length) : sx (a ++ b) k = sx a k := by
  rw [← sx_get h, ← sx_get (by simp; omega), List.getElem_append_left h]
theorem sx_app2 {a b : List Sp} {k : Nat} (h : k < b.length) : sx (a ++ b) (a.length + k) = sx b k := by
  rw [← sx_get h, ← sx_get (by simp; omega), List.getElem_append_right (by omega)]
  congr 1
  omega
theorem sx_flat {Ls : List (List Sp)} {i m : Nat} (hi : i < Ls.length) (hm : m < (lx Ls i).length) : sx Ls.flatten (ofL Ls i + m) = sx (lx Ls i) m := by
  have e : Ls.flatten = (Ls.take i).flatten ++ (lx Ls i ++ (Ls.drop (i + 1)).flatten) := by
    conv => lhs; rw [← List.take_append_drop i Ls]
    rw [List.flatten_append, List.drop_eq_getElem_cons hi, List.flatten_cons, lx_get hi]
  rw [e]
  unfold ofL
  rw [sx_app2 (by simp; omega), sx_app1 hm]
/-- The numbers of an arc's points. -/
def nuL (Ls : List (List Sp)) (i : Nat) : List Nat := (List.range (lx Ls i).length).map fun m => ofL Ls i + m
def nuA (Ls : List (List Sp)) : List (List Nat) := (List.range Ls.length).map (nuL Ls)
theorem nuA_len (Ls : List (List Sp)) : (nuA Ls).length = Ls.length := by simp [nuA]
theorem ax_nu {Ls : List (List Sp)} {i : Nat} (hi : i < Ls.length) : ax (nuA Ls) i = nuL Ls i := by simp [ax, nuA, hi]
theorem axl_nu {Ls : List (List Sp)} {i : Nat} (hi : i < Ls.length) : (ax (nuA Ls) i).length = (lx Ls i).length := by rw [ax_nu hi]; simp [nuL]
theorem nn_nu {Ls : List (List Sp)} {i m : Nat} (hi : i < Ls.length) (hm : m < (lx Ls i).length) : nn (nuA Ls) i m = ofL Ls i + m := by
  unfold nn
  rw [ax_nu hi]
  simp [nuL, hm]
theorem ls_nu (Ls : List (List Sp)) : lsA Ls.flatten (nuA Ls) = Ls := by
  apply List.ext_getElem
  · rw [ls_len, nuA_len]
  · intro i h1 h2
    rw [lx_get h1, lx_get h2]
    have h3 : i < (nuA Ls).length := by rw [nuA_len]; exact h2
    apply List.ext_getElem
    · rw [lx_lsl h3, axl_nu h2]
    · intro m k1 k2
      rw [sx_get k1, sx_get k2, sx_ls h3 (by rw [axl_nu h2]; exact k2), nn_nu h2 k2, sx_flat h2 k2]
theorem nu_pos {Ls : List (List Sp)} {y : Nat} : ∀ k, k ≤ Ls.length → y < ofL Ls k → ∃ i m, i < Ls.length ∧ m < (lx Ls i).length ∧ ofL Ls i + m = y
  | 0, _, h => by simp [ofL] at h
  | k + 1, hk, h => by
    by_cases c : y < ofL Ls k
    · exact nu_pos k (by omega) c
    · rw [ofL_succ (by omega)] at h
      exact ⟨k, y - ofL Ls k, by omega, by omega, by omega⟩
theorem nu_lt {Ls : List (List Sp)} {i m : Nat} (hi : i < Ls.length) (hm : m < (lx Ls i).length) : ofL Ls i + m < Ls.flatten.length := by
  have h1 := ofL_succ hi
  have h2 := ofL_mono (Ls := Ls) (i := i + 1) (j := Ls.length) (by omega) (Nat.le_refl _)
  rw [ofL_all] at h2
  omega
theorem NI.start (Ls : List (List Sp)) : NI Ls.flatten (nuA Ls) (List.replicate Ls.flatten.length false) (List.replicate Ls.flatten.length 0) := by
  refine ⟨by simp, by simp, ?_, ?_, ?_, ?_, ?_⟩
  · intro j hj m hm
    rw [nuA_len] at hj
    rw [axl_nu hj] at hm
    rw [nn_nu hj hm]
    exact nu_lt hj hm
  · intro j hj m hm j' hj' m' hm' e
    rw [nuA_len] at hj hj'
    rw [axl_nu hj] at hm
    rw [axl_nu hj'] at hm'
    rw [nn_nu hj hm, nn_nu hj' hm'] at e
    rcases Nat.lt_trichotomy j j' with c | c | c
    · have h1 := ofL_succ hj
      have h2 := ofL_mono (Ls := Ls) (i := j + 1) (j := j') (by omega) (by omega)
      omega
    · subst c; exact ⟨rfl, by omega⟩
    · have h1 := ofL_succ hj'
      have h2 := ofL_mono (Ls := Ls) (i := j' + 1) (j := j) (by omega) (by omega)
      omega
  · intro y hy
    have : gn (List.replicate Ls.flatten.length false) y = false := by unfold gn; simp only [List.getD_eq_getElem?_getD, List.getElem?_replicate]; rw [if_pos hy]; rfl
    refine ⟨fun _ => ?_, fun _ => this⟩
    obtain ⟨i, m, hi, hm, e⟩ := nu_pos Ls.length (Nat.le_refl _) (by rw [ofL_all]; exact hy)
    exact ⟨i, m, by rw [nuA_len]; exact hi, by rw [axl_nu hi]; exact hm, by rw [nn_nu hi hm]; exact e⟩
  · intro j hj m h0 hm y hy
    exfalso
    have : cl (List.replicate Ls.flatten.length 0) (nn (nuA Ls) j m) = 0 := by
      unfold cl
      simp only [List.getD_eq_getElem?_getD, List.getElem?_replicate]
      split <;> rfl
    omega
  · intro x hx
    have : cl (List.replicate Ls.flatten.length 0) x = 0 := by
      unfold cl
      simp only [List.getD_eq_getElem?_getD, List.getElem?_replicate]
      split <;> rfl
    omega
/-- The same as whole numbers. -/
def iuL (Ls : List (List Sp)) (i j : Nat) : List Int := (List.range j).map fun m => ((ofL Ls i + m : Nat) : Int)
def iuA (Ls : List (List Sp)) (x : Nat) : List (List Int) := (List.range x).map fun i => iuL Ls i (lx Ls i).length
theorem iuL_succ (Ls : List (List Sp)) (i j : Nat) : iuL Ls i (j + 1) = iuL Ls i j ++ [((ofL Ls i + j : Nat) : Int)] := by simp [iuL, List.range_succ]
theorem iuA_succ (Ls : List (List Sp)) (x : Nat) : iuA Ls (x + 1) = iuA Ls x ++ [iuL Ls x (lx Ls x).length] := by simp [iuA, List.range_succ]
theorem iu_nu {Ls : List (List Sp)} {i : Nat} (hi : i < Ls.length) : ir (lI (iuA Ls Ls.length) i) = irn (ax (nuA Ls) i) := by
  rw [ax_nu hi]
  simp [lI, iuA, hi, iuL, nuL, ir, irn]
/-- What lies in memory meanwhile: the rows of numbers, the row under way, the points. -/
structure RT (w W : World) (base : Nat) (vO : Value) (vs : List Value) (Lo : List (List Int)) (vR : Value) (R : List Int) (vS : Value) (S : List Sp) : Prop where
  q : RQ W base vO vs Lo
  r : W.ownsRow base 3 1 vR R.length (ir R)
  s : W.ownsRow base 52 2 vS S.length (sr S)
  d1 : ∀ g, vO.ownBlock = some g → vR.ownBlock ≠ some g
  d2 : ∀ j g, j < vs.length → (vxx vs j).ownBlock = some g → vR.ownBlock ≠ some g
  e1 : ∀ g, vO.ownBlock = some g → vS.ownBlock ≠ some g
  e2 : ∀ j g, j < vs.length → (vxx vs j).ownBlock = some g → vS.ownBlock ≠ some g
  e3 : ∀ g, vR.ownBlock = some g → vS.ownBlock ≠ some g
  p : ∀ j j' g, j < j' → j' < vs.length → (vxx vs j).ownBlock = some g → (vxx vs j').ownBlock ≠ some g
  g : Gr w W
  b : w.heap.size ≤ base ∧ base ≤ W.heap.size
theorem RT.start (w W : World) (base : Nat) (hG : Gr w W) (hb : w.heap.size ≤ base ∧ base ≤ W.heap.size) : RT w W base (.slice none 0 0) [] [] (.slice none 0 0) [] (.slice none 0 0) [] :=
  ⟨RQ.nil _ _, World.ownsRow_nil _ _ _ _, World.ownsRow_nil _ _ _ _, fun g e => by simp [Value.ownBlock] at e, fun j g hj => by simp at hj, fun g e => by simp [Value.ownBlock] at e, fun j g hj => by simp at hj, fun g e => by simp [Value.ownBlock] at e, fun j j' g _ hj => by simp at hj, hG, hb⟩
section
variable {w W w' : World} {base : Nat} {vO : Value} {vs : List Value} {Lo : List (List Int)} {vR : Value} {R : List Int} {vS : Value} {S : List Sp}
theorem RT.below (h : RT w W base vO vs Lo vR R vS S) (hB : Below W.heap.size W w') : RT w w' base vO vs Lo vR R vS S :=
  ⟨h.q.below hB, own_kp h.r hB, own_kp h.s hB, h.d1, h.d2, h.e1, h.e2, h.e3, h.p, Gr.step h.g hB, h.b.1, Nat.le_trans h.b.2 hB.size⟩
theorem RT.set (h : RT w W base vO vs Lo vR R vS S) {c : Nat} (hc : c < base) (hw : w.heap.size ≤ c) (o : Nat) (u : Value) : RT w (W.setCell ⟨c, o, none⟩ u) base vO vs Lo vR R vS S :=
  ⟨h.q.set hc o u, own_st h.r hc o u, own_st h.s hc o u, h.d1, h.d2, h.e1, h.e2, h.e3, h.p, h.g.set hw o u, h.b.1, by simpa using h.b.2⟩
theorem RT.fresh (h : RT w W base vO vs Lo vR R vS S) : RT w W base vO vs Lo (.slice none 0 0) [] vS S :=
  ⟨h.q, World.ownsRow_nil _ _ _ _, h.s, fun g _ e => by simp [Value.ownBlock] at e, fun j g _ _ e => by simp [Value.ownBlock] at e, h.e1, h.e2, fun g e => by simp [Value.ownBlock] at e, h.p, h.g, h.b⟩
theorem RT.app {g cap n : Nat} {x : Int} (h : RT w W base vO vs Lo vR R vS S) (hn : R.length = n) (hr : w'.ownsRow base 3 1 (.slice (some ⟨g, 0, none⟩) (n + 1) cap) (n + 1) (ir (R ++ [x]))) (hg : W.grownBy w' vR.ownBlock) (hat : vR.ownBlock = some g ∨ g = W.heap.size) : RT w w' base vO vs Lo (.slice (some ⟨g, 0, none⟩) (n + 1) cap) (R ++ [x]) vS S := by
  have hlt := h.r.lt
  have hs := hg.size
  have ne : ∀ {u : Value} {e sz n : Nat} {xs : List Value} {z : Nat}, W.ownsRow base e sz u n xs → (∀ g, u.ownBlock = some g → vR.ownBlock ≠ some g) → u.ownBlock = some z → (Value.slice (some ⟨g, 0, none⟩) (R.length + 1) cap).ownBlock ≠ some z := fun {u e sz n xs z} ho hd hb k => by
    obtain rfl := Option.some.inj (show some g = some z from k)
    rcases hat with c | c
    · exact hd g hb c
    · have := (ho.lt g hb).2; omega
  have he3 : ∀ z, vS.ownBlock = some z → vR.ownBlock ≠ some z := fun z hz k => h.e3 z k hz
  subst hn
  exact ⟨h.q.grw hg h.d1 h.d2, by simpa using hr, own_kg h.s hg he3, fun z hz => ne h.q.o h.d1 hz, fun j z hj hz => ne (h.q.i j hj) (h.d2 j · hj) hz, h.e1, h.e2, fun z hz k => ne h.s he3 k hz, h.p, Below.grown h.g.out hg h.g.out.size (fun k hk => by have := (hlt k hk).1; have := h.b.1; omega), h.b.1, by have := h.b.2; omega⟩
theorem RT.apS {g cap n : Nat} {x : Sp} (h : RT w W base vO vs Lo vR R vS S) (hn : S.length = n) (hr : w'.ownsRow base 52 2 (.slice (some ⟨g, 0, none⟩) (n + 1) cap) (n + 1) (sr (S ++ [x]))) (hg : W.grownBy w' vS.ownBlock) (hat : vS.ownBlock = some g ∨ g = W.heap.size) : RT w w' base vO vs Lo vR R (.slice (some ⟨g, 0, none⟩) (n + 1) cap) (S ++ [x]) := by
  have hlt := h.s.lt
  have hs := hg.size
  have ne : ∀ {u : Value} {e sz n : Nat} {xs : List Value} {z : Nat}, W.ownsRow base e sz u n xs → (∀ g, u.ownBlock = some g → vS.ownBlock ≠ some g) → u.ownBlock = some z → (Value.slice (some ⟨g, 0, none⟩) (S.length + 1) cap).ownBlock ≠ some z := fun {u e sz n xs z} ho hd hb k => by
    obtain rfl := Option.some.inj (show some g = some z from k)
    rcases hat with c | c
    · exact hd g hb c
    · have := (ho.lt g hb).2; omega
  subst hn
  exact ⟨h.q.grw hg h.e1 h.e2, own_kg h.r hg h.e3, by simpa using hr, h.d1, h.d2, fun z hz => ne h.q.o h.e1 hz, fun j z hj hz => ne (h.q.i j hj) (h.e2 j · hj) hz, fun z hz => ne h.r h.e3 hz, h.p, Below.grown h.g.out hg h.g.out.size (fun k hk => by have := (hlt k hk).1; have := h.b.1; omega), h.b.1, by have := h.b.2; omega⟩
theorem RT.push {g cap n : Nat} (h : RT w W base vO vs Lo vR R vS S) (hn : vs.length = n) (hr : w'.ownsRow base 37 1 (.slice (some ⟨g, 0, none⟩) (n + 1) cap) (n + 1) (vs ++ [vR])) (hg : W.grownBy w' vO.ownBlock) (hat : vO.ownBlock = some g ∨ g = W.heap.size) : RT w w' base (.slice (some ⟨g, 0, none⟩) (n + 1) cap) (vs ++ [vR]) (Lo ++ [R]) (.slice none 0 0) [] vS S := by
  have hlt := h.q.o.lt
  have hs := hg.size
  have he1 : ∀ z, vS.ownBlock = some z → vO.ownBlock ≠ some z := fun z hz k => h.e1 z k hz
  subst hn
  refine ⟨h.q.more (g := g) h.r (fun z hz e => h.d1 z e hz) hr hg rfl (hat.imp id (fun e => by omega)), World.ownsRow_nil _ _ _ _, own_kg h.s hg he1, fun g _ e => by simp [Value.ownBlock] at e, fun j g _ _ e => by simp [Value.ownBlock] at e, fun z hz k => ?_, fun j z hj hz => ?_, fun g e => by simp [Value.ownBlock] at e, fun j j' z hjj hj' hz => ?_, Below.grown h.g.out hg h.g.out.size (fun k hk => by have := (hlt k hk).1; have := h.b.1; omega), h.b.1, by have := h.b.2; omega⟩
  · obtain rfl := Option.some.inj (show some g = some z from hz)
    rcases hat with c | c
    · exact h.e1 g c k
    · have := (h.s.lt g k).2; omega
  · have hl : (vs ++ [vR]).length = vs.length + 1 := by simp
    rw [hl] at hj
    by_cases e : j = vs.length
    · rw [e, vxx_new] at hz; exact h.e3 z hz
    · rw [vxx_app (by omega)] at hz; exact h.e2 j z (by omega) hz
  · have hl : (vs ++ [vR]).length = vs.length + 1 := by simp
    rw [hl] at hj'
    rw [vxx_app (by omega)] at hz
    by_cases e : j' = vs.length
    · rw [e, vxx_new]; exact h.d2 j z (by omega) hz
    · rw [vxx_app (by omega)]; exact h.p j j' z hjj (by omega) hz
/-- What lies below, or is none of the rows' blocks, is kept. -/
theorem RT.keep {row : Option Nat} {Bk : Nat} {l : List Value} (h : RT w W base vO vs Lo vR R vS S) (hB : Bk < base) (ha : At W Bk l) (hg : W.grownBy w' row) (hr : row = vO.ownBlock ∨ row = vR.ownBlock ∨ row = vS.ownBlock) : At w' Bk l :=
  At.grw ha hg (fun e => by
    rcases hr with rfl | rfl | rfl
    · have := (h.q.o.lt Bk e).1; omega
    · have := (h.r.lt Bk e).1; omega
    · have := (h.s.lt Bk e).1; omega)
theorem own_at1 {e n g cap : Nat} {xs : List Value} (h : W.ownsRow base e 1 (.slice (some ⟨g, 0, none⟩) n cap) n xs) : At W g xs ∧ n ≤ cap ∧ cap ≤ maxLen := by
  have hlt := (h.lt g rfl).2
  obtain ⟨h1, h2 | ⟨g', cap', cur, hv, hb, hg, hc, hm, hs, ht⟩⟩ := h
  · cases h2.1
  · simp only [Value.slice.injEq, Option.some.injEq, Addr.mk.injEq, and_true] at hv
    obtain ⟨rfl, -, rfl⟩ := hv
    refine ⟨⟨fun i hi => ?_, hlt⟩, hc, hm⟩
    have e : cur.toList[i]? = some xs[i] := by
      have : (cur.toList.take (n * 1))[i]? = xs[i]? := by rw [ht]
      rw [List.getElem?_take, if_pos (by omega), List.getElem?_eq_getElem hi] at this
      exact this
    exact ⟨by simp [World.cell?, hg]; simpa using e, by simp [World.frozen?, hg]⟩
theorem own_some {e sz n : Nat} {v : Value} {xs : List Value} (h : W.ownsRow base e sz v n xs) (hn : 0 < n) : ∃ g cap, v = .slice (some ⟨g, 0, none⟩) n cap ∧ base ≤ g := by
  obtain ⟨h1, h2 | ⟨g, cap, cur, hv, hb, _⟩⟩ := h
  · omega
  · exact ⟨g, cap, hv, hb⟩
end
/-- The thinner as it is made. -/
theorem RT.th {w W0 W : World} {base T SP cS GO CL AR cA n : Nat} {vs : List Value} {Ls : List (List Sp)} {vR : Value} {R : List Int} {most : Int} (h0 : RT w W0 base (.slice (some ⟨AR, 0, none⟩) Ls.length cA) vs (iuA Ls Ls.length) vR R (.slice (some ⟨SP, 0, none⟩) n cS) Ls.flatten) (h : RT w W base (.slice (some ⟨AR, 0, none⟩) Ls.length cA) vs (iuA Ls Ls.length) vR R (.slice (some ⟨SP, 0, none⟩) n cS) Ls.flatten) (hn : Ls.flatten.length = n) (hl : ∀ i, i < Ls.length → 1 ≤ (lx Ls i).length) (hTb : T < base) (hG0 : W0.heap.size ≤ GO) (hGC : GO < CL) (hT : At W T [.int .i64 most, .slice (some ⟨SP, 0, none⟩) n cS, .slice (some ⟨GO, 0, none⟩) n n, .slice (some ⟨CL, 0, none⟩) n n, .slice (some ⟨AR, 0, none⟩) Ls.length cA]) (hGO : At W GO (br (List.replicate n false))) (hCL : At W CL (ir (List.replicate n 0))) : ∃ B cp, TH w W T SP cS GO CL AR cA B cp most Ls.flatten (nuA Ls) (List.replicate n false) (List.replicate n 0) := by
  have hvl : vs.length = Ls.length := by have := h.q.n; simpa [iuA] using this
  have hrow : ∀ j, j < Ls.length → ∃ g cap, vxx vs j = .slice (some ⟨g, 0, none⟩) (lx Ls j).length cap := by
    intro j hj
    have hr := h.q.i j (by omega)
    have e : (lI (iuA Ls Ls.length) j).length = (lx Ls j).length := by simp [lI, iuA, hj, iuL]
    rw [e] at hr
    obtain ⟨g, cap, h1, -⟩ := own_some hr (by have := hl j hj; omega)
    exact ⟨g, cap, h1⟩
  let B : Nat → Nat := fun j => if hj : j < Ls.length then Classical.choose (hrow j hj) else 0
  let cp : Nat → Nat := fun j => if hj : j < Ls.length then Classical.choose (Classical.choose_spec (hrow j hj)) else 0
  have hBc : ∀ j, j < Ls.length → vxx vs j = .slice (some ⟨B j, 0, none⟩) (lx Ls j).length (cp j) := by
    intro j hj
    have e1 : B j = Classical.choose (hrow j hj) := dif_pos hj
    have e2 : cp j = Classical.choose (Classical.choose_spec (hrow j hj)) := dif_pos hj
    rw [e1, e2]
    exact Classical.choose_spec (Classical.choose_spec (hrow j hj))
  have hob : ∀ j, j < Ls.length → (vxx vs j).ownBlock = some (B j) := fun j hj => by rw [hBc j hj]; rfl
  have hri : ∀ (W1 : World), RT w W1 base (.slice (some ⟨AR, 0, none⟩) Ls.length cA) vs (iuA Ls Ls.length) vR R (.slice (some ⟨SP, 0, none⟩) n cS) Ls.flatten → ∀ j, j < Ls.length → W1.ownsRow base 3 1 (.slice (some ⟨B j, 0, none⟩) (lx Ls j).length (cp j)) (lx Ls j).length (irn (ax (nuA Ls) j)) := by
    intro W1 h1 j hj
    have hr := h1.q.i j (by omega)
    have e : (lI (iuA Ls Ls.length) j).length = (lx Ls j).length := by simp [lI, iuA, hj, iuL]
    rw [e, iu_nu hj, hBc j hj] at hr
    exact hr
  have hblt : ∀ j, j < Ls.length → base ≤ B j ∧ B j < W0.heap.size := fun j hj => (hri W0 h0 j hj).lt (B j) rfl
  have hAr := h0.q.o.lt AR rfl
  have hSp := h0.s.lt SP rfl
  have hb := h.b
  have hARs : ¬ AR = SP := fun e => h.e1 AR rfl (by rw [e]; rfl)
  have ho := h.q.o
  rw [hvl] at ho
  have hs := h.s
  rw [hn] at hs
  refine ⟨B, cp, ?_, (own_pts hs hn).1.1 |> fun _ => (own_pts hs hn).1, hGO, ?_, ?_, ?_, h.g, ?_, ?_, ?_, ?_⟩
  · rw [hn, nuA_len]; exact hT
  · rw [show irn (List.replicate n 0) = ir (List.replicate n 0) by simp [irn, ir]]; exact hCL
  · have e : vs = arv B cp (nuA Ls) := by
      apply List.ext_getElem
      · rw [arv_len, nuA_len, hvl]
      · intro j h1 h2
        have hj : j < Ls.length := by omega
        rw [arv_get, vxx_get h1, hBc j hj, axl_nu hj]
    rw [← e]
    exact (own_at1 ho).1
  · intro j hj
    rw [nuA_len] at hj
    have := own_at1 (hri W h j hj)
    refine ⟨this.1, by rw [axl_nu hj]; exact this.2.1, ?_⟩
    have hm : maxLen ≤ 9223372036854775807 := by decide
    omega
  · refine ⟨⟨by omega, by omega, by omega⟩, fun j hj => ?_⟩
    rw [nuA_len] at hj
    have := hblt j hj
    omega
  · exact ⟨⟨by omega, by omega, by omega⟩, ⟨by omega, by omega, fun e => hARs e.symm⟩, by omega, by omega, by omega⟩
  · intro j hj
    rw [nuA_len] at hj
    have h1 := hblt j hj
    refine ⟨by omega, fun e => h.e2 j (B j) (by omega) (hob j hj) (by rw [e]; rfl), by omega, by omega, fun e => h.q.d j (B j) (by omega) (hob j hj) (by rw [e]; rfl)⟩
  · intro j j' hj hj' hne e
    rw [nuA_len] at hj hj'
    rcases Nat.lt_or_gt_of_ne hne with c | c
    · exact h.p j j' (B j) c (by omega) (hob j hj) (by rw [e]; exact hob j' hj')
    · exact h.p j' j (B j') c (by omega) (hob j' hj') (by rw [← e]; exact hob j hj)
end Go.Proofs.YtnadgoomkaldkaaDoor
