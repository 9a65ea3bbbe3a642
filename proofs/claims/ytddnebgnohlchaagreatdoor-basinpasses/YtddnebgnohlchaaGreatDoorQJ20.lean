/-
  A row of rows of whole numbers, all of which a call owns.; Groups as lists, member by member. No Go text.; The wet cells in their order, and the lakes as lists. No Go text.; basin.depths.; basin.lakes: what its walk wants beforehand. No Go text.
-/
import Derived.Test.YtddnebgnohlchaaGreatDoorQJ19
import Derived.Test.YtddnebgnohlchaaGreatDoorQJ18
import Derived.Test.YtddnebgnohlchaaGreatDoorQJ12
namespace Go.Proofs.YtddnebgnohlchaaGreatDoor
open Go.RowKit

theorem infoS : (Tryz.prog.info? 30).map (fun i => (i.zero, i.size, i.bytes)) = some (some (.slice none 0 0), 1, 24) := by kernel_rfl
theorem undS : Tryz.prog.underlying 33 = some (.slice 30) := by kernel_rfl
theorem sindex (b n cap k : Nat) (hk : k < n) (w : World) : (Instr.indexAt 33 (.slice (some ⟨b, 0, none⟩) n cap) (.int .i64 k)).run Tryz.prog w = .ok (.pointer (some ⟨b, k, none⟩)) w := by
  have hu : Tryz.prog.underlying 33 = some (.slice (Tryz.prog.elem 33)) := by kernel_rfl
  refine (run_indexAt_slice (P := Tryz.prog) (w := w) 33 ⟨b, 0, none⟩ n cap .i64 (k : Int) hu).trans ?_
  rw [if_pos ⟨by omega, by omega⟩]
  have hs : (sizeOf (Tryz.prog.elem 33)).run Tryz.prog w = .ok 1 w := by kernel_rfl
  rw [hs]
  simp [Addr.add]
  intro h; omega
def vx (vs : List Value) (j : Nat) : Value := vs.getD j (.slice none 0 0)
def lx (Ls : List (List Int)) (j : Nat) : List Int := Ls.getD j []
theorem vx_get {vs : List Value} {j : Nat} (h : j < vs.length) : vs[j] = vx vs j := by unfold vx; simp [h]
theorem lx_get {Ls : List (List Int)} {j : Nat} (h : j < Ls.length) : Ls[j] = lx Ls j := by unfold lx; simp [h]
theorem vx_set {vs : List Value} {j : Nat} (h : j < vs.length) (u : Value) (k : Nat) : vx (vs.set j u) k = if k = j then u else vx vs k := by
  unfold vx
  by_cases e : k = j
  · subst e; simp [h]
  · rw [if_neg e]; simp [List.getElem?_set_ne (Ne.symm e)]
theorem lx_set {Ls : List (List Int)} {j : Nat} (h : j < Ls.length) (u : List Int) (k : Nat) : lx (Ls.set j u) k = if k = j then u else lx Ls k := by
  unfold lx
  by_cases e : k = j
  · subst e; simp [h]
  · rw [if_neg e]; simp [List.getElem?_set_ne (Ne.symm e)]
/-- The row and its rows: no two lie in the same block. -/
structure RR (W : World) (base : Nat) (v : Value) (vs : List Value) (Ls : List (List Int)) : Prop where
  o : W.ownsRow base 30 1 v vs.length vs
  n : vs.length = Ls.length
  i : ∀ j, j < vs.length → W.ownsRow base 3 1 (vx vs j) (lx Ls j).length (ir (lx Ls j))
  d : ∀ j g, j < vs.length → (vx vs j).ownBlock = some g → v.ownBlock ≠ some g
  dd : ∀ j k g, j < vs.length → k < vs.length → (vx vs j).ownBlock = some g → (vx vs k).ownBlock = some g → j = k
theorem RR.nil (W : World) (base : Nat) : RR W base (.slice none 0 0) [] [] := ⟨World.ownsRow_nil _ _ _ _, rfl, fun j hj => by simp at hj, fun j _ hj => by simp at hj, fun j _ _ hj => by simp at hj⟩
section
variable {W w' : World} {base : Nat} {v : Value} {vs : List Value} {Ls : List (List Int)}
theorem RR.below (h : RR W base v vs Ls) (hB : Below W.heap.size W w') : RR w' base v vs Ls := ⟨own_keep h.o hB, h.n, fun j hj => own_keep (h.i j hj) hB, h.d, h.dd⟩
/-- A new row, that is empty, comes behind the others. -/
theorem RR.more {ob : Obj} {v' : Value} (h : RR W base v vs Ls) (hown : w'.ownsRow base 30 1 v' (vs.length + 1) (vs ++ [.slice none 0 0])) (hg : (W.alloc ob).grownBy w' v.ownBlock) (hat : ∀ g, v'.ownBlock = some g → v.ownBlock = some g ∨ W.heap.size ≤ g) : RR w' base v' (vs ++ [.slice none 0 0]) (Ls ++ [[]]) := by
  have hl : (vs ++ [Value.slice none 0 0]).length = vs.length + 1 := by simp
  have hx : ∀ j, j < vs.length → vx (vs ++ [.slice none 0 0]) j = vx vs j := fun j hj => by unfold vx; simp [List.getElem?_append_left hj]
  have hy : ∀ j, j < vs.length → lx (Ls ++ [[]]) j = lx Ls j := fun j hj => by unfold lx; rw [h.n] at hj; simp [List.getElem?_append_left hj]
  have hx2 : vx (vs ++ [.slice none 0 0]) vs.length = .slice none 0 0 := by unfold vx; simp
  have hy2 : lx (Ls ++ [[]]) vs.length = [] := by unfold lx; rw [h.n]; simp
  refine ⟨by rw [hl]; exact hown, by simp [h.n], fun j hj => ?_, fun j g hj hb => ?_, fun j k g hj hk h1 h2 => ?_⟩
  · rw [hl] at hj
    by_cases e : j = vs.length
    · rw [e, hx2, hy2]; exact World.ownsRow_nil _ _ _ _
    · rw [hx j (by omega), hy j (by omega)]
      cases hb : (vx vs j).ownBlock with
      | none => exact ((h.i j (by omega)).alloc ob).kept hg (.inl hb)
      | some g => exact ((h.i j (by omega)).alloc ob).kept hg (.inr (by rw [hb]; exact fun e2 => h.d j g (by omega) hb e2.symm))
  · rw [hl] at hj
    by_cases e : j = vs.length
    · rw [e, hx2] at hb; cases hb
    · rw [hx j (by omega)] at hb
      intro hv
      rcases hat g hv with c | c
      · exact h.d j g (by omega) hb c
      · have := ((h.i j (by omega)).lt g hb).2; omega
  · rw [hl] at hj hk
    by_cases e : j = vs.length
    · rw [e, hx2] at h1; cases h1
    · by_cases e2 : k = vs.length
      · rw [e2, hx2] at h2; cases h2
      · rw [hx j (by omega)] at h1
        rw [hx k (by omega)] at h2
        exact h.dd j k g (by omega) (by omega) h1 h2
theorem own_at_other {e size n : Nat} {u : Value} {xs : List Value} (h : W.ownsRow base e size u n xs) {c : Nat} (hc : u.ownBlock ≠ some c) (o : Nat) (x : Value) : (W.setCell ⟨c, o, none⟩ x).ownsRow base e size u n xs := by
  have k := Below.setCell (Below.refl 0 W) (p := ⟨c, o, none⟩) (Nat.zero_le _) x
  exact h.kept (row := some c) ⟨k.os, k.tape, k.output, by simp, fun i hi hn => Below.heap_setCell W ⟨c, o, none⟩ x i (fun e => hn (by rw [e]))⟩ (.inr hc)
/-- A number comes behind the others of one row. -/
theorem RR.put {ob : Obj} {u : Value} {gO cap j : Nat} {x : Int} (h : RR W base v vs Ls) (hv : v = .slice (some ⟨gO, 0, none⟩) vs.length cap) (hj : j < vs.length) (hown : w'.ownsRow base 3 1 u ((lx Ls j).length + 1) (ir (lx Ls j ++ [x]))) (hg : (W.alloc ob).grownBy w' (vx vs j).ownBlock) (hat : ∀ g, u.ownBlock = some g → (vx vs j).ownBlock = some g ∨ W.heap.size ≤ g) : RR (w'.setCell ⟨gO, j, none⟩ u) base v (vs.set j u) (Ls.set j (lx Ls j ++ [x])) := by
  have hvO : v.ownBlock = some gO := by rw [hv]; rfl
  have hgO := (h.o.lt gO hvO).2
  have hjL : j < Ls.length := by rw [← h.n]; exact hj
  have hu : u.ownBlock ≠ some gO := fun e => by
    rcases hat gO e with c | c
    · exact h.d j gO hj c hvO
    · omega
  refine ⟨?_, by simp [h.n], fun k hk => ?_, fun k g hk hb => ?_, fun k k2 g hk hk2 h1 h2 => ?_⟩
  · have ho : w'.ownsRow base 30 1 v vs.length vs := (h.o.alloc ob).kept hg (.inr (by rw [hvO]; exact fun e => h.d j gO hj e.symm hvO))
    rw [hv] at ho ⊢
    rw [List.length_set]
    exact OW.put1 ho j u
  · rw [List.length_set] at hk
    rw [vx_set hj, lx_set hjL]
    by_cases e : k = j
    · rw [if_pos e, if_pos e, List.length_append]
      exact own_at_other hown hu _ _
    · rw [if_neg e, if_neg e]
      have hk1 : w'.ownsRow base 3 1 (vx vs k) (lx Ls k).length (ir (lx Ls k)) := by
        cases hb : (vx vs k).ownBlock with
        | none => exact ((h.i k hk).alloc ob).kept hg (.inl hb)
        | some g => exact ((h.i k hk).alloc ob).kept hg (.inr (by rw [hb]; exact fun e2 => e (h.dd k j g hk hj hb e2.symm)))
      exact own_at_other hk1 (fun e2 => h.d k gO hk e2 hvO) _ _
  · rw [List.length_set] at hk
    rw [vx_set hj] at hb
    by_cases e : k = j
    · rw [if_pos e] at hb
      rw [hvO]
      exact fun e2 => hu (by rw [hb, ← e2])
    · rw [if_neg e] at hb; exact h.d k g hk hb
  · rw [List.length_set] at hk hk2
    rw [vx_set hj] at h1 h2
    by_cases e : k = j
    · by_cases e2 : k2 = j
      · rw [e, e2]
      · rw [if_pos e] at h1
        rw [if_neg e2] at h2
        exfalso
        rcases hat g h1 with c | c
        · exact e2 (h.dd k2 j g hk2 hj h2 c)
        · have := ((h.i k2 hk2).lt g h2).2; omega
    · rw [if_neg e] at h1
      by_cases e2 : k2 = j
      · rw [if_pos e2] at h2
        exfalso
        rcases hat g h2 with c | c
        · exact e (h.dd k j g hk hj h1 c)
        · have := ((h.i k hk).lt g h1).2; omega
      · rw [if_neg e2] at h2
        exact h.dd k k2 g hk hk2 h1 h2
/-- The value of one row, in memory. -/
theorem RR.cell {gO cap j : Nat} (h : RR W base v vs Ls) (hv : v = .slice (some ⟨gO, 0, none⟩) vs.length cap) (hj : j < vs.length) : W.cell? ⟨gO, j, none⟩ = some (vx vs j) ∧ W.frozen? ⟨gO, j, none⟩ = false := by
  have ho := h.o
  rw [hv] at ho
  obtain ⟨h1, h2 | ⟨g', cap', cur, hv', hb, hg, hc, hm, hs, ht⟩⟩ := ho
  · obtain ⟨hv', _⟩ := h2; cases hv'
  · simp only [Value.slice.injEq, Option.some.injEq, Addr.mk.injEq, and_true] at hv'
    obtain ⟨rfl, _, rfl⟩ := hv'
    have e : cur.toList[j]? = some vs[j] := by
      have : (cur.toList.take (vs.length * 1))[j]? = vs[j]? := by rw [ht]
      rw [List.getElem?_take, if_pos (by omega), List.getElem?_eq_getElem hj] at this
      exact this
    rw [← vx_get hj]
    exact ⟨by simp [World.cell?, hg]; simpa using e, by simp [World.frozen?, hg]⟩
end
end Go.Proofs.YtddnebgnohlchaaGreatDoor
namespace Go.Proofs.YtddnebgnohlchaaGreatDoor
open Go.RowKit

section
variable (ρ : Nat → Nat) (M : List Nat)
/-- Those of the first k that are the first of their group. -/
def rsK (k : Nat) : List Nat := (M.take k).filter (fun x => decide (ρ x = x))
/-- Those of the first k that are of a group. -/
def grK (k r : Nat) : List Int := on ((M.take k).filter (fun x => decide (ρ x = r)))
def lsK (k : Nat) : List (List Int) := (rsK ρ M k).map (grK ρ M k)
theorem lsK_len (k : Nat) : (lsK ρ M k).length = (rsK ρ M k).length := by simp [lsK]
theorem lsK_0 : lsK ρ M 0 = [] := by simp [lsK, rsK]
/-- The members rise, and the first of each one's group is among them, ahead of it. -/
structure Mem : Prop where
  up : M.Pairwise (· < ·)
  rt : ∀ x ∈ M, ρ x ∈ M ∧ ρ x ≤ x ∧ ρ (ρ x) = ρ x
variable {ρ M}
theorem Mem.nodup (h : Mem ρ M) : M.Nodup := h.up.imp (fun {a b} (hab : a < b) => Nat.ne_of_lt hab)
theorem grK_succ {k : Nat} (hk : k < M.length) (r : Nat) : grK ρ M (k + 1) r = grK ρ M k r ++ if ρ M[k] = r then [(M[k] : Int)] else [] := by
  unfold grK
  rw [List.take_succ_eq_append_getElem hk, List.filter_append]
  by_cases c : ρ M[k] = r
  · rw [if_pos c]; simp [on, c]
  · rw [if_neg c]; simp [on, c]
theorem rsK_succ {k : Nat} (hk : k < M.length) : rsK ρ M (k + 1) = rsK ρ M k ++ if ρ M[k] = M[k] then [M[k]] else [] := by
  unfold rsK
  rw [List.take_succ_eq_append_getElem hk, List.filter_append]
  by_cases c : ρ M[k] = M[k]
  · rw [if_pos c]; simp [c]
  · rw [if_neg c]; simp [c]
theorem rsK_nodup (h : Mem ρ M) (k : Nat) : (rsK ρ M k).Nodup := List.Pairwise.filter _ (h.nodup.sublist (List.take_sublist _ _))
theorem mem_take {k x : Nat} (h : Mem ρ M) (hk : k < M.length) (hx : x ∈ M.take k) : x < M[k] := by
  obtain ⟨i, hi, rfl⟩ := List.getElem_of_mem hx
  rw [List.length_take] at hi
  rw [List.getElem_take]
  exact List.pairwise_iff_getElem.1 h.up i k (by omega) hk (by omega)
theorem rsK_mem {k r : Nat} (hr : r ∈ rsK ρ M k) : r ∈ M.take k ∧ ρ r = r := by
  have := List.mem_filter.1 hr
  exact ⟨this.1, of_decide_eq_true this.2⟩
theorem lsK_get {k i : Nat} (hi : i < (lsK ρ M k).length) (hi' : i < (rsK ρ M k).length) : (lsK ρ M k)[i] = grK ρ M k (rsK ρ M k)[i] := by simp only [lsK, List.getElem_map]
/-- A new group. -/
theorem ls_new (h : Mem ρ M) {k : Nat} (hk : k < M.length) (hr : ρ M[k] = M[k]) : rsK ρ M (k + 1) = rsK ρ M k ++ [M[k]] ∧ lsK ρ M (k + 1) = (lsK ρ M k ++ [[]]).set (lsK ρ M k).length ([] ++ [(M[k] : Int)]) := by
  have h1 := rsK_succ (ρ := ρ) hk
  rw [if_pos hr] at h1
  refine ⟨h1, ?_⟩
  have h2 : (lsK ρ M k ++ [[]]).set (lsK ρ M k).length ([] ++ [(M[k] : Int)]) = lsK ρ M k ++ [[(M[k] : Int)]] := by
    rw [List.set_append_right _ _ (Nat.le_refl _), Nat.sub_self]; rfl
  rw [h2]
  unfold lsK
  rw [h1, List.map_append]
  congr 1
  · refine List.map_congr_left (fun r hr2 => ?_)
    rw [grK_succ hk, if_neg (fun e => ?_), List.append_nil]
    have := mem_take h hk (rsK_mem hr2).1
    omega
  · show [grK ρ M (k + 1) M[k]] = _
    rw [grK_succ hk, if_pos hr]
    have : grK ρ M k M[k] = [] := by
      unfold grK
      have : (M.take k).filter (fun x => decide (ρ x = M[k])) = [] := by
        rw [List.filter_eq_nil_iff]
        intro x hx
        have h3 := mem_take h hk hx
        have h4 := (h.rt x (List.mem_of_mem_take hx)).2.1
        simp
        omega
      rw [this]; rfl
    rw [this]; rfl
/-- One more of a group. -/
theorem ls_old (h : Mem ρ M) {k : Nat} (hk : k < M.length) (hr : ρ M[k] ≠ M[k]) : rsK ρ M (k + 1) = rsK ρ M k ∧ ∃ j, ∃ hj : j < (rsK ρ M k).length, (rsK ρ M k)[j] = ρ M[k] ∧ lsK ρ M (k + 1) = (lsK ρ M k).set j (lx (lsK ρ M k) j ++ [(M[k] : Int)]) := by
  have h1 := rsK_succ (ρ := ρ) hk
  rw [if_neg hr, List.append_nil] at h1
  refine ⟨h1, ?_⟩
  obtain ⟨m1, m2, m3⟩ := h.rt M[k] (List.getElem_mem hk)
  have hmem : ρ M[k] ∈ rsK ρ M k := by
    refine List.mem_filter.2 ⟨?_, decide_eq_true m3⟩
    obtain ⟨i, hi, he⟩ := List.getElem_of_mem m1
    have hik : i < k := by
      rcases Nat.lt_trichotomy i k with c | c | c
      · exact c
      · subst c; exact absurd he.symm hr
      · have := List.pairwise_iff_getElem.1 h.up k i hk hi c
        omega
    rw [← he]
    have : M[i] = (M.take k)[i]'(by rw [List.length_take]; omega) := by rw [List.getElem_take]
    rw [this]
    exact List.getElem_mem _
  obtain ⟨j, hj, he⟩ := List.getElem_of_mem hmem
  refine ⟨j, hj, he, ?_⟩
  have hjl : j < (lsK ρ M k).length := by rw [lsK_len]; exact hj
  apply List.ext_getElem
  · rw [List.length_set, lsK_len, lsK_len, h1]
  · intro i hi1 hi2
    have hi3 : i < (rsK ρ M k).length := by rw [lsK_len, h1] at hi1; exact hi1
    rw [List.getElem_set]
    have e1 : (lsK ρ M (k + 1))[i] = grK ρ M (k + 1) (rsK ρ M k)[i] := by
      rw [lsK_get hi1 (by rw [h1]; exact hi3)]
      congr 1
      simp only [h1]
    rw [e1, grK_succ hk]
    by_cases e : j = i
    · subst e
      rw [if_pos rfl, if_pos he.symm, ← lx_get hjl]
      congr 1
      exact (lsK_get hjl hi3).symm
    · rw [if_neg e, if_neg (fun e2 => e ((List.getElem_inj (rsK_nodup h k)).1 (he.trans e2))), List.append_nil]
      exact (lsK_get _ hi3).symm
end
end Go.Proofs.YtddnebgnohlchaaGreatDoor
namespace Go.Proofs.YtddnebgnohlchaaGreatDoor
open Go.RowKit

section
variable (m n : Nat) (l : List Int)
/-- Those of the first k cells that are wet. -/
def wts (k : Nat) : List Nat := (List.range k).filter (fun i => decide (wetP m n l i))
theorem wts_0 : wts m n l 0 = [] := rfl
theorem wts_succ (k : Nat) : wts m n l (k + 1) = wts m n l k ++ if wetP m n l k then [k] else [] := by
  unfold wts
  rw [List.range_succ, List.filter_append]
  by_cases c : wetP m n l k
  · rw [if_pos c]; simp [c]
  · rw [if_neg c]; simp [c]
theorem wts_len (k : Nat) : (wts m n l k).length ≤ k := by
  unfold wts
  exact Nat.le_trans (List.length_filter_le _ _) (by simp)
variable {m n l}
theorem wts_mem {k x : Nat} : x ∈ wts m n l k ↔ x < k ∧ wetP m n l x := by
  unfold wts
  rw [List.mem_filter, List.mem_range, decide_eq_true_iff]
theorem wts_lakes (ok : Ok l m n) : Mem (lak m n l) (wts m n l l.length) := by
  refine ⟨List.Pairwise.filter _ List.pairwise_lt_range, fun x hx => ?_⟩
  obtain ⟨h1, h2⟩ := wts_mem.1 hx
  obtain ⟨c1, c2⟩ := lak_least ok h2
  have w1 := c1.wet.1
  obtain ⟨d1, d2⟩ := lak_least ok w1
  refine ⟨wts_mem.2 ⟨w1.1, w1⟩, c2 x (.here h2), Nat.le_antisymm (d2 _ (.here w1)) (c2 _ (d1.trans c1))⟩
theorem rho_join {p q ρ : Nat → Nat} {x : Wt} (hp : ∀ i, rt p i = ρ i) (hw : wetP m n l x.1.toNat ∧ wetP m n l x.2) (hq : ∀ i, rt q i = jn p x.1.toNat x.2 i) (i : Nat) : rt q i = rhoS m n l ρ x i := by
  rw [hq]
  unfold jn rhoS
  rw [if_pos hw, hp, hp, hp]
theorem rho_dry {ρ : Nat → Nat} {x : Wt} (hw : ¬ (wetP m n l x.1.toNat ∧ wetP m n l x.2)) (i : Nat) : rhoS m n l ρ x i = ρ i := by
  unfold rhoS
  rw [if_neg hw]
end
end Go.Proofs.YtddnebgnohlchaaGreatDoor
namespace Go.Proofs.YtddnebgnohlchaaGreatDoor
open Go.RowKit
attribute [local go_sem ↓] Go.wp_at_zero Go.wp_at_succ

theorem fih_up {m n : Nat} {l : List Int} (ok : Ok l m n) : ∀ k, k < l.length → fih m n l (oc m n l k) ≤ 1048576 := by
  intro k
  induction k using Nat.strongRecOn with
  | _ k ih =>
    intro hk
    have hlt := oc_lt m n l ok.m1 ok.len hk
    have h := (flo_h m n l ok.m1 ok.len l.length (Nat.le_refl _)).fix (oc m n l k) (by rw [flo_all m n l ok.m1 ok.len _ hlt]; omega)
    have hh := ok.hi (oc m n l k)
    unfold hiI at hh
    by_cases hr : rim m n (oc m n l k)
    · unfold fih; rw [h.1 hr]; omega
    · have hn : ¬ tw m n l (oc m n l k) = oc m n l k := fun e => hr ((tw_fix m n l ok.m1 ok.len hlt).1 e)
      obtain ⟨j, hj, hjt⟩ := (oc_bef m n l ok.m1 ok.len hk).resolve_left hn
      have h2 := ih j hj (by omega)
      rw [hjt] at h2
      have h3 := (h.2 hr).1
      unfold fih at h2 ⊢
      rw [h3]
      have h4 : (flo m n l l.length).fi ((flo m n l l.length).tw (oc m n l k)) ≤ 1048576 := h2
      unfold up1
      split <;> omega
/-- Two boxes and the row of depths. -/
structure DP (w W : World) (T U B : Nat) (t u : List Value) (L : List Int) : Prop where
  t : At W T t
  u : At W U u
  l : At W B (ir L)
  gr : Gr w W
  ne : (T ≠ B ∧ U ≠ B) ∧ w.heap.size ≤ B
theorem DP.put {w W : World} {T U B : Nat} {t u : List Value} {L : List Int} (h : DP w W T U B t u L) (i : Nat) (x : Int) : DP w (W.setCell ⟨B, i, none⟩ (.int .i64 x)) T U B t u (L.set i x) :=
  ⟨h.t.skip (Ne.symm h.ne.1.1) _ _, h.u.skip (Ne.symm h.ne.1.2) _ _, by rw [← ir_set]; exact h.l.put i _, h.gr.set h.ne.2 _ _, h.ne⟩
end Go.Proofs.YtddnebgnohlchaaGreatDoor
namespace Go.Proofs.YtddnebgnohlchaaGreatDoor
open Go.RowKit

theorem rt_id (i : Nat) : rt id i = i := rt_stop (Nat.lt_irrefl i)
theorem dpK_all {m n : Nat} {l : List Int} {i : Nat} (hi : i < l.length) : gl (dpK m n l l.length) i = fih m n l i - gl l i := by unfold dpK; rw [gl_map hi, if_pos hi]
theorem dpK_wet {m n : Nat} {l : List Int} {i : Nat} (hi : i < l.length) : (0 : Int) < gl (dpK m n l l.length) i ↔ wetP m n l i := by
  rw [dpK_all hi]
  unfold wetP
  exact ⟨fun h => ⟨hi, by omega⟩, fun h => by have := h.2; omega⟩
/-- The lists of the groups are those of the lakes. -/
theorem lsK_lakes {m n : Nat} {l : List Int} {q : Nat → Nat} (h : ∀ i, rt q i = lak m n l i) (M : List Nat) (k : Nat) : lsK (rt q) M k = lsK (lak m n l) M k := by
  rw [show rt q = lak m n l from funext h]
end Go.Proofs.YtddnebgnohlchaaGreatDoor
