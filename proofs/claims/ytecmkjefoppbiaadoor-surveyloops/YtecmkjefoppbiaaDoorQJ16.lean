/-
  Surveys, pure: the search of a tree, an edge at a time.; Surveys, pure: which marks can be reached: the search, and the round upon round of the reference.; Surveys, pure: ways home in the tree, and the loop that one more edge closes.; Surveys, pure: the loop that an edge beside the tree closes is one.
-/
import Derived.WalkKit
namespace Go.Proofs.YtecmkjefoppbiaaDoor

abbrev Ed := Nat × Nat
def eX (E : List Ed) (k : Nat) : Ed := E.getD k (0, 0)
/-- By what each mark is reached, and the marks in the order in which they are. -/
structure BS where
  wy : List Int
  ord : List Nat
def wX (s : BS) (x : Nat) : Int := s.wy.getD x 0
def oX (s : BS) (j : Nat) : Nat := s.ord.getD j 0
/-- Mark x is reached by way n. -/
def adE (s : BS) (x : Nat) (n : Int) : BS := ⟨s.wy.set x n, s.ord ++ [x]⟩
def stE (E : List Ed) (m : Nat) (s : BS) (k : Nat) : BS :=
  if (eX E k).1 = m ∧ (eX E k).2 ≠ 0 ∧ wX s (eX E k).2 = 0 then adE s (eX E k).2 ((k : Int) + 1)
  else if (eX E k).2 = m ∧ (eX E k).1 ≠ 0 ∧ wX s (eX E k).1 = 0 then adE s (eX E k).1 (-((k : Int) + 1)) else s
def scE (E : List Ed) (m : Nat) (s : BS) : Nat → BS
  | 0 => s
  | k + 1 => stE E m (scE E m s k) k
def srE (E : List Ed) (M : Nat) : Nat → BS
  | 0 => ⟨List.replicate M 0, [0]⟩
  | i + 1 => if i < (srE E M i).ord.length then scE E (oX (srE E M i) i) (srE E M i) E.length else srE E M i
/-- Right edges. -/
def okE (E : List Ed) (M : Nat) : Prop := ∀ k, k < E.length → (eX E k).1 < M ∧ (eX E k).2 < M ∧ ¬ (eX E k).1 = (eX E k).2
/-- What a search holds. -/
structure SrI (E : List Ed) (M : Nat) (s : BS) : Prop where
  l : s.wy.length = M
  nd : s.ord.Nodup
  z : 0 < s.ord.length ∧ oX s 0 = 0
  lt : ∀ x ∈ s.ord, x < M
  on : ∀ x, x < M → (¬ wX s x = 0 ↔ x ∈ s.ord ∧ ¬ x = 0)
  ed : ∀ j, 0 < j → j < s.ord.length → ∃ k, k < E.length ∧ ∃ i, i < j ∧ ((wX s (oX s j) = (k : Int) + 1 ∧ eX E k = (oX s i, oX s j)) ∨ (wX s (oX s j) = -((k : Int) + 1) ∧ eX E k = (oX s j, oX s i)))
theorem oX_mem {s : BS} {j : Nat} (h : j < s.ord.length) : oX s j ∈ s.ord := by
  have : oX s j = s.ord[j] := by simp [oX, h]
  rw [this]; exact List.getElem_mem h
theorem oX_ad {s : BS} {x : Nat} {n : Int} {j : Nat} : oX (adE s x n) j = if j < s.ord.length then oX s j else if j = s.ord.length then x else 0 := by
  unfold oX adE
  simp only [List.getD_eq_getElem?_getD]
  split
  · rw [List.getElem?_append_left (by assumption)]
  · split
    · subst_vars; simp
    · rw [List.getElem?_eq_none (by simp; omega)]; rfl
theorem wX_ad {s : BS} {x : Nat} {n : Int} {y : Nat} (hx : x < s.wy.length) : wX (adE s x n) y = if y = x then n else wX s y := by
  unfold wX adE
  simp only [List.getD_eq_getElem?_getD, List.getElem?_set]
  by_cases e : x = y
  · subst e; simp [hx]
  · rw [if_neg e, if_neg (fun h => e h.symm)]
theorem SrI.start (E : List Ed) {M : Nat} (h : 0 < M) : SrI E M ⟨List.replicate M 0, [0]⟩ :=
  ⟨by simp, by simp, ⟨by simp, rfl⟩, fun x hx => by simp at hx; omega, fun x hx => by simp [wX, hx], fun j h1 h2 => by simp at h2; omega⟩
/-- A new mark, along edge k from a mark that was reached. -/
theorem SrI.ad {E : List Ed} {M : Nat} {s : BS} (h : SrI E M s) {x i k : Nat} {n : Int} (hx : x < M) (h0 : ¬ x = 0) (hw : wX s x = 0) (hi : i < s.ord.length) (hk : k < E.length) (hn : (n = (k : Int) + 1 ∧ eX E k = (oX s i, x)) ∨ (n = -((k : Int) + 1) ∧ eX E k = (x, oX s i))) : SrI E M (adE s x n) := by
  have hno : ¬ x ∈ s.ord := fun e => ((h.on x hx).2 ⟨e, h0⟩) hw
  have hl := h.l
  have hn0 : ¬ n = 0 := by rcases hn with ⟨rfl, -⟩ | ⟨rfl, -⟩ <;> omega
  refine ⟨by simp [adE, hl], ?_, ⟨by simp [adE], ?_⟩, fun y hy => ?_, fun y hy => ?_, fun j h1 h2 => ?_⟩
  · show (s.ord ++ [x]).Nodup
    rw [List.nodup_append]
    exact ⟨h.nd, by simp, fun a ha b hb => by simp at hb; subst hb; exact fun e => hno (e ▸ ha)⟩
  · rw [oX_ad, if_pos h.z.1]; exact h.z.2
  · have : y ∈ s.ord ∨ y = x := by simpa [adE] using hy
    rcases this with q | rfl
    · exact h.lt y q
    · exact hx
  · rw [wX_ad (by omega)]
    have hm : y ∈ (adE s x n).ord ↔ y ∈ s.ord ∨ y = x := by simp [adE]
    rw [hm]
    split
    · subst_vars; exact ⟨fun _ => ⟨.inr rfl, h0⟩, fun _ => hn0⟩
    · rename_i hy2
      rw [h.on y hy]
      exact ⟨fun q => ⟨.inl q.1, q.2⟩, fun q => ⟨q.1.resolve_right hy2, q.2⟩⟩
  · have hlen : (adE s x n).ord.length = s.ord.length + 1 := by simp [adE]
    rw [hlen] at h2
    by_cases c : j < s.ord.length
    · obtain ⟨k', hk', i', hi', hr⟩ := h.ed j h1 c
      have hne : ¬ oX s j = x := fun e => hno (e ▸ oX_mem c)
      refine ⟨k', hk', i', hi', ?_⟩
      rw [oX_ad, if_pos c, oX_ad, if_pos (by omega), wX_ad (by omega), if_neg hne]
      exact hr
    · obtain rfl : j = s.ord.length := by omega
      refine ⟨k, hk, i, hi, ?_⟩
      rw [oX_ad, if_neg c, if_pos rfl, oX_ad, if_pos hi, wX_ad (by omega), if_pos rfl]
      exact hn
/-- One edge looked at. -/
theorem SrI.st {E : List Ed} {M : Nat} {s : BS} (hE : okE E M) (h : SrI E M s) {i k : Nat} (hi : i < s.ord.length) (hk : k < E.length) : SrI E M (stE E (oX s i) s k) := by
  obtain ⟨e1, e2, -⟩ := hE k hk
  unfold stE
  split
  · rename_i c
    exact h.ad e2 c.2.1 c.2.2 hi hk (.inl ⟨rfl, Prod.ext c.1 rfl⟩)
  · split
    · rename_i c
      exact h.ad e1 c.2.1 c.2.2 hi hk (.inr ⟨rfl, Prod.ext rfl c.1⟩)
    · exact h
/-- What came stays. -/
def preE (s t : BS) : Prop := s.ord <+: t.ord
theorem st_pre (E : List Ed) (m : Nat) (s : BS) (k : Nat) : preE s (stE E m s k) := by
  unfold stE
  split
  · exact ⟨_, rfl⟩
  · split
    · exact ⟨_, rfl⟩
    · exact ⟨[], List.append_nil _⟩
theorem sc_pre (E : List Ed) (m : Nat) (s : BS) : ∀ k, preE s (scE E m s k)
  | 0 => ⟨[], List.append_nil _⟩
  | k + 1 => (sc_pre E m s k).trans (st_pre E m _ k)
theorem pre_oX {s t : BS} (h : preE s t) {j : Nat} (hj : j < s.ord.length) : oX t j = oX s j ∧ j < t.ord.length := by
  obtain ⟨r, hr⟩ := h
  unfold oX
  rw [← hr]
  exact ⟨by simp only [List.getD_eq_getElem?_getD]; rw [List.getElem?_append_left hj], by simp; omega⟩
theorem SrI.sc {E : List Ed} {M : Nat} {s : BS} (hE : okE E M) (h : SrI E M s) {i : Nat} (hi : i < s.ord.length) : ∀ k, k ≤ E.length → SrI E M (scE E (oX s i) s k)
  | 0, _ => h
  | k + 1, hk => by
    obtain ⟨q1, q2⟩ := pre_oX (sc_pre E (oX s i) s k) hi
    have := (SrI.sc hE h hi k (by omega)).st hE q2 (k := k) (by omega)
    rw [q1] at this
    exact this
/-- All that lies beside a mark is reached. -/
def beE (E : List Ed) (s : BS) (m k : Nat) : Prop := ∀ n, n < k → ((eX E n).1 = m → (eX E n).2 ∈ s.ord) ∧ ((eX E n).2 = m → (eX E n).1 ∈ s.ord)
theorem st_be {E : List Ed} {M : Nat} {s : BS} (hE : okE E M) (h : SrI E M s) {i k : Nat} (_hi : i < s.ord.length) (hk : k < E.length) : ((eX E k).1 = oX s i → (eX E k).2 ∈ (stE E (oX s i) s k).ord) ∧ ((eX E k).2 = oX s i → (eX E k).1 ∈ (stE E (oX s i) s k).ord) := by
  obtain ⟨e1, e2, e3⟩ := hE k hk
  have z : 0 ∈ s.ord := by have := oX_mem h.z.1; rw [h.z.2] at this; exact this
  have hp := st_pre E (oX s i) s k
  have key : ∀ y, y < M → (¬ y = 0 → wX s y = 0 → y ∈ (stE E (oX s i) s k).ord) → y ∈ (stE E (oX s i) s k).ord := fun y hy hq => by
    by_cases c : y = 0
    · subst c; exact hp.subset z
    · by_cases d : wX s y = 0
      · exact hq c d
      · exact hp.subset ((h.on y hy).1 d).1
  constructor
  · intro hm
    refine key _ e2 fun c d => ?_
    unfold stE
    rw [if_pos ⟨hm, c, d⟩]
    simp [adE]
  · intro hm
    refine key _ e1 fun c d => ?_
    unfold stE
    rw [if_neg (fun q => e3 (q.1.trans hm.symm)), if_pos ⟨hm, c, d⟩]
    simp [adE]
theorem sc_be {E : List Ed} {M : Nat} {s : BS} (hE : okE E M) (h : SrI E M s) {i : Nat} (hi : i < s.ord.length) : ∀ k, k ≤ E.length → beE E (scE E (oX s i) s k) (oX s i) k
  | 0, _ => fun n hn => by omega
  | k + 1, hk => fun n hn => by
    have hp := st_pre E (oX s i) (scE E (oX s i) s k) k
    by_cases c : n < k
    · obtain ⟨q1, q2⟩ := sc_be hE h hi k (by omega) n c
      exact ⟨fun e => hp.subset (q1 e), fun e => hp.subset (q2 e)⟩
    · obtain rfl : n = k := by omega
      obtain ⟨q1, q2⟩ := pre_oX (sc_pre E (oX s i) s n) hi
      have := st_be hE (h.sc hE hi n (by omega)) q2 (k := n) (by omega)
      rw [q1] at this
      exact this
theorem sr_ok {E : List Ed} {M : Nat} (hE : okE E M) (hM : 0 < M) : ∀ i, SrI E M (srE E M i)
  | 0 => SrI.start E hM
  | i + 1 => by
    unfold srE
    split
    · rename_i c
      exact (sr_ok hE hM i).sc hE c _ (Nat.le_refl _)
    · exact sr_ok hE hM i
theorem sr_pre (E : List Ed) (M i : Nat) : preE (srE E M i) (srE E M (i + 1)) := by
  rw [srE]
  split
  · exact sc_pre E _ _ _
  · exact ⟨[], List.append_nil _⟩
theorem sr_be {E : List Ed} {M : Nat} (hE : okE E M) (hM : 0 < M) : ∀ i j, j < i → j < (srE E M i).ord.length → beE E (srE E M i) (oX (srE E M i) j) E.length
  | 0, j, h, _ => by omega
  | i + 1, j, h, hj => by
    have hp := sr_pre E M i
    by_cases c : i < (srE E M i).ord.length
    · have e : srE E M (i + 1) = scE E (oX (srE E M i) i) (srE E M i) E.length := by rw [srE, if_pos c]
      by_cases d : j < i
      · obtain ⟨q1, q2⟩ := pre_oX hp (j := j) (by omega)
        rw [q1]
        exact fun n hn => by
          obtain ⟨r1, r2⟩ := sr_be hE hM i j d (by omega) n hn
          exact ⟨fun x => hp.subset (r1 x), fun x => hp.subset (r2 x)⟩
      · obtain rfl : j = i := by omega
        obtain ⟨q1, q2⟩ := pre_oX hp c
        rw [q1, e]
        exact sc_be hE (sr_ok hE hM j) c _ (Nat.le_refl _)
    · have e : srE E M (i + 1) = srE E M i := by rw [srE, if_neg c]
      rw [e] at hj ⊢
      exact sr_be hE hM i j (by omega) hj
end Go.Proofs.YtecmkjefoppbiaaDoor
namespace Go.Proofs.YtecmkjefoppbiaaDoor

theorem nodup_len {N : Nat} {L : List Nat} (hd : L.Nodup) (h : ∀ i ∈ L, i < N) : L.length ≤ N := by
  induction N generalizing L with
  | zero =>
    match L with
    | [] => exact Nat.le_refl _
    | a :: _ => exact absurd (h a (by simp)) (by omega)
  | succ N ih =>
    have h1 := ih (L := L.erase N) (hd.erase N) (fun i hi => by
      have hm := List.mem_of_mem_erase hi
      have := h i hm
      have hne : i ≠ N := fun e => by subst e; exact absurd hi (List.Nodup.not_mem_erase hd)
      omega)
    by_cases c : N ∈ L
    · rw [List.length_erase_of_mem c] at h1; omega
    · rw [List.erase_of_not_mem c] at h1; omega
theorem nodup_full {N : Nat} {L : List Nat} (hd : L.Nodup) (h : ∀ i, i < N → i ∈ L) : N ≤ L.length := by
  induction N generalizing L with
  | zero => exact Nat.zero_le _
  | succ N ih =>
    have c := h N (by omega)
    have h1 := ih (L := L.erase N) (hd.erase N) (fun i hi => (List.mem_erase_of_ne (by omega)).2 (h i (by omega)))
    rw [List.length_erase_of_mem c] at h1
    have : 0 < L.length := List.length_pos_of_mem c
    omega
theorem nodup_mem {N : Nat} {L : List Nat} (hd : L.Nodup) (h : ∀ i ∈ L, i < N) (hl : L.length = N) : ∀ i, i < N → i ∈ L := by
  intro i hi
  apply Classical.byContradiction
  intro hn
  have := nodup_len (N := N) (L := i :: L) (List.nodup_cons.2 ⟨hn, hd⟩) (fun k hk => by
    rcases List.mem_cons.1 hk with rfl | hk
    · exact hi
    · exact h k hk)
  simp at this
  omega
/-- What is joined to mark 0. -/
inductive jnE (R : Nat → Nat → Prop) : Nat → Prop
  | z : jnE R 0
  | a {x y : Nat} : jnE R x → R x y → jnE R y
  | b {x y : Nat} : jnE R y → R x y → jnE R x
theorem jn_cl {R : Nat → Nat → Prop} {P : Nat → Prop} (h0 : P 0) (hc : ∀ x y, R x y → (P x ↔ P y)) {x : Nat} (h : jnE R x) : P x := by
  induction h with
  | z => exact h0
  | a _ r ih => exact (hc _ _ r).1 ih
  | b _ r ih => exact (hc _ _ r).2 ih
/-- The edges, but for one number. -/
def edR (E : List Ed) (wo : Int) (x y : Nat) : Prop := ∃ k, k < E.length ∧ ¬ (k : Int) = wo ∧ eX E k = (x, y)
theorem sr_jn {E : List Ed} {M : Nat} {s : BS} (h : SrI E M s) : ∀ j, j < s.ord.length → jnE (edR E (-1)) (oX s j) := by
  intro j
  induction j using Nat.strongRecOn with
  | _ j ih =>
    intro hj
    by_cases c : j = 0
    · subst c; rw [h.z.2]; exact .z
    · obtain ⟨k, hk, i, hi, hr⟩ := h.ed j (by omega) hj
      have q := ih i hi (by omega)
      rcases hr with ⟨-, e⟩ | ⟨-, e⟩
      · exact .a q ⟨k, hk, by omega, e⟩
      · exact .b q ⟨k, hk, by omega, e⟩
theorem ord_at {s : BS} {x : Nat} (h : x ∈ s.ord) : ∃ j, j < s.ord.length ∧ oX s j = x := by
  obtain ⟨j, hj, e⟩ := List.getElem_of_mem h
  exact ⟨j, hj, by simp [oX, hj, e]⟩
/-- Where the search comes to an end, it holds what is joined. -/
theorem sr_end {E : List Ed} {M : Nat} (hE : okE E M) (hM : 0 < M) {i : Nat} (hi : (srE E M i).ord.length ≤ i) (x : Nat) : x ∈ (srE E M i).ord ↔ jnE (edR E (-1)) x := by
  have h := sr_ok hE hM i
  constructor
  · intro hx
    obtain ⟨j, hj, rfl⟩ := ord_at hx
    exact sr_jn h j hj
  · refine jn_cl (by have := oX_mem h.z.1; rw [h.z.2] at this; exact this) (fun a b hr => ?_)
    obtain ⟨k, hk, -, e⟩ := hr
    constructor
    · intro ha
      obtain ⟨j, hj, rfl⟩ := ord_at ha
      have := (sr_be hE hM i j (by omega) hj k hk).1 (by rw [e])
      rw [e] at this; exact this
    · intro hb
      obtain ⟨j, hj, rfl⟩ := ord_at hb
      have := (sr_be hE hM i j (by omega) hj k hk).2 (by rw [e])
      rw [e] at this; exact this
theorem SrI.len {E : List Ed} {M : Nat} {s : BS} (h : SrI E M s) : s.ord.length ≤ M := nodup_len h.nd h.lt
theorem sr_stop {E : List Ed} {M i : Nat} (h : (srE E M i).ord.length ≤ i) : ∀ n, srE E M (i + n) = srE E M i
  | 0 => rfl
  | n + 1 => by
    have ih := sr_stop h n
    show srE E M (i + n + 1) = _
    rw [srE, ih, if_neg (by omega)]
/-- All marks are reached. -/
def alE (E : List Ed) (M : Nat) : Prop := ∀ x, x < M → jnE (edR E (-1)) x
theorem al_iff {E : List Ed} {M : Nat} (hE : okE E M) (hM : 0 < M) : alE E M ↔ ∀ i, i < M → i < (srE E M i).ord.length := by
  constructor
  · intro h i hi
    refine Classical.byContradiction fun c => ?_
    have hc : (srE E M i).ord.length ≤ i := by omega
    have := nodup_full (N := M) (sr_ok hE hM i).nd (fun x hx => (sr_end hE hM hc x).2 (h x hx))
    omega
  · intro h x hx
    have hl : (srE E M M).ord.length = M := by
      have h1 := (sr_ok hE hM M).len
      have h2 := h (M - 1) (by omega)
      have h3 : (srE E M (M - 1)).ord.length ≤ (srE E M (M - 1 + 1)).ord.length := (sr_pre E M (M - 1)).length_le
      rw [show M - 1 + 1 = M by omega] at h3
      omega
    exact (sr_end hE hM (i := M) (by omega) x).1 (nodup_mem (sr_ok hE hM M).nd (sr_ok hE hM M).lt hl x hx)
/-- The reference: an edge joins its marks. -/
def onX (L : List Bool) (x : Nat) : Bool := L.getD x false
def rsE (E : List Ed) (wo : Int) (L : List Bool) (k : Nat) : List Bool :=
  if ¬ (k : Int) = wo ∧ (onX L (eX E k).1 = true ∨ onX L (eX E k).2 = true) then (L.set (eX E k).1 true).set (eX E k).2 true else L
def rdE (E : List Ed) (wo : Int) (L : List Bool) : Nat → List Bool
  | 0 => L
  | k + 1 => rsE E wo (rdE E wo L k) k
def rrE (E : List Ed) (wo : Int) (M : Nat) : Nat → List Bool
  | 0 => (List.replicate M false).set 0 true
  | n + 1 => rdE E wo (rrE E wo M n) E.length
theorem on_set {L : List Bool} {x : Nat} (hx : x < L.length) (y : Nat) : onX (L.set x true) y = if y = x then true else onX L y := by
  unfold onX
  simp only [List.getD_eq_getElem?_getD, List.getElem?_set]
  by_cases e : x = y
  · subst e; simp [hx]
  · rw [if_neg e, if_neg (fun h => e h.symm)]
theorem rs_len (E : List Ed) (wo : Int) (L : List Bool) (k : Nat) : (rsE E wo L k).length = L.length := by unfold rsE; split <;> simp
theorem rd_len (E : List Ed) (wo : Int) (L : List Bool) : ∀ k, (rdE E wo L k).length = L.length
  | 0 => rfl
  | k + 1 => (rs_len _ _ _ _).trans (rd_len E wo L k)
theorem rr_len (E : List Ed) (wo : Int) (M : Nat) : ∀ n, (rrE E wo M n).length = M
  | 0 => by simp [rrE]
  | n + 1 => (rd_len _ _ _ _).trans (rr_len E wo M n)
theorem rs_on {E : List Ed} {M : Nat} {wo : Int} (hE : okE E M) {L : List Bool} (hL : L.length = M) {k : Nat} (hk : k < E.length) (y : Nat) : onX (rsE E wo L k) y = true ↔ onX L y = true ∨ (¬ (k : Int) = wo ∧ (onX L (eX E k).1 = true ∨ onX L (eX E k).2 = true) ∧ (y = (eX E k).1 ∨ y = (eX E k).2)) := by
  obtain ⟨e1, e2, -⟩ := hE k hk
  unfold rsE
  split
  · rename_i c
    rw [on_set (by simp; omega), on_set (by omega)]
    split
    · exact ⟨fun _ => .inr ⟨c.1, c.2, .inr (by assumption)⟩, fun _ => rfl⟩
    · split
      · exact ⟨fun _ => .inr ⟨c.1, c.2, .inl (by assumption)⟩, fun _ => rfl⟩
      · exact ⟨.inl, fun q => q.resolve_right fun r => by rcases r.2.2 with r | r <;> contradiction⟩
  · rename_i c
    exact ⟨.inl, fun q => q.resolve_right fun r => c ⟨r.1, r.2.1⟩⟩
/-- What is on stays on; what is on is joined. -/
theorem rd_up {E : List Ed} {M : Nat} {wo : Int} (hE : okE E M) {L : List Bool} (hL : L.length = M) (y : Nat) : ∀ k n, k ≤ n → n ≤ E.length → onX (rdE E wo L k) y = true → onX (rdE E wo L n) y = true := by
  intro k n hkn
  induction n with
  | zero =>
    intro _ h
    obtain rfl : k = 0 := by omega
    exact h
  | succ n ih =>
    intro hn h
    by_cases c : k = n + 1
    · subst c; exact h
    · exact (rs_on hE ((rd_len _ _ _ _).trans hL) (by omega) y).2 (.inl (ih (by omega) (by omega) h))
theorem rd_jn {E : List Ed} {M : Nat} {wo : Int} (hE : okE E M) {L : List Bool} (hL : L.length = M) (h : ∀ y, onX L y = true → jnE (edR E wo) y) : ∀ k, k ≤ E.length → ∀ y, onX (rdE E wo L k) y = true → jnE (edR E wo) y
  | 0, _, y, q => h y q
  | k + 1, hk, y, q => by
    have ih := rd_jn hE hL h k (by omega)
    rcases (rs_on hE ((rd_len _ _ _ _).trans hL) (by omega) y).1 q with q | ⟨q1, q2, q3⟩
    · exact ih y q
    · have hr : edR E wo (eX E k).1 (eX E k).2 := ⟨k, by omega, q1, rfl⟩
      rcases q2 with q2 | q2 <;> rcases q3 with rfl | rfl
      · exact ih _ q2
      · exact .a (ih _ q2) hr
      · exact .b (ih _ q2) hr
      · exact ih _ q2
theorem rr_jn {E : List Ed} {M : Nat} {wo : Int} (hE : okE E M) (hM : 0 < M) : ∀ n y, onX (rrE E wo M n) y = true → jnE (edR E wo) y
  | 0, y, h => by
    unfold rrE at h
    rw [on_set (by simpa using hM)] at h
    split at h
    · subst_vars; exact .z
    · rw [show onX (List.replicate M false) y = false by unfold onX; simp [List.getElem?_replicate]; split <;> rfl] at h
      cases h
  | n + 1, y, h => rd_jn hE (rr_len _ _ _ _) (rr_jn hE hM n) _ (Nat.le_refl _) y h
theorem rr_0 {E : List Ed} {M : Nat} {wo : Int} (hE : okE E M) (hM : 0 < M) : ∀ n, onX (rrE E wo M n) 0 = true
  | 0 => by unfold rrE; rw [on_set (by simpa using hM), if_pos rfl]
  | n + 1 => rd_up hE (rr_len _ _ _ _) 0 0 E.length (Nat.zero_le _) (Nat.le_refl _) (rr_0 hE hM n)
/-- A round that turns nothing on has come to the end. -/
theorem rd_still {E : List Ed} {M : Nat} {wo : Int} (hE : okE E M) {L : List Bool} (hL : L.length = M) (h0 : onX L 0 = true) (h : ∀ y, onX (rdE E wo L E.length) y = true → onX L y = true) {y : Nat} (hy : jnE (edR E wo) y) : onX L y = true := by
  refine jn_cl (P := fun y => onX L y = true) h0 (fun a b hr => ?_) hy
  obtain ⟨k, hk, hw, e⟩ := hr
  have key : ∀ z, (onX L a = true ∨ onX L b = true) → (z = a ∨ z = b) → onX L z = true := fun z h1 h2 => by
    refine h z (rd_up hE hL z (k + 1) E.length (by omega) (Nat.le_refl _) ?_)
    refine (rs_on hE ((rd_len _ _ _ _).trans hL) hk z).2 (.inr ⟨hw, ?_, by rw [e]; exact h2⟩)
    rw [e]
    exact h1.imp (fun q => rd_up hE hL _ 0 k (Nat.zero_le _) (by omega) q) (fun q => rd_up hE hL _ 0 k (Nat.zero_le _) (by omega) q)
  exact ⟨fun q => key b (.inl q) (.inr rfl), fun q => key a (.inr q) (.inl rfl)⟩
/-- How many are on. -/
def cnX (L : List Bool) : Nat := L.countP id
theorem cn_le : ∀ (L L' : List Bool), L.length = L'.length → (∀ y, onX L y = true → onX L' y = true) → cnX L ≤ cnX L' ∧ (cnX L = cnX L' → ∀ y, onX L' y = true → onX L y = true)
  | [], [], _, _ => ⟨Nat.le_refl _, fun _ y h => h⟩
  | a :: L, [], h, _ => by simp at h
  | [], b :: L', h, _ => by simp at h
  | a :: L, b :: L', h, hs => by
    obtain ⟨i1, i2⟩ := cn_le L L' (by simpa using h) (fun y hy => hs (y + 1) hy)
    have h0 : a = true → b = true := hs 0
    have e1 : cnX (a :: L) = cnX L + if a = true then 1 else 0 := by simp [cnX, List.countP_cons]
    have e2 : cnX (b :: L') = cnX L' + if b = true then 1 else 0 := by simp [cnX, List.countP_cons]
    rw [e1, e2]
    cases a <;> cases b <;> simp at h0 ⊢
    · exact ⟨i1, fun e y hy => by
        match y, hy with
        | 0, hy => exact hy
        | y + 1, hy => exact i2 e y hy⟩
    · exact ⟨by omega, fun e => by omega⟩
    · exact ⟨i1, fun e y hy => by
        match y, hy with
        | 0, hy => exact hy
        | y + 1, hy => exact i2 e y hy⟩
theorem rr_all {E : List Ed} {M : Nat} {wo : Int} (hE : okE E M) (hM : 0 < M) : ∀ n, (∀ y, jnE (edR E wo) y → onX (rrE E wo M n) y = true) ∨ n + 1 ≤ cnX (rrE E wo M n)
  | 0 => .inr (by
    have h0 : onX (rrE E wo M 0) 0 = true := rr_0 hE hM 0
    rcases Nat.eq_zero_or_pos (cnX (rrE E wo M 0)) with c | c
    · exfalso
      have := (cn_le (List.replicate (rrE E wo M 0).length false) _ (by simp) (fun y hy => by
        rw [show onX (List.replicate (rrE E wo M 0).length false) y = false by unfold onX; simp [List.getElem?_replicate]; split <;> rfl] at hy
        cases hy)).2 (by rw [c]; simp [cnX]) 0 h0
      rw [show onX (List.replicate (rrE E wo M 0).length false) 0 = false by unfold onX; simp [List.getElem?_replicate]; split <;> rfl] at this
      cases this
    · omega)
  | n + 1 => by
    have hup : ∀ y, onX (rrE E wo M n) y = true → onX (rrE E wo M (n + 1)) y = true := fun y hy => rd_up hE (rr_len _ _ _ _) y 0 E.length (Nat.zero_le _) (Nat.le_refl _) hy
    rcases rr_all hE hM n with h | h
    · exact .inl fun y hy => hup y (h y hy)
    · obtain ⟨c1, c2⟩ := cn_le _ _ ((rr_len E wo M n).trans (rr_len E wo M (n + 1)).symm) hup
      by_cases e : cnX (rrE E wo M n) = cnX (rrE E wo M (n + 1))
      · exact .inl fun y hy => hup y (rd_still hE (rr_len _ _ _ _) (rr_0 hE hM n) (c2 e) hy)
      · exact .inr (by omega)
/-- Behind as many rounds as there are marks just those are on that are joined. -/
theorem rr_iff {E : List Ed} {M : Nat} {wo : Int} (hE : okE E M) (hM : 0 < M) (y : Nat) : onX (rrE E wo M M) y = true ↔ jnE (edR E wo) y := by
  refine ⟨rr_jn hE hM M y, fun h => ?_⟩
  rcases rr_all (wo := wo) hE hM M with q | q
  · exact q y h
  · have : cnX (rrE E wo M M) ≤ (rrE E wo M M).length := List.countP_le_length
    rw [rr_len] at this
    omega
end Go.Proofs.YtecmkjefoppbiaaDoor
namespace Go.Proofs.YtecmkjefoppbiaaDoor

/-- Where a way begins and where it leads to: k + 1 along edge k, below 0 the other way. -/
def frW (E : List Ed) (w : Int) : Nat := if 0 < w then (eX E (w - 1).toNat).1 else (eX E (-w - 1).toNat).2
def toW (E : List Ed) (w : Int) : Nat := if 0 < w then (eX E (w - 1).toNat).2 else (eX E (-w - 1).toNat).1
theorem fr_neg (E : List Ed) {w : Int} (h : ¬ w = 0) : frW E (-w) = toW E w := by
  unfold frW toW
  by_cases c : 0 < w
  · rw [if_neg (by omega), if_pos c, Int.neg_neg]
  · rw [if_pos (by omega), if_neg c]
theorem to_neg (E : List Ed) {w : Int} (h : ¬ w = 0) : toW E (-w) = frW E w := by
  have := fr_neg E (w := -w) (by omega)
  rw [Int.neg_neg] at this
  exact this.symm
/-- A way of ways. -/
def chE (E : List Ed) : Nat → List Int → Nat → Prop
  | a, [], b => a = b
  | a, w :: l, b => ¬ w = 0 ∧ frW E w = a ∧ chE E (toW E w) l b
theorem ch_app {E : List Ed} {b c : Nat} : ∀ {l m : List Int} {a : Nat}, chE E a l b → chE E b m c → chE E a (l ++ m) c
  | [], m, a, h, k => by cases h; exact k
  | w :: l, m, a, h, k => ⟨h.1, h.2.1, ch_app h.2.2 k⟩
theorem ch_cut {E : List Ed} {c : Nat} : ∀ {l m : List Int} {a : Nat}, chE E a (l ++ m) c → ∃ b, chE E a l b ∧ chE E b m c
  | [], m, a, h => ⟨a, rfl, h⟩
  | w :: l, m, a, h => by
    obtain ⟨b, h1, h2⟩ := ch_cut h.2.2
    exact ⟨b, ⟨h.1, h.2.1, h1⟩, h2⟩
theorem ch_one {E : List Ed} : ∀ {l : List Int} {a b c : Nat}, chE E a l b → chE E a l c → b = c
  | [], _a, _b, _c, h, k => h.symm.trans k
  | _w :: _l, _a, _b, _c, h, k => ch_one h.2.2 k.2.2
/-- Back again. -/
theorem ch_back {E : List Ed} : ∀ {l : List Int} {a b : Nat}, chE E a l b → chE E b (l.reverse.map (fun w => -w)) a
  | [], a, b, h => h.symm
  | w :: l, a, b, h => by
    rw [List.reverse_cons, List.map_append]
    refine ch_app (ch_back h.2.2) ⟨fun e => h.1 (by have e' : -w = 0 := e; omega), fr_neg E h.1, ?_⟩
    show toW E (-w) = a
    rw [to_neg E h.1]; exact h.2.1
/-- The next mark on the way home. -/
def paE (E : List Ed) (s : BS) (x : Nat) : Nat := frW E (wX s x)
/-- The marks on the way home, mark 0 not among them. -/
def phE (E : List Ed) (s : BS) : Nat → Nat → List Nat
  | 0, _ => []
  | n + 1, x => if x = 0 then [] else x :: phE E s n (paE E s x)
section
variable {E : List Ed} {M : Nat} {s : BS} (h : SrI E M s)
include h
theorem wy_at {j : Nat} (h0 : 0 < j) (hj : j < s.ord.length) : ¬ wX s (oX s j) = 0 ∧ (wX s (oX s j)).natAbs ≤ E.length ∧ toW E (wX s (oX s j)) = oX s j ∧ ∃ i, i < j ∧ paE E s (oX s j) = oX s i := by
  obtain ⟨k, hk, i, hi, hr⟩ := h.ed j h0 hj
  unfold paE frW toW
  rcases hr with ⟨e1, e2⟩ | ⟨e1, e2⟩
  · rw [e1, if_pos (by omega), if_pos (by omega), show ((k : Int) + 1 - 1).toNat = k by omega, e2]
    exact ⟨by omega, by omega, rfl, i, hi, rfl⟩
  · rw [e1, if_neg (by omega), if_neg (by omega), show (-(-((k : Int) + 1)) - 1).toNat = k by omega, e2]
    exact ⟨by omega, by omega, rfl, i, hi, rfl⟩
theorem o_ne {j : Nat} (h0 : 0 < j) (hj : j < s.ord.length) : ¬ oX s j = 0 := fun e => by
  have h1 := h.z
  have e1 : oX s j = s.ord[j] := by simp [oX, hj]
  have e2 : oX s 0 = s.ord[0] := by simp [oX, h1.1]
  exact (List.pairwise_iff_getElem.1 h.nd) 0 j h1.1 hj h0 (by rw [← e1, ← e2, e, h1.2])
/-- More steps than marks ahead change nothing. -/
theorem ph_fuel : ∀ (j : Nat), j < s.ord.length → ∀ n, j ≤ n → phE E s n (oX s j) = phE E s j (oX s j) := by
  intro j
  induction j using Nat.strongRecOn with
  | _ j ih =>
    intro hj n hn
    by_cases c : j = 0
    · subst c
      rw [h.z.2]
      cases n with
      | zero => rfl
      | succ n => simp [phE]
    · obtain ⟨-, -, -, i, hi, ep⟩ := wy_at h (by omega) hj
      have hne := o_ne h (by omega) hj
      obtain ⟨m, rfl⟩ : ∃ m, n = m + 1 := ⟨n - 1, by omega⟩
      obtain ⟨q, rfl⟩ : ∃ q, j = q + 1 := ⟨j - 1, by omega⟩
      rw [phE, if_neg hne, phE, if_neg hne, ep, ih i hi (by omega) m (by omega), ih i hi (by omega) q (by omega)]
theorem ph_step {x n : Nat} (hx : x ∈ s.ord) (h0 : ¬ x = 0) (hn : s.ord.length ≤ n) : phE E s n x = x :: phE E s n (paE E s x) ∧ paE E s x ∈ s.ord := by
  obtain ⟨j, hj, rfl⟩ := ord_at hx
  have hj0 : 0 < j := by
    rcases Nat.eq_zero_or_pos j with c | c
    · subst c; exact absurd h.z.2 h0
    · exact c
  obtain ⟨-, -, -, i, hi, ep⟩ := wy_at h hj0 hj
  obtain ⟨m, rfl⟩ : ∃ m, n = m + 1 := ⟨n - 1, by omega⟩
  refine ⟨?_, by rw [ep]; exact oX_mem (by omega)⟩
  rw [show phE E s (m + 1) (oX s j) = if oX s j = 0 then [] else oX s j :: phE E s m (paE E s (oX s j)) from rfl, if_neg h0, ep, ph_fuel h i (by omega) m (by omega), ph_fuel h i (by omega) (m + 1) (by omega)]
/-- The ways home. -/
theorem ho_ch {n : Nat} (hn : s.ord.length ≤ n) : ∀ j, j < s.ord.length → chE E (oX s j) ((phE E s n (oX s j)).map fun y => -wX s y) 0 := by
  intro j
  induction j using Nat.strongRecOn with
  | _ j ih =>
    intro hj
    by_cases c : j = 0
    · subst c
      rw [h.z.2]
      cases n with
      | zero => rfl
      | succ n => simp [phE, chE]
    · obtain ⟨w1, -, w3, i, hi, ep⟩ := wy_at h (by omega) hj
      rw [(ph_step h (oX_mem hj) (o_ne h (by omega) hj) hn).1, List.map_cons]
      refine ⟨by omega, by rw [fr_neg E w1]; exact w3, ?_⟩
      rw [to_neg E w1]
      have := ih i hi (by omega)
      rw [← ep] at this
      exact this
/-- Each mark on a way home has the rest as its own way home. -/
theorem ph_tail {n : Nat} (hn : s.ord.length ≤ n) : ∀ j, j < s.ord.length → ∀ A v B, phE E s n (oX s j) = A ++ v :: B → phE E s n v = v :: B ∧ v ∈ s.ord ∧ ¬ v = 0 := by
  intro j
  induction j using Nat.strongRecOn with
  | _ j ih =>
    intro hj A v B e
    by_cases c : j = 0
    · subst c
      rw [h.z.2] at e
      cases n with
      | zero => simp [phE] at e
      | succ n => simp [phE] at e
    · obtain ⟨-, -, -, i, hi, ep⟩ := wy_at h (by omega) hj
      have hne := o_ne h (by omega) hj
      have hs := (ph_step h (oX_mem hj) hne hn).1
      cases A with
      | nil =>
        have e' : phE E s n (oX s j) = v :: B := e
        rw [hs] at e'
        obtain ⟨e1, e2⟩ := List.cons.inj e'
        rw [← e1]
        exact ⟨by rw [hs, e2], oX_mem hj, hne⟩
      | cons a A =>
        rw [hs] at e
        have e2 := (List.cons.inj e).2
        rw [ep] at e2
        exact ih i hi (by omega) A v B e2
/-- A mark is told by its way. -/
theorem w_inj {x y : Nat} (hx : x ∈ s.ord ∧ ¬ x = 0) (hy : y ∈ s.ord ∧ ¬ y = 0) (e : wX s x = wX s y) : x = y := by
  obtain ⟨j, hj, rfl⟩ := ord_at hx.1
  obtain ⟨k, hk, rfl⟩ := ord_at hy.1
  have j0 : 0 < j := by
    rcases Nat.eq_zero_or_pos j with c | c
    · subst c; exact absurd h.z.2 hx.2
    · exact c
  have k0 : 0 < k := by
    rcases Nat.eq_zero_or_pos k with c | c
    · subst c; exact absurd h.z.2 hy.2
    · exact c
  rw [← (wy_at h j0 hj).2.2.1, ← (wy_at h k0 hk).2.2.1, e]
end
end Go.Proofs.YtecmkjefoppbiaaDoor
namespace Go.Proofs.YtecmkjefoppbiaaDoor

/-- Is an edge of the tree? -/
def inT (E : List Ed) (s : BS) (i : Nat) : Prop := wX s (eX E i).2 = (i : Int) + 1 ∨ wX s (eX E i).1 = -((i : Int) + 1)
section
variable {E : List Ed} {M : Nat} {s : BS} (h : SrI E M s)
include h
theorem on_pos {x : Nat} (hx : x ∈ s.ord ∧ ¬ x = 0) : ∃ j, 0 < j ∧ j < s.ord.length ∧ oX s j = x := by
  obtain ⟨j, hj, rfl⟩ := ord_at hx.1
  rcases Nat.eq_zero_or_pos j with c | c
  · subst c; exact absurd h.z.2 hx.2
  · exact ⟨j, c, hj, rfl⟩
theorem in_iff {i : Nat} : (∃ x, x < M ∧ (wX s x = (i : Int) + 1 ∨ wX s x = -((i : Int) + 1))) → inT E s i := by
  rintro ⟨x, hx, hw⟩
  have hn : ¬ wX s x = 0 := by rcases hw with e | e <;> omega
  obtain ⟨j, j0, hj, rfl⟩ := on_pos h ((h.on x hx).1 hn)
  have ht := (wy_at h j0 hj).2.2.1
  unfold toW at ht
  rcases hw with e | e
  · rw [e, if_pos (by omega), show ((i : Int) + 1 - 1).toNat = i by omega] at ht
    exact .inl (by rw [ht]; exact e)
  · rw [e, if_neg (by omega), show (-(-((i : Int) + 1)) - 1).toNat = i by omega] at ht
    exact .inr (by rw [ht]; exact e)
/-- An edge is the way to one mark alone. -/
theorem a_inj {x y : Nat} (hx : x ∈ s.ord ∧ ¬ x = 0) (hy : y ∈ s.ord ∧ ¬ y = 0) (e : (wX s x).natAbs = (wX s y).natAbs) : x = y := by
  by_cases c : wX s x = wX s y
  · exact w_inj h hx hy c
  · exfalso
    have e2 : wX s x = -wX s y := by omega
    obtain ⟨j, j0, hj, rfl⟩ := on_pos h hx
    obtain ⟨k, k0, hk, rfl⟩ := on_pos h hy
    obtain ⟨w1, -, w3, i, hi, ep⟩ := wy_at h j0 hj
    obtain ⟨u1, -, u3, l, hl, eq⟩ := wy_at h k0 hk
    unfold paE at ep eq
    rw [e2] at w3 ep
    rw [to_neg E u1, eq] at w3
    rw [fr_neg E u1, u3] at ep
    -- l is j's place, i is k's
    have inj : ∀ a b, a < s.ord.length → b < s.ord.length → oX s a = oX s b → a = b := fun a b ha hb e => by
      have e1 : oX s a = s.ord[a] := by simp [oX, ha]
      have e2 : oX s b = s.ord[b] := by simp [oX, hb]
      rw [e1, e2] at e
      rcases Nat.lt_trichotomy a b with q | q | q
      · exact absurd e ((List.pairwise_iff_getElem.1 h.nd) a b ha hb q)
      · exact q
      · exact absurd e.symm ((List.pairwise_iff_getElem.1 h.nd) b a hb ha q)
    have q1 := inj l j (by omega) hj w3
    have q2 := inj k i hk (by omega) ep
    omega
variable {n : Nat} (hn : s.ord.length ≤ n)
include hn
theorem ph_nd {x : Nat} (hx : x ∈ s.ord) : (phE E s n x).Nodup := by
  obtain ⟨j, hj, rfl⟩ := ord_at hx
  rw [List.nodup_iff_pairwise_ne, List.pairwise_iff_getElem]
  intro a b ha hb hab e
  have s1 : phE E s n (oX s j) = (phE E s n (oX s j)).take a ++ (phE E s n (oX s j))[a] :: (phE E s n (oX s j)).drop (a + 1) := by rw [← List.drop_eq_getElem_cons ha, List.take_append_drop]
  have s2 : phE E s n (oX s j) = (phE E s n (oX s j)).take b ++ (phE E s n (oX s j))[b] :: (phE E s n (oX s j)).drop (b + 1) := by rw [← List.drop_eq_getElem_cons hb, List.take_append_drop]
  have t1 := (ph_tail h hn j hj _ _ _ s1).1
  have t2 := (ph_tail h hn j hj _ _ _ s2).1
  rw [e, t2] at t1
  have := congrArg List.length (List.cons.inj t1).2
  simp only [List.length_drop] at this
  omega
/-- What the loop holds behind its first: two ways home, cut where they have met. -/
theorem loop_ok {x y i : Nat} (hi : ¬ inT E s i) (_hE : i < E.length) (hx : x ∈ s.ord) (hy : y ∈ s.ord) (ei : eX E i = (y, x)) {A B C : List Int} (ha : (phE E s n x).map (fun v => -wX s v) = A ++ C) (hb : (phE E s n y).map (fun v => -wX s v) = B ++ C) (hs : A = [] ∨ B = [] ∨ ¬ A.getLast? = B.getLast?) :
    chE E y (((i : Int) + 1) :: (A ++ B.reverse.map (fun w => -w))) y ∧
    (∀ w ∈ A ++ B.reverse.map (fun w => -w), ¬ w = 0 ∧ w.natAbs ≤ E.length ∧ inT E s (w.natAbs - 1)) ∧
    ((((i : Int) + 1) :: (A ++ B.reverse.map (fun w => -w))).map Int.natAbs).Nodup := by
  obtain ⟨VA, VC, ea, rfl, rfl⟩ := List.map_eq_append_iff.1 ha
  obtain ⟨VB, VD, eb, rfl, ec⟩ := List.map_eq_append_iff.1 hb
  have hin : ∀ z, z ∈ s.ord → ∀ v ∈ phE E s n z, v ∈ s.ord ∧ ¬ v = 0 := fun z hz v hv => by
    obtain ⟨j, hj, rfl⟩ := ord_at hz
    obtain ⟨P, Q, e⟩ := List.append_of_mem hv
    exact (ph_tail h hn j hj P v Q e).2
  have hvx := hin x hx
  have hvy := hin y hy
  rw [ea] at hvx
  rw [eb] at hvy
  have hd : VD = VC := by
    have key : ∀ (P Q : List Nat), (∀ v ∈ P, v ∈ s.ord ∧ ¬ v = 0) → (∀ v ∈ Q, v ∈ s.ord ∧ ¬ v = 0) → P.map (fun v => -wX s v) = Q.map (fun v => -wX s v) → P = Q := by
      intro P
      induction P with
      | nil => intro Q _ _ e; cases Q with
        | nil => rfl
        | cons b Q => simp at e
      | cons a P ih =>
        intro Q hp hq e
        cases Q with
        | nil => simp at e
        | cons b Q =>
          obtain ⟨e1, e2⟩ := List.cons.inj e
          rw [w_inj h (hp a (by simp)) (hq b (by simp)) (by have e1' : -wX s a = -wX s b := e1; omega), ih Q (fun v hv => hp v (by simp [hv])) (fun v hv => hq v (by simp [hv])) e2]
    exact key VD VC (fun v hv => hvy v (by simp [hv])) (fun v hv => hvx v (by simp [hv])) ec
  subst hd
  obtain ⟨jx, hjx, ejx⟩ := ord_at hx
  obtain ⟨jy, hjy, ejy⟩ := ord_at hy
  -- no mark is on both ways ahead of where they meet
  have hdis : ∀ v, v ∈ VA → ¬ v ∈ VB := fun v h1 h2 => by
    obtain ⟨P, Q, e1⟩ := List.append_of_mem h1
    obtain ⟨P', Q', e2⟩ := List.append_of_mem h2
    subst e1 e2
    have t1 := (ph_tail h hn jx hjx P v (Q ++ VD) (by rw [ejx, ea]; simp)).1
    have t2 := (ph_tail h hn jy hjy P' v (Q' ++ VD) (by rw [ejy, eb]; simp)).1
    rw [t1] at t2
    have e3 := List.append_cancel_right (List.cons.inj t2).2
    subst e3
    rcases hs with q | q | q
    · simp at q
    · simp at q
    · refine q ?_
      rw [List.map_append, List.map_append, List.getLast?_append, List.getLast?_append, List.map_cons, List.getLast?_cons]
      rfl
  have hA : ∀ v ∈ VA, v ∈ s.ord ∧ ¬ v = 0 := fun v hv => hvx v (by simp [hv])
  have hB : ∀ v ∈ VB, v ∈ s.ord ∧ ¬ v = 0 := fun v hv => hvy v (by simp [hv])
  have eBr : (VB.map fun v => -wX s v).reverse.map (fun w => -w) = VB.reverse.map (wX s) := by
    rw [← List.map_reverse, List.map_map]
    exact List.map_congr_left fun v _ => by simp
  have htr : ∀ v, v ∈ s.ord ∧ ¬ v = 0 → ¬ wX s v = 0 ∧ (wX s v).natAbs ≤ E.length ∧ inT E s ((wX s v).natAbs - 1) := fun v hv => by
    obtain ⟨j, j0, hj, e⟩ := on_pos h hv
    obtain ⟨w1, w2, -⟩ := wy_at h j0 hj
    rw [e] at w1 w2
    exact ⟨w1, w2, in_iff h ⟨v, h.lt v hv.1, by omega⟩⟩
  have cx := ho_ch h hn jx hjx
  have cy := ho_ch h hn jy hjy
  rw [ejx, ea, List.map_append] at cx
  rw [ejy, eb, List.map_append] at cy
  obtain ⟨c1, cx1, cx2⟩ := ch_cut cx
  obtain ⟨c2, cy1, cy2⟩ := ch_cut cy
  have ecc : c1 = c2 := by
    have r1 := ch_back cx2
    have r2 := ch_back cy2
    exact ch_one r1 r2
  subst ecc
  rw [eBr]
  refine ⟨⟨by omega, ?_, ?_⟩, fun w hw => ?_, ?_⟩
  · unfold frW
    rw [if_pos (by omega), show ((i : Int) + 1 - 1).toNat = i by omega, ei]
  · have et : toW E ((i : Int) + 1) = x := by
      unfold toW
      rw [if_pos (by omega), show ((i : Int) + 1 - 1).toNat = i by omega, ei]
    rw [et, ← eBr]
    exact ch_app cx1 (ch_back cy1)
  · rw [List.mem_append] at hw
    rcases hw with hw | hw
    · obtain ⟨v, hv, rfl⟩ := List.mem_map.1 hw
      obtain ⟨t1, t2, t3⟩ := htr v (hA v hv)
      rw [Int.natAbs_neg]
      exact ⟨by omega, t2, t3⟩
    · obtain ⟨v, hv, rfl⟩ := List.mem_map.1 hw
      exact htr v (hB v (List.mem_reverse.1 hv))
  · have em : (((i : Int) + 1) :: (VA.map (fun v => -wX s v) ++ VB.reverse.map (wX s))).map Int.natAbs = (i + 1) :: (VA ++ VB.reverse).map (fun v => (wX s v).natAbs) := by
      rw [List.map_cons, List.map_append, List.map_append, List.map_map, List.map_map]
      congr 1
      congr 1
      exact List.map_congr_left fun v _ => by simp
    rw [em, List.nodup_cons]
    have hall : ∀ v ∈ VA ++ VB.reverse, v ∈ s.ord ∧ ¬ v = 0 := fun v hv => by
      rcases List.mem_append.1 hv with q | q
      · exact hA v q
      · exact hB v (List.mem_reverse.1 q)
    constructor
    · intro hm
      obtain ⟨v, hv, e⟩ := List.mem_map.1 hm
      exact hi (in_iff h ⟨v, h.lt v (hall v hv).1, by have e' : (wX s v).natAbs = i + 1 := e; omega⟩)
    · have hnd : (VA ++ VB.reverse).Nodup := by
        have n1 := ph_nd h hn hx
        have n2 := ph_nd h hn hy
        rw [ea, List.nodup_append] at n1
        rw [eb, List.nodup_append] at n2
        rw [List.nodup_append]
        exact ⟨n1.1, List.nodup_iff_pairwise_ne.2 (List.pairwise_reverse.2 ((List.nodup_iff_pairwise_ne.1 n2.1).imp fun q e => q e.symm)), fun a ha b hb e => hdis a ha (by rw [e]; exact List.mem_reverse.1 hb)⟩
      rw [List.nodup_iff_pairwise_ne, List.pairwise_map]
      exact (List.nodup_iff_pairwise_ne.1 hnd).imp_of_mem fun {a b} ha hb hab e => hab (a_inj h (hall a ha) (hall b hb) e)
end
end Go.Proofs.YtecmkjefoppbiaaDoor
