/-
  Streams: which cells are of a stream, how many of them flow into one, and their orders by Strahler. No Go text of its own.
-/
import Derived.Test.YtlhligeicnejbaaDoorQJ13
namespace Go.Proofs.YtlhligeicnejbaaDoor
open Go.RowKit

/-- An order more flows in. -/
def wth (r : Nat × Nat) (o : Nat) : Nat × Nat := if r.1 < o then (o, 1) else if o = r.1 then (r.1, r.2 + 1) else r
def rkO (r : Nat × Nat) : Nat := if r.2 = 1 then r.1 else r.1 + 1
theorem wth_comm (r : Nat × Nat) (a b : Nat) : wth (wth r a) b = wth (wth r b) a := by
  obtain ⟨x, k⟩ := r
  rcases Nat.lt_trichotomy a b with h | h | h
  · unfold wth
    by_cases h1 : x < b
    · have e1 : ¬ b < a := by omega
      have e2 : ¬ a = b := by omega
      by_cases h2 : x < a
      · simp [h1, h2, h, e1, e2]
      · by_cases h3 : a = x
        · simp [h1, h3, show ¬ b < x by omega, show ¬ x = b by omega]
        · simp [h1, h2, h3, e1, e2]
    · have h2 : ¬ x < a := by omega
      have h3 : ¬ a = x := by omega
      by_cases h4 : b = x
      · simp [h2, h3, h4]
      · simp [h1, h2, h3, h4]
  · rw [h]
  · unfold wth
    by_cases h1 : x < a
    · have e1 : ¬ a < b := by omega
      have e2 : ¬ b = a := by omega
      by_cases h2 : x < b
      · simp [h1, h2, h, e1, e2]
      · by_cases h3 : b = x
        · simp [h1, h3, show ¬ a < x by omega, show ¬ x = a by omega]
        · simp [h1, h2, h3, e1, e2]
    · have h2 : ¬ x < b := by omega
      have h3 : ¬ b = x := by omega
      by_cases h4 : a = x
      · simp [h2, h3, h4]
      · simp [h1, h2, h3, h4]
/-- The greatest order, and how often. -/
def rkL (L : List Nat) : Nat × Nat := L.foldl wth (0, 0)
theorem rkL_snoc (L : List Nat) (o : Nat) : rkL (L ++ [o]) = wth (rkL L) o := by simp [rkL]
theorem rkL_perm {L M : List Nat} (h : L.Perm M) : rkL L = rkL M := h.foldl_eq' (fun x _ y _ z => wth_comm z x y) _
theorem wth_le {r : Nat × Nat} {o B : Nat} (h : r.1 ≤ B) (ho : o ≤ B) : (wth r o).1 ≤ B := by unfold wth; split; exact ho; split <;> exact h
theorem wth_many (r : Nat × Nat) (o : Nat) : (wth r o).2 ≤ r.2 + 1 := by unfold wth; split; (show 1 ≤ _; omega); split <;> simp
theorem fold_le {B : Nat} : ∀ (L : List Nat) (r : Nat × Nat), r.1 ≤ B → (∀ o ∈ L, o ≤ B) → (L.foldl wth r).1 ≤ B
  | [], _, h, _ => h
  | o :: L, _, h, hL => fold_le L _ (wth_le h (hL o (by simp))) (fun x hx => hL x (by simp [hx]))
theorem fold_many : ∀ (L : List Nat) (r : Nat × Nat), (L.foldl wth r).2 ≤ r.2 + L.length
  | [], _ => Nat.le_refl _
  | o :: L, r => by
    have h1 := fold_many L (wth r o)
    have h2 := wth_many r o
    rw [List.foldl_cons, List.length_cons]
    omega
theorem rkL_le {B : Nat} {L : List Nat} (h : ∀ o ∈ L, o ≤ B) : (rkL L).1 ≤ B := fold_le L _ (Nat.zero_le _) h
theorem rkL_many (L : List Nat) : (rkL L).2 ≤ L.length := by have := fold_many L (0, 0); simpa [rkL] using this
theorem fold_some : ∀ (L : List Nat) (r : Nat × Nat), (1 ≤ r.1 ∧ 1 ≤ r.2) → (∀ o ∈ L, 1 ≤ o) → 1 ≤ (L.foldl wth r).1 ∧ 1 ≤ (L.foldl wth r).2
  | [], _, h, _ => h
  | o :: L, r, h, hL => by
    rw [List.foldl_cons]
    refine fold_some L _ ?_ (fun x hx => hL x (by simp [hx]))
    have := hL o (by simp)
    unfold wth
    split
    · exact ⟨this, Nat.le_refl _⟩
    · split
      · exact ⟨h.1, by show 1 ≤ r.2 + 1; omega⟩
      · exact h
theorem rkL_some {L : List Nat} (h : ∀ o ∈ L, 1 ≤ o) : rkL L = (0, 0) ∨ (1 ≤ (rkL L).1 ∧ 1 ≤ (rkL L).2) := by
  cases L with
  | nil => exact .inl rfl
  | cons o L =>
    refine .inr ?_
    have ho := h o (by simp)
    unfold rkL
    rw [List.foldl_cons]
    refine fold_some L _ ?_ (fun x hx => h x (by simp [hx]))
    unfold wth
    rw [if_pos (show (0, 0).1 < o from ho)]
    exact ⟨ho, Nat.le_refl _⟩
/-- How the other side says it. -/
theorem rkO_ref {r : Nat × Nat} (h : r = (0, 0) ∨ (1 ≤ r.1 ∧ 1 ≤ r.2)) : rkO r = if r.1 = 0 then 1 else if 1 < r.2 then r.1 + 1 else r.1 := by
  unfold rkO
  rcases h with rfl | ⟨h1, h2⟩
  · rfl
  · rw [if_neg (show ¬ r.1 = 0 by omega)]
    by_cases e : r.2 = 1
    · rw [if_pos e, if_neg (by omega)]
    · rw [if_neg e, if_pos (by omega)]
section
variable (m n : Nat) (l : List Int) (q : Int)
/-- Is it a stream cell? -/
def stB (c : Nat) : Bool := decide (q ≤ gaV m n l (fun _ => 1) c)
/-- Does a stream cell flow into another one? -/
def flB (i c : Nat) : Bool := stB m n l q i && (decide (tw m n l i = c) && !decide (i = c))
def inF (c : Nat) : List Nat := (List.range l.length).filter (fun i => flB m n l q i c)
def inK (k c : Nat) : Nat := ((List.range k).filter (fun i => flB m n l q i c)).length
theorem inK_succ (k c : Nat) : inK m n l q (k + 1) c = inK m n l q k c + if flB m n l q k c = true then 1 else 0 := by
  unfold inK
  rw [List.range_succ, List.filter_append, List.length_append]
  by_cases h : flB m n l q k c = true
  · simp [h]
  · simp [h]
theorem inK_le (k c : Nat) : inK m n l q k c ≤ k := by
  have := List.length_filter_le (fun i => flB m n l q i c) (List.range k)
  rw [List.length_range] at this
  exact this
/-- Does a reach begin there? -/
def bgB (c : Nat) : Bool := stB m n l q c && !decide (inK m n l q l.length c = 1)
variable (hm : 1 ≤ m) (hl : l.length = m * n)
include hm hl
theorem cW_low {j p : Nat} (hj : j < p) (hp : p < l.length) : cW m n l (oc m n l j) (oc m n l p) = 0 := by
  induction j using Nat.strongRecOn with
  | _ j ih =>
    have hne : ¬ oc m n l j = oc m n l p := fun e => by have := oc_inj m n l hm hl (by omega) hp e; omega
    have hd : dlt (oc m n l j) (oc m n l p) = 0 := by unfold dlt; rw [if_neg hne]
    by_cases h : tw m n l (oc m n l j) = oc m n l j
    · rw [cW_end m n l hm hl (oc_lt m n l hm hl (by omega)) h, hd]
    · obtain ⟨i, hi, hit⟩ := (oc_bef m n l hm hl (k := j) (by omega)).resolve_left h
      rw [cW_next m n l hm hl (oc_lt m n l hm hl (by omega)) h, hd, ← hit, ih i hi (by omega)]; rfl
theorem cW_self {p : Nat} (hp : p < l.length) : 1 ≤ cW m n l (oc m n l p) (oc m n l p) := by
  have hd : dlt (oc m n l p) (oc m n l p) = 1 := by unfold dlt; rw [if_pos rfl]
  by_cases h : tw m n l (oc m n l p) = oc m n l p
  · rw [cW_end m n l hm hl (oc_lt m n l hm hl hp) h, hd]; decide
  · rw [cW_next m n l hm hl (oc_lt m n l hm hl hp) h, hd]
    have : 0 ≤ cW m n l (tw m n l (oc m n l p)) (oc m n l p) := cnt_pos m n l _ _ _
    omega
theorem cW_up {c : Nat} (hc : c < l.length) (hn : tw m n l c ≠ c) {i : Nat} (hi : i < l.length) : cW m n l i c ≤ cW m n l i (tw m n l c) := by
  obtain ⟨pc, hpc, rfl⟩ := oc_all m n l hm hl hc
  obtain ⟨t, ht, htt⟩ := (oc_bef m n l hm hl hpc).resolve_left hn
  obtain ⟨p, hp, rfl⟩ := oc_all m n l hm hl hi
  clear hi hc
  induction p using Nat.strongRecOn with
  | _ p ih =>
    have hlt := oc_lt m n l hm hl hp
    have hp0 : 0 ≤ cW m n l (oc m n l p) (tw m n l (oc m n l pc)) := cnt_pos m n l _ _ _
    by_cases e : p = pc
    · subst e
      rw [cW_next m n l hm hl hlt hn, cW_next m n l hm hl hlt hn, ← htt, cW_low m n l hm hl ht hp]
      have h1 := cW_self m n l hm hl (p := t) (by omega)
      have h2 := (dlt_le (oc m n l p) (oc m n l p)).2
      have h3 := (dlt_le (oc m n l p) (oc m n l t)).1
      omega
    · have hd : dlt (oc m n l p) (oc m n l pc) = 0 := by
        unfold dlt; rw [if_neg (fun h => e (oc_inj m n l hm hl hp hpc h))]
      by_cases h : tw m n l (oc m n l p) = oc m n l p
      · rw [cW_end m n l hm hl hlt h, hd]; exact hp0
      · obtain ⟨i, hi, hit⟩ := (oc_bef m n l hm hl hp).resolve_left h
        rw [cW_next m n l hm hl hlt h, cW_next m n l hm hl hlt h (tw m n l (oc m n l pc)), hd, ← hit]
        have h1 := ih i hi (by omega)
        have h3 := (dlt_le (oc m n l p) (tw m n l (oc m n l pc))).1
        omega
/-- Where a stream cell flows into is one. -/
theorem st_next {c : Nat} (hc : c < l.length) (hn : tw m n l c ≠ c) (h : stB m n l q c = true) : stB m n l q (tw m n l c) = true := by
  have h' := of_decide_eq_true h
  refine decide_eq_true (Int.le_trans h' ?_)
  have key : ∀ k, k ≤ l.length → smF (fun i => (fun _ => 1) i * cW m n l i c) k ≤ smF (fun i => (fun _ => 1) i * cW m n l i (tw m n l c)) k := by
    intro k
    induction k with
    | zero => intro _; exact Int.le_refl _
    | succ k ih =>
      intro hk
      have h1 := ih (by omega)
      have h2 := cW_up m n l hm hl hc hn (i := k) (by omega)
      show smF _ k + 1 * _ ≤ smF _ k + 1 * _
      omega
  exact key l.length (Nat.le_refl _)
theorem st_way {c : Nat} (hc : c < l.length) (h : stB m n l q c = true) : ∀ k, stB m n l q (itw m n l k c) = true ∧ itw m n l k c < l.length
  | 0 => ⟨h, hc⟩
  | k + 1 => by
    obtain ⟨h1, h2⟩ := st_way hc h k
    rw [itw_succ]
    refine ⟨?_, tw_lt m n l hm hl h2⟩
    by_cases e : tw m n l (itw m n l k c) = itw m n l k c
    · rw [e]; exact h1
    · exact st_next m n l q hm hl h2 e h1
/-- Who flows into a cell comes after it. -/
theorem fl_pos {i p : Nat} (hp : p < l.length) (hi : i < l.length) (h : flB m n l q i (oc m n l p) = true) : ∃ j, p < j ∧ j < l.length ∧ oc m n l j = i := by
  obtain ⟨j, hj, rfl⟩ := oc_all m n l hm hl hi
  unfold flB at h
  simp at h
  obtain ⟨_, h1, h2⟩ := h
  have h3 : tw m n l (oc m n l j) ≠ oc m n l j := fun e => h2 (e.symm.trans h1)
  obtain ⟨k, hk, hkt⟩ := (oc_bef m n l hm hl hj).resolve_left h3
  have : k = p := oc_inj m n l hm hl (by omega) hp (hkt.trans h1)
  exact ⟨j, by omega, hj, rfl⟩
omit hm hl
/-- A cell's order. -/
def soK : Nat → Nat → Nat
  | 0, _ => 1
  | f + 1, c => rkO (rkL ((inF m n l q c).map (soK f)))
def so (c : Nat) : Nat := soK m n l q l.length c
theorem rkO_bd {r : Nat × Nat} {B : Nat} (h : r.1 ≤ B) : rkO r ≤ B + 1 := by unfold rkO; split <;> omega
theorem soK_bd : ∀ f c, 1 ≤ soK m n l q f c ∧ soK m n l q f c ≤ f + 1
  | 0, _ => ⟨Nat.le_refl _, Nat.le_refl _⟩
  | f + 1, c => by
    have h1 : ∀ o ∈ (inF m n l q c).map (soK m n l q f), 1 ≤ o ∧ o ≤ f + 1 := fun o ho => by
      obtain ⟨i, _, rfl⟩ := List.mem_map.1 ho
      exact soK_bd f i
    refine ⟨?_, rkO_bd (rkL_le (fun o ho => (h1 o ho).2))⟩
    show 1 ≤ rkO _
    rw [rkO_ref (rkL_some (fun o ho => (h1 o ho).1))]
    split
    · exact Nat.le_refl _
    · split <;> omega
theorem so_bd (c : Nat) : 1 ≤ so m n l q c ∧ so m n l q c ≤ l.length + 1 := soK_bd m n l q _ c
include hm hl
theorem soK_eq : ∀ f g p, p < l.length → l.length ≤ p + f → l.length ≤ p + g → soK m n l q f (oc m n l p) = soK m n l q g (oc m n l p) := by
  intro f
  induction f with
  | zero => intro g p hp h1; omega
  | succ f ih =>
    intro g p hp h1 h2
    obtain ⟨g, rfl⟩ : ∃ g', g = g' + 1 := ⟨g - 1, by omega⟩
    show rkO (rkL _) = rkO (rkL _)
    refine congrArg rkO (congrArg rkL (List.map_congr_left (fun i hi => ?_)))
    unfold inF at hi
    rw [List.mem_filter, List.mem_range] at hi
    obtain ⟨j, hpj, hj, rfl⟩ := fl_pos m n l q hm hl hp hi.1 hi.2
    exact ih g j hj (by omega) (by omega)
theorem so_eq {c : Nat} (hc : c < l.length) : so m n l q c = rkO (rkL ((inF m n l q c).map (so m n l q))) := by
  obtain ⟨p, hp, rfl⟩ := oc_all m n l hm hl hc
  unfold so
  rw [soK_eq m n l q hm hl l.length (l.length + 1) p hp (by omega) (by omega)]
  rfl
omit hm hl
/-- Those that were looked at, from the last one taken back. -/
def prc (j : Nat) : List Nat := (List.range j).map (fun k => oc m n l (l.length - 1 - k))
theorem prc_succ (j : Nat) : prc m n l (j + 1) = prc m n l j ++ [oc m n l (l.length - 1 - j)] := by unfold prc; rw [List.range_succ, List.map_append]; rfl
def rkS (j c : Nat) : Nat × Nat := rkL (((prc m n l j).filter (fun i => flB m n l q i c)).map (so m n l q))
theorem rkS_zero (c : Nat) : rkS m n l q 0 c = (0, 0) := rfl
theorem rkS_no {j c : Nat} (h : flB m n l q (oc m n l (l.length - 1 - j)) c = false) : rkS m n l q (j + 1) c = rkS m n l q j c := by
  unfold rkS
  rw [prc_succ, List.filter_append]
  simp [h]
theorem rkS_yes {j c : Nat} (h : flB m n l q (oc m n l (l.length - 1 - j)) c = true) : rkS m n l q (j + 1) c = wth (rkS m n l q j c) (so m n l q (oc m n l (l.length - 1 - j))) := by
  unfold rkS
  rw [prc_succ, List.filter_append]
  simp [h, rkL_snoc]
theorem rkS_bd (j c : Nat) : (rkS m n l q j c).1 ≤ l.length + 1 ∧ (rkS m n l q j c).2 ≤ j := by
  refine ⟨rkL_le (fun o ho => ?_), ?_⟩
  · obtain ⟨i, _, rfl⟩ := List.mem_map.1 ho
    exact (so_bd m n l q i).2
  · have h1 := rkL_many (((prc m n l j).filter (fun i => flB m n l q i c)).map (so m n l q))
    have h2 := List.length_filter_le (fun i => flB m n l q i c) (prc m n l j)
    rw [List.length_map] at h1
    have h3 : (prc m n l j).length = j := by simp [prc]
    unfold rkS
    omega
/-- What is told of a cell so far. -/
def ouS (j c : Nat) : Nat := if stB m n l q c = true ∧ c ∈ prc m n l j then so m n l q c else 0
theorem nodup_of_inj {f : Nat → Nat} : ∀ k, (∀ i j, i < k → j < k → f i = f j → i = j) → ((List.range k).map f).Nodup
  | 0, _ => by simp
  | k + 1, h => by
    rw [List.range_succ, List.map_append, List.nodup_append]
    refine ⟨nodup_of_inj k (fun i j hi hj e => h i j (by omega) (by omega) e), by simp, fun a ha b hb => ?_⟩
    obtain ⟨i, hi, rfl⟩ := List.mem_map.1 ha
    have hi := List.mem_range.1 hi
    simp at hb
    intro e
    have := h i k (by omega) (by omega) (e.trans hb)
    omega
include hm hl
omit hm in
theorem prc_mem {j c : Nat} (hj : j ≤ l.length) : c ∈ prc m n l j ↔ ∃ k, l.length ≤ k + j ∧ k < l.length ∧ oc m n l k = c := by
  unfold prc
  rw [List.mem_map]
  constructor
  · rintro ⟨k, hk, rfl⟩
    have := List.mem_range.1 hk
    exact ⟨l.length - 1 - k, by omega, by omega, rfl⟩
  · rintro ⟨k, h1, h2, rfl⟩
    exact ⟨l.length - 1 - k, List.mem_range.2 (by omega), by rw [show l.length - 1 - (l.length - 1 - k) = k by omega]⟩
theorem rkS_so {j : Nat} (hj : j < l.length) : rkO (rkS m n l q j (oc m n l (l.length - 1 - j))) = so m n l q (oc m n l (l.length - 1 - j)) := by
  have hx := oc_lt m n l hm hl (k := l.length - 1 - j) (by omega)
  rw [so_eq m n l q hm hl hx]
  unfold rkS
  refine congrArg rkO (rkL_perm (List.Perm.map _ ?_))
  refine (List.perm_ext_iff_of_nodup ?_ ?_).2 (fun i => ?_)
  · exact List.Pairwise.filter _ (nodup_of_inj j (fun a b ha hb e => by have := oc_inj m n l hm hl (by omega) (by omega) e; omega))
  · exact List.Pairwise.filter _ List.nodup_range
  · unfold inF
    rw [List.mem_filter, List.mem_filter, List.mem_range, prc_mem m n l hl (by omega)]
    constructor
    · rintro ⟨⟨k, _, hk, rfl⟩, hf⟩
      exact ⟨oc_lt m n l hm hl hk, hf⟩
    · rintro ⟨hi, hf⟩
      obtain ⟨k, hk1, hk2, rfl⟩ := fl_pos m n l q hm hl (by omega) hi hf
      exact ⟨⟨k, by omega, hk2, rfl⟩, hf⟩
omit hm hl in
theorem ouS_new {j c : Nat} (_hj : j < l.length) (_hc : c < l.length) : ouS m n l q (j + 1) c = if c = oc m n l (l.length - 1 - j) ∧ stB m n l q c = true then so m n l q c else ouS m n l q j c := by
  unfold ouS
  rw [prc_succ]
  by_cases h1 : c = oc m n l (l.length - 1 - j)
  · by_cases h2 : stB m n l q c = true
    · rw [if_pos ⟨h2, by rw [h1]; simp⟩, if_pos ⟨h1, h2⟩]
    · rw [if_neg (fun x => h2 x.1), if_neg (fun x => h2 x.2), if_neg (fun x => h2 x.1)]
  · rw [if_neg (fun x : c = oc m n l (l.length - 1 - j) ∧ stB m n l q c = true => h1 x.1)]
    simp only [List.mem_append, List.mem_singleton, h1, or_false]
theorem ouS_all {c : Nat} (hc : c < l.length) : ouS m n l q l.length c = if stB m n l q c = true then so m n l q c else 0 := by
  unfold ouS
  have : c ∈ prc m n l l.length := by
    obtain ⟨p, hp, e⟩ := oc_all m n l hm hl hc
    exact (prc_mem m n l hl (Nat.le_refl _)).2 ⟨p, by omega, hp, e⟩
  simp only [this, and_true]
omit hm hl in
theorem flB_tw {x c : Nat} (h : stB m n l q x = true) : flB m n l q x c = decide (c = tw m n l x ∧ tw m n l x ≠ x) := by
  unfold flB
  rw [h]
  by_cases e : tw m n l x = c
  · subst e
    by_cases e2 : x = tw m n l x
    · simp [← e2]
    · simp [e2, Ne.symm e2]
  · simp [e, Ne.symm e]
omit hm hl in
theorem flB_no {x c : Nat} (h : stB m n l q x = false) : flB m n l q x c = false := by unfold flB; rw [h]; rfl
end
/-- A way comes to its end after k steps: at the rim, or where a reach begins. -/
def Stops (m n : Nat) (l : List Int) (q : Int) (c k : Nat) : Prop := (tw m n l (itw m n l k c) = itw m n l k c ∨ (0 < k ∧ bgB m n l q (itw m n l k c) = true)) ∧ (∀ i, i < k → tw m n l (itw m n l i c) ≠ itw m n l i c) ∧ ∀ i, 0 < i → i < k → bgB m n l q (itw m n l i c) = false
theorem Stops.uniq {m n : Nat} {l : List Int} {q : Int} {c k k' : Nat} (h : Stops m n l q c k) (h' : Stops m n l q c k') : k = k' := by
  have key : ∀ a b, Stops m n l q c a → Stops m n l q c b → ¬ a < b := fun a b ha hb hlt => by
    rcases ha.1 with e | ⟨h0, e⟩
    · exact hb.2.1 a hlt e
    · rw [hb.2.2 a h0 hlt] at e; cases e
  rcases Nat.lt_trichotomy k k' with c1 | c1 | c1
  · exact absurd c1 (key _ _ h h')
  · exact c1
  · exact absurd c1 (key _ _ h' h)
/-- The cells where a reach begins. -/
def bgs (m n : Nat) (l : List Int) (q : Int) (k : Nat) : List Nat := (List.range k).filter (fun c => bgB m n l q c)
theorem bgs_succ (m n : Nat) (l : List Int) (q : Int) (k : Nat) : bgs m n l q (k + 1) = bgs m n l q k ++ if bgB m n l q k = true then [k] else [] := by
  unfold bgs
  rw [List.range_succ, List.filter_append]
  by_cases h : bgB m n l q k = true <;> simp [h]
end Go.Proofs.YtlhligeicnejbaaDoor
