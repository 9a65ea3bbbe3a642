/-
  grain.Join, told by the places of its ends.
-/
import Derived.Test.YtcbiigmnldcggaaSpanJ
namespace Go.Proofs.Ytcbiigmnldcggaa
open Go.RowKit FB
attribute [local go_sem] run_store_float

def mnL : List Nat → Int
  | [] => 0
  | [x] => key x
  | x :: y :: t => min (key x) (mnL (y :: t))
def mxL : List Nat → Int
  | [] => 0
  | [x] => key x
  | x :: y :: t => max (key x) (mxL (y :: t))
theorem mnL_spec : ∀ (l : List Nat), l ≠ [] → (∀ x ∈ l, mnL l ≤ key x) ∧ ∃ x ∈ l, key x = mnL l
  | [], h => absurd rfl h
  | [x], _ => by simp [mnL]
  | x :: y :: t, _ => by
    obtain ⟨h1, z, hz, hk⟩ := mnL_spec (y :: t) (by simp)
    unfold mnL
    refine ⟨?_, ?_⟩
    · intro u hu
      rcases List.mem_cons.1 hu with rfl | hu
      · omega
      · have := h1 u hu; omega
    · by_cases c : key x ≤ mnL (y :: t)
      · exact ⟨x, by simp, by omega⟩
      · exact ⟨z, List.mem_cons_of_mem _ hz, by omega⟩
theorem mxL_spec : ∀ (l : List Nat), l ≠ [] → (∀ x ∈ l, key x ≤ mxL l) ∧ ∃ x ∈ l, key x = mxL l
  | [], h => absurd rfl h
  | [x], _ => by simp [mxL]
  | x :: y :: t, _ => by
    obtain ⟨h1, z, hz, hk⟩ := mxL_spec (y :: t) (by simp)
    unfold mxL
    refine ⟨?_, ?_⟩
    · intro u hu
      rcases List.mem_cons.1 hu with rfl | hu
      · omega
      · have := h1 u hu; omega
    · by_cases c : mxL (y :: t) ≤ key x
      · exact ⟨x, by simp, by omega⟩
      · exact ⟨z, List.mem_cons_of_mem _ hz, by omega⟩
theorem least_key {m : Nat} {l : List Nat} (h : Least m l) : key m = mnL l := by
  obtain ⟨_, h1, x, hx, hk⟩ := h
  obtain ⟨h2, y, hy, hl⟩ := mnL_spec l (List.ne_nil_of_mem hx)
  have := h1 y hy
  have := h2 x hx
  omega
theorem most_key {m : Nat} {l : List Nat} (h : Most m l) : key m = mxL l := by
  obtain ⟨_, h1, x, hx, hk⟩ := h
  obtain ⟨h2, y, hy, hl⟩ := mxL_spec l (List.ne_nil_of_mem hx)
  have := h1 y hy
  have := h2 x hx
  omega
theorem mn_le_mx {l : List Nat} (h : l ≠ []) : mnL l ≤ mxL l := by
  obtain ⟨h1, _⟩ := mnL_spec l h
  obtain ⟨_, y, hy, hl⟩ := mxL_spec l h
  have := h1 y hy
  omega

/-- The places of the ends, one step outwards; none where one is no longer finite. -/
def wid (p q : Int) : Option (Int × Int) := if -posInf + 1 < p ∧ q + 1 < posInf ∧ p - 1 ≤ q + 1 then some (p - 1, q + 1) else none
def joinO (h : Int) (a b c d : Nat) : Option (Int × Int) := if spB a b = true ∧ spB c d = true then (match ends h a b c d with | none => none | some l => wid (mnL l) (mxL l)) else none
/-- A span and whether there is one, by the places of its ends. -/
def Out (o : Option (Int × Int)) (r s : Nat) (ok : Bool) : Prop := match o with
  | none => r = 0 ∧ s = 0 ∧ ok = false
  | some (p, q) => NN r ∧ key r = p ∧ NN s ∧ key s = q ∧ ok = true
theorem spB_key {r s : Nat} (hr : NN r) (hs : NN s) : spB r s = (decide (-posInf < key r) && decide (key r < posInf) && (decide (-posInf < key s) && decide (key s < posInf)) && decide (key r ≤ key s)) := by
  unfold spB
  rw [finV_key hr, finV_key hs]
theorem told_any (r s : Nat) (hr : NN r) (hs : NN s) (w : World) : Calls Try.prog 19 #[.agg #[.float .f64 r, .float .f64 s]] w fun e w' => ∃ u v ok, e = .returned (.tuple #[.agg #[.float .f64 u, .float .f64 v], .bool ok]) ∧ Out (if spB r s = true then some (key r, key s) else none) u v ok ∧ Below w.heap.size w w' := by
  cases h : spB r s with
  | false =>
    refine (told_no r s hr.1 hs.1 h w).mono ?_
    rintro e w' ⟨rfl, hB⟩
    exact ⟨0, 0, false, rfl, ⟨rfl, rfl, rfl⟩, hB⟩
  | true =>
    refine (told_yes r s hr.1 hs.1 h w).mono ?_
    rintro e w' ⟨rfl, hB⟩
    have h1 := key_uz hr
    have h2 := key_uz hs
    exact ⟨uz r, uz s, true, rfl, ⟨h1.1, h1.2, h2.1, h2.2, rfl⟩, hB⟩
theorem told_wid {m n : Nat} (hm : NN m) (hn : NN n) (hle : key m ≤ key n) : (if spB (dn1 m) (up1 n) = true then some (key (dn1 m), key (up1 n)) else none) = wid (key m) (key n) := by
  obtain ⟨a1, a2⟩ := dn1_key hm
  obtain ⟨b1, b2⟩ := up1_key hn
  have hb := nn_key_bd hm
  have hc := nn_key_bd hn
  have hp : (0 : Int) < posInf := by decide
  rw [spB_key a1 b1, a2, b2]
  unfold wid
  by_cases c1 : key m = -posInf
  · rw [if_pos c1, if_neg (by simp), if_neg (by omega)]
  · rw [if_neg c1]
    by_cases c2 : key n = posInf
    · rw [if_pos c2, if_neg (by simp), if_neg (by omega)]
    · rw [if_neg c2]
      by_cases c3 : -posInf + 1 < key m ∧ key n + 1 < posInf ∧ key m - 1 ≤ key n + 1
      · rw [if_pos c3, if_pos]
        simp only [Bool.and_eq_true, decide_eq_true_eq]
        omega
      · rw [if_neg c3, if_neg]
        simp only [Bool.and_eq_true, decide_eq_true_eq]
        omega
set_option maxHeartbeats 1000000 in
theorem join_bad1 (h : Int) (a b c d : Nat) (ha : W64 a) (hb : W64 b) (h1 : spB a b = false) (w : World) : Calls Try.prog 6 #[.agg #[.float .f64 a, .float .f64 b], .agg #[.float .f64 c, .float .f64 d], .int .u8 h] w fun e w' => e = .returned (.tuple #[.agg #[.float .f64 0, .float .f64 0], .bool false]) ∧ Below w.heap.size w w' := by
  go_enter Try.func6, Try.ntmps6
  go_wp2_with fail
  refine (right_any _ _ (by assumption) (by assumption) _).mono ?_
  rintro e w1 ⟨rfl, hB⟩
  obtain ⟨hc, hf⟩ := bcell hB
  go_wp2
  exact bodyPost_ret (v := .tuple #[.agg #[.float .f64 0, .float .f64 0], .bool false]) (by simp [results, Try.results6, go_sem, hc]) rfl ⟨rfl, ((bt ((((Below.refl _ _).alloc (Nat.le_refl _) _).alloc (by simp) _).alloc (by simp; omega) _) hB).setCell (by simp; omega) _).setCell (by simp; omega) _⟩
set_option maxHeartbeats 1000000 in
theorem join_bad2 (h : Int) (a b c d : Nat) (ha : W64 a) (hb : W64 b) (hc : W64 c) (hd : W64 d) (h1 : spB a b = true) (h2 : spB c d = false) (w : World) : Calls Try.prog 6 #[.agg #[.float .f64 a, .float .f64 b], .agg #[.float .f64 c, .float .f64 d], .int .u8 h] w fun e w' => e = .returned (.tuple #[.agg #[.float .f64 0, .float .f64 0], .bool false]) ∧ Below w.heap.size w w' := by
  go_enter Try.func6, Try.ntmps6
  go_wp2_with fail
  refine (right_any _ _ (by assumption) (by assumption) _).mono ?_
  rintro e w1 ⟨rfl, hB⟩
  obtain ⟨hc1, hf1⟩ := bcell hB
  have hz : w.heap.size + 2 < w1.heap.size := by have := hB.size; simp at this; omega
  go_wp2_with fail
  refine (right_any _ _ (by assumption) (by assumption) _).mono ?_
  rintro e w2 ⟨rfl, hB2⟩
  obtain ⟨hc2, hf2⟩ := bcell hB2
  go_wp2
  exact bodyPost_ret (v := .tuple #[.agg #[.float .f64 0, .float .f64 0], .bool false]) (by simp [results, Try.results6, go_sem, hc1, hc2, hz]) rfl ⟨rfl, ((bt (bt ((((Below.refl _ _).alloc (Nat.le_refl _) _).alloc (by simp) _).alloc (by simp; omega) _) hB) hB2).setCell (by simp; omega) _).setCell (by simp; omega) _⟩
end Go.Proofs.Ytcbiigmnldcggaa
