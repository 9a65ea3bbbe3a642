/-
  A reference's text: what can stand where, the first byte that can't, the numbers of its digits.
-/
import Derived.Test.YtfahmaapodoaaaaGreatDoorQGqN
import Derived.Lib.Atoi
namespace Go.Proofs.YtfahmaapodoaaaaGreatDoor
namespace GQ
/-- The pattern: 48 any digit, 78 N or S, else itself. -/
def pat (i : Nat) : Nat := ([48, 48, 78, 32, 48, 48, 48, 48, 48, 48, 32, 48, 48, 48, 48, 48, 48, 48] : List Nat).getD i 0
/-- Can a byte stand where the pattern has that one? -/
def stC (b t : Nat) : Bool := if t = 48 then decide (48 ≤ b ∧ b ≤ 57) else if t = 78 then decide (b = 78 ∨ b = 83) else decide (b = t)
/-- A text's byte; 0 behind its end. -/
def bt (s : ByteArray) (i : Nat) : Nat := if h : i < s.size then s[i].toNat else 0
theorem bt_in {s : ByteArray} {i : Nat} (h : i < s.size) : bt s i = s[i].toNat := by unfold bt; rw [dif_pos h]
theorem bt_out {s : ByteArray} {i : Nat} (h : ¬ i < s.size) : bt s i = 0 := by unfold bt; rw [dif_neg h]
def okA (s : ByteArray) (i : Nat) : Prop := stC (bt s i) (pat i) = true
instance (s : ByteArray) (i : Nat) : Decidable (okA s i) := by unfold okA; infer_instance
theorem stC0 : ∀ i : Fin 18, stC 0 (pat i.val) = false := by decide
theorem okA_lt {s : ByteArray} {i : Nat} (hi : i < 18) (h : okA s i) : i < s.size := by
  rcases Nat.lt_or_ge i s.size with k | k
  · exact k
  · unfold okA at h
    rw [bt_out (by omega), stC0 ⟨i, hi⟩] at h
    cases h
/-- The first byte that can't stand there. -/
def Fst (s : ByteArray) (k : Nat) : Prop := (∀ j, j < k → okA s j) ∧ ¬ okA s k
theorem Fst.uniq {s : ByteArray} {k l : Nat} (h : Fst s k) (m : Fst s l) : k = l := by
  rcases Nat.lt_trichotomy k l with c | c | c
  · exact absurd (m.1 k c) h.2
  · exact c
  · exact absurd (h.1 l c) m.2
theorem scan (s : ByteArray) : ∀ n, (∀ j, j < n → okA s j) ∨ ∃ k, k < n ∧ Fst s k
  | 0 => Or.inl (fun j h => absurd h (by omega))
  | n + 1 => by
    rcases scan s n with h | ⟨k, hk, h⟩
    · by_cases c : okA s n
      · refine Or.inl fun j hj => ?_
        by_cases e : j = n
        · rw [e]; exact c
        · exact h j (by omega)
      · exact Or.inr ⟨n, by omega, h, c⟩
    · exact Or.inr ⟨k, by omega, h⟩
theorem Fst.le {s : ByteArray} {k : Nat} (h : Fst s k) (hk : k < 19) : k ≤ s.size := by
  by_cases c : k = 0
  · omega
  · have := okA_lt (by omega) (h.1 (k - 1) (by omega))
    omega
/-- The number of so many digits from a place on. -/
def dv (s : ByteArray) (f : Nat) : Nat → Nat
  | 0 => 0
  | k + 1 => dv s f k * 10 + (bt s (f + k) - 48)
def dig (b : Nat) : Prop := 48 ≤ b ∧ b ≤ 57
theorem okA_dig {s : ByteArray} {i : Nat} (h : pat i = 48) : okA s i ↔ dig (bt s i) := by
  unfold okA dig stC
  rw [h]
  simp
theorem dv_lt {s : ByteArray} {f : Nat} : ∀ k, (∀ j, j < k → dig (bt s (f + j))) → dv s f k < 10 ^ k
  | 0, _ => by simp [dv]
  | k + 1, h => by
    have h1 := dv_lt k (fun j hj => h j (by omega))
    have h2 := h k (by omega)
    unfold dig at h2
    rw [dv, Nat.pow_succ]
    omega
theorem dig_lt {s : ByteArray} {i : Nat} (h : dig (bt s i)) : i < s.size := by
  rcases Nat.lt_or_ge i s.size with k | k
  · exact k
  · rw [bt_out (by omega)] at h
    exact absurd h.1 (by decide)
theorem dec_from {s : ByteArray} {f : Nat} : ∀ k, (∀ j, j < k → dig (bt s (f + j))) → Lib.decFrom 0 ((s.data.toList.drop f).take k) = some (dv s f k)
  | 0, _ => by simp [Lib.decFrom, dv]
  | k + 1, h => by
    have h1 := dec_from k (fun j hj => h j (by omega))
    have h2 := h k (by omega)
    have h3 := dig_lt h2
    refine Lib.decFrom_take _ k 0 _ s[f + k] _ h1 ?_ ?_
    · rw [List.getElem?_drop, Array.getElem?_toList]
      exact Array.getElem?_eq_getElem h3
    · rw [bt_in h3] at h2 ⊢
      unfold Lib.digitVal
      exact if_pos h2
theorem atoi_dv {s : ByteArray} {f k : Nat} (hk : 0 < k) (h : ∀ j, j < k → dig (bt s (f + j))) : Lib.atoi ((s.data.toList.drop f).take k) = some (dv s f k : Int) := by
  have h1 := dec_from k h
  have h0 := h 0 hk
  have h3 := dig_lt h0
  rw [Nat.add_zero] at h0 h3
  rw [bt_in h3] at h0
  obtain ⟨k, rfl⟩ : ∃ m, k = m + 1 := ⟨k - 1, by omega⟩
  have e : (s.data.toList.drop f).take (k + 1) = s[f] :: ((s.data.toList.drop (f + 1)).take k) := by
    rw [List.drop_eq_getElem_cons (by simpa using h3), List.take_succ_cons]
    rfl
  rw [e] at h1 ⊢
  have n1 : ¬ s[f] = 45 := fun c => by rw [c] at h0; exact absurd h0.1 (by decide)
  have n2 : ¬ s[f] = 43 := fun c => by rw [c] at h0; exact absurd h0.1 (by decide)
  generalize s[f] = b at *
  generalize (s.data.toList.drop (f + 1)).take k = l at *
  simp [Lib.atoi, n1, n2, Lib.decNat, h1]
end GQ
end Go.Proofs.YtfahmaapodoaaaaGreatDoor
