/-
  grid.ReadRef and mercatorref2.RefOfText of any text.
-/
import Derived.Test.YtfahmaapodoaaaaGreatDoorQGfO
import Derived.Test.YtfahmaapodoaaaaGreatDoorQGfY
namespace Go.Proofs.YtfahmaapodoaaaaGreatDoor
open Go.RowKit GQ

/-- The first byte of a stretch that can't stand there. -/
def FstI (s : ByteArray) (f k m : Nat) : Prop := m < k ∧ (∀ j, j < m → dig (bt s (f + j))) ∧ ¬ dig (bt s (f + m))
theorem scanD (s : ByteArray) (f : Nat) : ∀ k, (∀ j, j < k → dig (bt s (f + j))) ∨ ∃ m, FstI s f k m
  | 0 => Or.inl (fun j h => absurd h (by omega))
  | k + 1 => by
    rcases scanD s f k with h | ⟨m, hm, h1, h2⟩
    · by_cases c : dig (bt s (f + k))
      · refine Or.inl fun j hj => ?_
        by_cases e : j = k
        · rw [e]; exact c
        · exact h j (by omega)
      · exact Or.inr ⟨k, by omega, h, c⟩
    · exact Or.inr ⟨m, by omega, h1, h2⟩
open Classical in
/-- Where digits are wrong, or -1. -/
noncomputable def wD (s : ByteArray) (f k : Nat) : Int := if h : ∃ m, FstI s f k m then ((f + h.choose : Nat) : Int) else -1
open Classical in
noncomputable def nD (s : ByteArray) (f k : Nat) : Int := if ∃ m, FstI s f k m then 0 else (dv s f k : Int)
theorem digitsAt_wD (s : ByteArray) (f k : Nat) (hs : s.size ≤ 200) (hk : k ≤ 7) (hf : f ≤ 18) (w : World) :
    Calls Tryz.prog 27 #[.string s, .int .i64 (f : Int), .int .i64 (k : Int)] w fun e w' => e = .returned (.tuple #[.int .i64 (nD s f k), .int .i64 (wD s f k)]) ∧ w' = w := by
  refine digitsAt_any s f k hs hk hf _ _ ?_ w
  by_cases h : ∃ m, FstI s f k m
  · refine Or.inr ⟨h.choose, h.choose_spec.1, h.choose_spec.2.1, h.choose_spec.2.2, ?_, ?_⟩
    · unfold nD; rw [if_pos h]
    · unfold wD; rw [dif_pos h]
  · refine Or.inl ⟨?_, ?_, ?_⟩
    · rcases scanD s f k with c | c
      · exact c
      · exact absurd c h
    · unfold nD; rw [if_neg h]
    · unfold wD; rw [dif_neg h]
/-- Where a byte is wrong, or -1. -/
def wB (s : ByteArray) (i a b : Nat) : Int := if bt s i = a ∨ bt s i = b then -1 else (i : Int)
theorem byteAt_wB (s : ByteArray) (i a b : Nat) (hi : i ≤ 18) (hs : s.size ≤ 200) (ha : ¬ a = 0) (hb : ¬ b = 0) (w : World) :
    Calls Tryz.prog 28 #[.string s, .int .i64 (i : Int), .int .u8 (a : Int), .int .u8 (b : Int)] w fun e w' => e = .returned (.int .i64 (wB s i a b)) ∧ w' = w := by
  refine byteAt_any s i a b hi hs ha hb _ ?_ w
  unfold wB
  by_cases h : bt s i = a ∨ bt s i = b
  · exact Or.inl ⟨h, if_pos h⟩
  · exact Or.inr ⟨h, if_neg h⟩
theorem six_any (s : ByteArray) (hs : s.size ≤ 200) : Six s (nD s 0 2) (wD s 0 2) (wB s 2 78 83) (wB s 3 32 32) (nD s 4 6) (wD s 4 6) (wB s 10 32 32) (nD s 11 7) (wD s 11 7) where
  d0 := fun w => digitsAt_wD s 0 2 hs (by decide) (by decide) w
  b2 := fun w => byteAt_wB s 2 78 83 (by decide) hs (by decide) (by decide) w
  b3 := fun w => byteAt_wB s 3 32 32 (by decide) hs (by decide) (by decide) w
  d4 := fun w => digitsAt_wD s 4 6 hs (by decide) (by decide) w
  b10 := fun w => byteAt_wB s 10 32 32 (by decide) hs (by decide) (by decide) w
  d11 := fun w => digitsAt_wD s 11 7 hs (by decide) (by decide) w
/-- The list of the six looks. -/
noncomputable def lk (s : ByteArray) (i : Nat) : Int := [wD s 0 2, wB s 2 78 83, wB s 3 32 32, wD s 4 6, wB s 10 32 32, wD s 11 7].getD i 0
/-- Where the six stretches begin, and how long they are. -/
def sf (i : Nat) : Nat := [0, 2, 3, 4, 10, 11].getD i 0
def sl (i : Nat) : Nat := [2, 1, 1, 6, 1, 7].getD i 0
theorem pat_d : ∀ i : Fin 18, ¬ i.val = 2 → ¬ i.val = 3 → ¬ i.val = 10 → pat i.val = 48 := by decide
theorem wD_look (s : ByteArray) (f k : Nat) (hp : ∀ j, j < k → pat (f + j) = 48) : ((∀ j, f ≤ j → j < f + k → okA s j) ∧ wD s f k = -1) ∨ (∃ m, f ≤ m ∧ m < f + k ∧ (∀ j, f ≤ j → j < m → okA s j) ∧ ¬ okA s m ∧ wD s f k = (m : Int)) := by
  by_cases h : ∃ m, FstI s f k m
  · obtain ⟨h1, h2, h3⟩ := h.choose_spec
    refine Or.inr ⟨f + h.choose, by omega, by omega, fun j hj hj2 => ?_, fun c => h3 ((okA_dig (hp _ h1)).1 c), ?_⟩
    · have := h2 (j - f) (by omega)
      rw [show f + (j - f) = j by omega] at this
      have hp' := hp (j - f) (by omega)
      rw [show f + (j - f) = j by omega] at hp'
      exact (okA_dig hp').2 this
    · unfold wD; rw [dif_pos h]
  · refine Or.inl ⟨fun j hj hj2 => ?_, ?_⟩
    · rcases scanD s f k with c | c
      · have := c (j - f) (by omega)
        rw [show f + (j - f) = j by omega] at this
        have hp' := hp (j - f) (by omega)
        rw [show f + (j - f) = j by omega] at hp'
        exact (okA_dig hp').2 this
      · exact absurd c h
    · unfold wD; rw [dif_neg h]
theorem wB_look (s : ByteArray) (f a b : Nat) (hp : okA s f ↔ (bt s f = a ∨ bt s f = b)) : ((∀ j, f ≤ j → j < f + 1 → okA s j) ∧ wB s f a b = -1) ∨ (∃ m, f ≤ m ∧ m < f + 1 ∧ (∀ j, f ≤ j → j < m → okA s j) ∧ ¬ okA s m ∧ wB s f a b = (m : Int)) := by
  unfold wB
  by_cases h : bt s f = a ∨ bt s f = b
  · refine Or.inl ⟨fun j h1 h2 => ?_, if_pos h⟩
    rw [show j = f by omega]
    exact hp.2 h
  · exact Or.inr ⟨f, by omega, by omega, fun j h1 h2 => absurd h1 (by omega), fun c => h (hp.1 c), if_neg h⟩
theorem look (s : ByteArray) (i : Nat) (hi : i < 6) : ((∀ j, sf i ≤ j → j < sf i + sl i → okA s j) ∧ lk s i = -1) ∨ (∃ m, sf i ≤ m ∧ m < sf i + sl i ∧ (∀ j, sf i ≤ j → j < m → okA s j) ∧ ¬ okA s m ∧ lk s i = (m : Int)) := by
  match i, hi with
  | 0, _ => exact wD_look s 0 2 (fun j hj => pat_d ⟨0 + j, by omega⟩ (by simp; omega) (by simp; omega) (by simp; omega))
  | 1, _ => exact wB_look s 2 78 83 (by unfold okA stC; simp [pat])
  | 2, _ => exact wB_look s 3 32 32 (by unfold okA stC; simp [pat])
  | 3, _ => exact wD_look s 4 6 (fun j hj => pat_d ⟨4 + j, by omega⟩ (by simp; omega) (by simp; omega) (by simp; omega))
  | 4, _ => exact wB_look s 10 32 32 (by unfold okA stC; simp [pat])
  | 5, _ => exact wD_look s 11 7 (fun j hj => pat_d ⟨11 + j, by omega⟩ (by simp; omega) (by simp; omega) (by simp; omega))
theorem sf_in (j : Nat) (hj : j < 18) : ∃ i, i < 6 ∧ sf i ≤ j ∧ j < sf i + sl i := by
  have h : ∀ j : Fin 18, ∃ i : Fin 6, sf i.val ≤ j.val ∧ j.val < sf i.val + sl i.val := by decide
  obtain ⟨i, h1, h2⟩ := h ⟨j, hj⟩
  exact ⟨i.val, i.isLt, h1, h2⟩
theorem sf_ord : ∀ i j : Fin 6, i.val < j.val → sf i.val + sl i.val ≤ sf j.val := by decide
theorem sf_end : ∀ i : Fin 6, sf i.val + sl i.val ≤ 18 := by decide
theorem all_neg {s : ByteArray} (h : ∀ j, j < 18 → okA s j) (i : Nat) (hi : i < 6) : lk s i = -1 := by
  rcases look s i hi with ⟨-, c⟩ | ⟨m, h1, h2, -, h3, -⟩
  · exact c
  · have := sf_end ⟨i, hi⟩
    exact absurd (h m (by dsimp only at this; omega)) h3
theorem fst_look {s : ByteArray} {k : Nat} (hk : k < 18) (h : Fst s k) : ∃ i, i < 6 ∧ (∀ j, j < i → lk s j < 0) ∧ lk s i = (k : Int) := by
  obtain ⟨i, hi, h1, h2⟩ := sf_in k hk
  refine ⟨i, hi, fun j hj => ?_, ?_⟩
  · rcases look s j (by omega) with ⟨-, c⟩ | ⟨m, h3, h4, -, h5, -⟩
    · omega
    · have := sf_ord ⟨j, by omega⟩ ⟨i, hi⟩ hj
      dsimp only at this
      exact absurd (h.1 m (by omega)) h5
  · rcases look s i hi with ⟨c, -⟩ | ⟨m, h3, h4, h6, h5, h7⟩
    · exact absurd (c k h1 h2) h.2
    · rw [h7]
      rcases Nat.lt_trichotomy m k with c | c | c
      · exact absurd (h.1 m c) h5
      · rw [c]
      · exact absurd (h6 k h1 c) h.2
theorem dig_all {s : ByteArray} (h : ∀ j, j < 18 → okA s j) (f k : Nat) (hf : ∀ j, j < k → f + j < 18 ∧ pat (f + j) = 48) : ∀ j, j < k → dig (bt s (f + j)) := fun j hj => (okA_dig (hf j hj).2).1 (h _ (hf j hj).1)
theorem nD_all {s : ByteArray} {f k : Nat} (h : ∀ j, j < k → dig (bt s (f + j))) : nD s f k = (dv s f k : Int) := by
  unfold nD
  rw [if_neg]
  rintro ⟨m, h1, h2, h3⟩
  exact h3 (h m h1)
end Go.Proofs.YtfahmaapodoaaaaGreatDoor
