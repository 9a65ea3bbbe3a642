/-
  grid.ReadRef and mercatorref2.RefOfText of any text, and of a reference's text.
-/
import Derived.Test.YtfahmaapodoaaaaGreatDoorQGfV
import Derived.Test.YtfahmaapodoaaaaGreatDoorQGfT
namespace Go.Proofs.YtfahmaapodoaaaaGreatDoor
open Go.RowKit GQ

/-- Both sides give the same: a fault. -/
def RdNo (g : Nat → Addr) (s : ByteArray) : Prop := ∃ (i : Nat) (p : Int), i < 8 ∧
  (∀ w, Laid w g → Calls Tryz.prog 13 #[.string s] w fun e w' => ∃ B, e = .returned (.tuple #[rfV 0 false 0 0, ftV B]) ∧ At w' B [.int .i64 p, errV g i] ∧ Gr w w') ∧
  (∀ w, Calls Tryz.prog 14 #[.string s] w fun x w' => x = .returned (.tuple #[rfV 0 false 0 0, faV ((i : Int) + 1) p]) ∧ Gr w w')
/-- Both sides give the same reference. -/
def RdOk (g : Nat → Addr) (s : ByteArray) (z : Int) (b : Bool) (x y : Int) : Prop :=
  (∀ w, Laid w g → Calls Tryz.prog 13 #[.string s] w fun e w' => e = .returned (.tuple #[rfV z b x y, .nilIface]) ∧ Gr w w') ∧
  (∀ w, Calls Tryz.prog 14 #[.string s] w fun e w' => e = .returned (.tuple #[rfV z b x y, faV 0 (-1)]) ∧ Gr w w')
theorem ix_run (s : ByteArray) (h : 18 ≤ s.size) (W : World) : (Instr.index 9 (.string s) (.int .i64 2)).run Tryz.prog W = .ok (.int .u8 (bt s 2 : Int)) W := by
  rw [run_index_string W 9 _ .i64 2 Tryz.underlying9, dif_pos ⟨by omega, by omega⟩, bt_in (show 2 < s.size by omega)]
  congr 3
theorem read_bad_any (g : Nat → Addr) (s : ByteArray) (hs : s.size ≤ 200) (k : Nat) (hk : k < 18) (h : Fst s k) : RdNo g s := by
  refine ⟨0, (k : Int), by decide, fun w hl => ?_, fun w => ?_⟩
  · exact read_bad g s k (by omega) w hl (fun w => wrong_w s hs k (Or.inl ⟨k, hk, h, rfl⟩) w)
  · obtain ⟨i, hi, h1, h2⟩ := fst_look hk h
    have hle := h.le (by omega)
    refine refOf_core s _ _ _ _ _ _ _ _ _ (bt s 2 : Int) hs (six_any s hs) 0 0 0 1 k false (fun h18 W => ix_run s h18 W) (Or.inl ⟨i, hi, h1, ?_, ?_, rfl, rfl, rfl, rfl, rfl, h2.symm⟩) w
    · show 0 ≤ lk s i
      omega
    · show lk s i ≤ _
      omega
theorem read_long (g : Nat → Addr) (s : ByteArray) (hs : s.size ≤ 200) (h18 : 18 < s.size) (h : ∀ j, j < 18 → okA s j) : RdNo g s := by
  refine ⟨0, 18, by decide, fun w hl => ?_, fun w => ?_⟩
  · exact read_bad g s 18 (by decide) w hl (fun w => wrong_w s hs 18 (Or.inr ⟨h, Or.inl ⟨h18, rfl⟩⟩) w)
  · refine refOf_core s _ _ _ _ _ _ _ _ _ (bt s 2 : Int) hs (six_any s hs) 0 0 0 1 18 false (fun h18 W => ix_run s h18 W) (Or.inr ⟨fun j hj => ?_, by omega, Or.inl ⟨h18, rfl, rfl, rfl, rfl, rfl, rfl⟩⟩) w
    show lk s j < 0
    rw [all_neg h j hj]
    decide
theorem pat4 : ∀ j : Fin 6, 4 + j.val < 18 ∧ pat (4 + j.val) = 48 := by decide
theorem pat11 : ∀ j : Fin 7, 11 + j.val < 18 ∧ pat (11 + j.val) = 48 := by decide
theorem pat0 : ∀ j : Fin 2, 0 + j.val < 18 ∧ pat (0 + j.val) = 48 := by decide
theorem read_prog (g : Nat → Addr) (s : ByteArray) (hs : s.size = 18) (h : ∀ j, j < 18 → okA s j) (w : World) (hl : Laid w g) :
    Calls Tryz.prog 13 #[.string s] w fun e w' => ((okRef (dv s 0 2) (dv s 4 6) (dv s 11 7) ∧ e = .returned (.tuple #[rfV (dv s 0 2) ((bt s 2 : Int) == 83) (dv s 4 6) (dv s 11 7), .nilIface])) ∨ (¬ okRef (dv s 0 2) (dv s 4 6) (dv s 11 7) ∧ ∃ B, e = .returned (.tuple #[rfV 0 false 0 0, ftV B]) ∧ At w' B [.int .i64 0, errV g 3])) ∧ Gr w w' := by
  have D0 := dig_all h 0 2 (fun j hj => pat0 ⟨j, hj⟩)
  have D4 := dig_all h 4 6 (fun j hj => pat4 ⟨j, hj⟩)
  have D11 := dig_all h 11 7 (fun j hj => pat11 ⟨j, hj⟩)
  refine read_core g s (s.extract 0 2) (s.extract 4 10) (s.extract 11 18) (bt s 2 : Int) _ _ _ w hl (fun w => wrong_w s (by omega) (-1) (Or.inr ⟨h, Or.inr ⟨hs, rfl⟩⟩) w) (fun W => ?_) (fun W => ?_) (fun W => ?_) (fun W => ix_run s (by omega) W) (fun w => ?_) (fun w => ?_) (fun w => ?_)
  · exact run_slice_string_h W 9 s Tryz.underlying9 .i64 2 (by decide) (by omega)
  · exact sl_run s 4 10 (by decide) (by omega) W
  · have := run_slice_string_l W 9 s Tryz.underlying9 .i64 11 (by decide) (by omega)
    rw [hs] at this
    exact this
  · exact num_at s 0 2 (by decide) (by decide) (fun j h1 h2 => by have := D0 j (by omega); rw [Nat.zero_add] at this; exact this) w
  · exact num_at s 4 10 (by decide) (by decide) (fun j h1 h2 => by have := D4 (j - 4) (by omega); rw [show 4 + (j - 4) = j by omega] at this; exact this) w
  · exact num_at s 11 18 (by decide) (by decide) (fun j h1 h2 => by have := D11 (j - 11) (by omega); rw [show 11 + (j - 11) = j by omega] at this; exact this) w
theorem read_ref (s : ByteArray) (hs : s.size = 18) (h : ∀ j, j < 18 → okA s j) (rz rx ry fc fp : Int) (rb : Bool)
    (hr : (¬ okRef (dv s 0 2) (dv s 4 6) (dv s 11 7) ∧ rz = 0 ∧ rb = false ∧ rx = 0 ∧ ry = 0 ∧ fc = 4 ∧ fp = 0) ∨ (okRef (dv s 0 2) (dv s 4 6) (dv s 11 7) ∧ rz = dv s 0 2 ∧ rb = ((bt s 2 : Int) == 83) ∧ rx = dv s 4 6 ∧ ry = dv s 11 7 ∧ fc = 0 ∧ fp = -1)) (w : World) :
    Calls Tryz.prog 14 #[.string s] w fun x w' => x = .returned (.tuple #[rfV rz rb rx ry, faV fc fp]) ∧ Gr w w' := by
  have D0 := nD_all (dig_all h 0 2 (fun j hj => pat0 ⟨j, hj⟩))
  have D4 := nD_all (dig_all h 4 6 (fun j hj => pat4 ⟨j, hj⟩))
  have D11 := nD_all (dig_all h 11 7 (fun j hj => pat11 ⟨j, hj⟩))
  have h6 := six_any s (by omega)
  rw [D0, D4, D11] at h6
  refine refOf_core s _ _ _ _ _ _ _ _ _ (bt s 2 : Int) (by omega) h6 rz rx ry fc fp rb (fun h18 W => ix_run s h18 W) (Or.inr ⟨fun j hj => ?_, by omega, Or.inr ⟨hs, hr⟩⟩) w
  show lk s j < 0
  rw [all_neg h j hj]
  decide
theorem read_any (g : Nat → Addr) (s : ByteArray) (hs : s.size ≤ 200) : RdNo g s ∨ ∃ z b x y, RdOk g s z b x y := by
  rcases scan s 18 with h | ⟨k, hk, h⟩
  · have h17 := okA_lt (by decide) (h 17 (by decide))
    by_cases h18 : s.size = 18
    · by_cases ho : okRef (dv s 0 2) (dv s 4 6) (dv s 11 7)
      · refine Or.inr ⟨_, _, _, _, fun w hl => ?_, fun w => read_ref s h18 h _ _ _ _ _ _ (Or.inr ⟨ho, rfl, rfl, rfl, rfl, rfl, rfl⟩) w⟩
        refine (read_prog g s h18 h w hl).mono ?_
        rintro e w' ⟨⟨-, rfl⟩ | ⟨c, -⟩, hg⟩
        · exact ⟨rfl, hg⟩
        · exact absurd ho c
      · refine Or.inl ⟨3, 0, by decide, fun w hl => ?_, fun w => read_ref s h18 h _ _ _ _ _ _ (Or.inl ⟨ho, rfl, rfl, rfl, rfl, rfl, rfl⟩) w⟩
        refine (read_prog g s h18 h w hl).mono ?_
        rintro e w' ⟨⟨c, -⟩ | ⟨-, B, rfl, hB⟩, hg⟩
        · exact absurd c ho
        · exact ⟨B, rfl, hB, hg⟩
    · exact Or.inl (read_long g s hs (by omega) h)
  · exact Or.inl (read_bad_any g s hs k hk h)
/-! A reference's text, read. -/
theorem dgs_get : ∀ (k n j : Nat), j < k → (dgs n k)[j]? = some (UInt8.ofNat (48 + n / 10 ^ (k - 1 - j) % 10))
  | 0, _, _, h => absurd h (by omega)
  | k + 1, n, 0, _ => by rw [dgs_front]; simp
  | k + 1, n, j + 1, h => by
    rw [dgs_front, List.getElem?_cons_succ, dgs_get k n j (by omega), show k + 1 - 1 - (j + 1) = k - 1 - j by omega]
theorem bt_list (l : List UInt8) (i : Nat) (b : UInt8) (h : l[i]? = some b) : bt ⟨l.toArray⟩ i = b.toNat := by
  obtain ⟨hi, e⟩ := List.getElem?_eq_some_iff.1 h
  rw [bt_in (show i < (ByteArray.mk l.toArray).size by simpa [ByteArray.size] using hi)]
  rw [← e]
  rfl
theorem u8_dig (r : Nat) (hr : r < 10) : (UInt8.ofNat (48 + r)).toNat = 48 + r := by rw [UInt8.toNat_ofNat']; omega
/-- A stretch of digits within a text. -/
def Str (s : ByteArray) (f k n : Nat) : Prop := ∀ j, j < k → bt s (f + j) = 48 + n / 10 ^ (k - 1 - j) % 10
theorem str_mid (p q : List UInt8) (k n : Nat) : Str ⟨(p ++ (dgs n k ++ q)).toArray⟩ p.length k n := fun j hj => by
  rw [bt_list _ _ (UInt8.ofNat (48 + n / 10 ^ (k - 1 - j) % 10)) ?_, u8_dig _ (Nat.mod_lt _ (by decide))]
  rw [List.getElem?_append_right (by omega), show p.length + j - p.length = j by omega, List.getElem?_append_left (by rw [dgs_length]; exact hj)]
  exact dgs_get k n j hj
theorem str_dig {s : ByteArray} {f k n : Nat} (h : Str s f k n) : ∀ j, j < k → dig (bt s (f + j)) := fun j hj => by
  rw [h j hj]
  have := Nat.mod_lt (n / 10 ^ (k - 1 - j)) (show 10 > 0 by decide)
  unfold dig
  omega
theorem str_dv {s : ByteArray} {f k n : Nat} (h : Str s f k n) : ∀ j, j ≤ k → dv s f j = n / 10 ^ (k - j) % 10 ^ j
  | 0, _ => by simp [dv, Nat.mod_one]
  | j + 1, hj => by
    rw [dv, str_dv h j (by omega), h j (by omega), show k - j = (k - (j + 1)) + 1 by omega, Nat.pow_succ 10 (k - (j + 1)), ← Nat.div_div_eq_div_mul, show k - 1 - j = k - (j + 1) by omega, Nat.pow_succ', Nat.mod_mul]
    omega
theorem str_num {s : ByteArray} {f k n : Nat} (h : Str s f k n) (hn : n < 10 ^ k) : dv s f k = n := by
  rw [str_dv h k (Nat.le_refl k), Nat.sub_self, Nat.pow_zero, Nat.div_one, Nat.mod_eq_of_lt hn]
theorem bt_mid (p q : List UInt8) (b : UInt8) : bt ⟨(p ++ b :: q).toArray⟩ p.length = b.toNat := bt_list _ _ _ (by simp)
theorem txt_len (z : Nat) (b : Bool) (x y : Nat) : (ByteArray.mk (txt z b x y).toArray).size = 18 := by
  rw [size_s]
  unfold txt
  simp [dgs_length]
theorem pat_other : ∀ j : Fin 18, (j.val < 2) ∨ j.val = 2 ∨ j.val = 3 ∨ (4 ≤ j.val ∧ j.val < 10) ∨ j.val = 10 ∨ 11 ≤ j.val := by decide
theorem read_text (g : Nat → Addr) (z : Int) (b : Bool) (x y : Int) (ho : okRef z x y) (w : World) (hl : Laid w g) : Calls Tryz.prog 13 #[.string (TX z b x y)] w fun e w' => e = .returned (.tuple #[rfV z b x y, .nilIface]) ∧ Gr w w' := by
  have ho' := ho
  obtain ⟨⟨z0, z1⟩, ⟨x0, x1⟩, y0, y1⟩ := ho
  obtain ⟨z, rfl⟩ := Int.eq_ofNat_of_zero_le (show 0 ≤ z by omega)
  obtain ⟨x, rfl⟩ := Int.eq_ofNat_of_zero_le x0
  obtain ⟨y, rfl⟩ := Int.eq_ofNat_of_zero_le y0
  unfold TX
  simp only [Int.toNat_natCast]
  have hlen := txt_len z b x y
  have S0 : Str ⟨(txt z b x y).toArray⟩ 0 2 z := str_mid [] _ 2 z
  have S4 : Str ⟨(txt z b x y).toArray⟩ 4 6 x := by
    have := str_mid (dgs z 2 ++ [if b then 83 else 78, 32]) (32 :: dgs y 7) 6 x
    rw [List.append_assoc, show (dgs z 2 ++ [(if b then 83 else 78 : UInt8), 32]).length = 4 by simp [dgs_length]] at this
    exact this
  have S11 : Str ⟨(txt z b x y).toArray⟩ 11 7 y := by
    have := str_mid (dgs z 2 ++ ((if b then 83 else 78) :: 32 :: (dgs x 6 ++ [32]))) [] 7 y
    rw [show (dgs z 2 ++ ((if b then 83 else 78 : UInt8) :: 32 :: (dgs x 6 ++ [32]))).length = 11 by simp [dgs_length]] at this
    have e : dgs z 2 ++ ((if b then 83 else 78) :: 32 :: (dgs x 6 ++ [32])) ++ (dgs y 7 ++ []) = txt z b x y := by unfold txt; simp
    rw [e] at this
    exact this
  have B2 : bt ⟨(txt z b x y).toArray⟩ 2 = (if b then 83 else 78 : UInt8).toNat := by
    have := bt_mid (dgs z 2) (32 :: (dgs x 6 ++ (32 :: dgs y 7))) (if b then 83 else 78)
    rw [dgs_length] at this
    exact this
  have B3 : bt ⟨(txt z b x y).toArray⟩ 3 = 32 := by
    have := bt_mid (dgs z 2 ++ [if b then 83 else 78]) (dgs x 6 ++ (32 :: dgs y 7)) 32
    rw [List.append_assoc, show (dgs z 2 ++ [(if b then 83 else 78 : UInt8)]).length = 3 by simp [dgs_length]] at this
    exact this
  have B10 : bt ⟨(txt z b x y).toArray⟩ 10 = 32 := by
    have := bt_mid (dgs z 2 ++ ((if b then 83 else 78) :: 32 :: dgs x 6)) (dgs y 7) 32
    rw [show (dgs z 2 ++ ((if b then 83 else 78) :: 32 :: dgs x 6)).length = 10 by simp [dgs_length]] at this
    have e : dgs z 2 ++ ((if b then 83 else 78) :: 32 :: dgs x 6) ++ 32 :: dgs y 7 = txt z b x y := by unfold txt; simp
    rw [e] at this
    exact this
  have hz := str_num S0 (by omega)
  have hx := str_num S4 (by omega)
  have hy := str_num S11 (by omega)
  generalize ByteArray.mk (txt z b x y).toArray = s at *
  have hall : ∀ j, j < 18 → okA s j := fun j hj => by
    have hp := pat_d ⟨j, hj⟩
    dsimp only at hp
    rcases pat_other ⟨j, hj⟩ with c | c | c | c | c | c
    · exact (okA_dig (hp (by dsimp only at c; omega) (by dsimp only at c; omega) (by dsimp only at c; omega))).2 (by have := str_dig S0 j c; rw [Nat.zero_add] at this; exact this)
    · dsimp only at c
      subst c
      unfold okA
      rw [B2]
      cases b <;> decide
    · dsimp only at c
      subst c
      unfold okA
      rw [B3]
      decide
    · dsimp only at c
      exact (okA_dig (hp (by omega) (by omega) (by omega))).2 (by have := str_dig S4 (j - 4) (by omega); rw [show 4 + (j - 4) = j by omega] at this; exact this)
    · dsimp only at c
      subst c
      unfold okA
      rw [B10]
      decide
    · dsimp only at c
      exact (okA_dig (hp (by omega) (by omega) (by omega))).2 (by have := str_dig S11 (j - 11) (by omega); rw [show 11 + (j - 11) = j by omega] at this; exact this)
  have hb : ((bt s 2 : Int) == 83) = b := by
    rw [B2]
    cases b <;> decide
  refine (read_prog g s hlen hall w hl).mono ?_
  rw [hz, hx, hy, hb]
  rintro e w' ⟨⟨-, rfl⟩ | ⟨c, -⟩, hg⟩
  · exact ⟨rfl, hg⟩
  · exact absurd ho' c
end Go.Proofs.YtfahmaapodoaaaaGreatDoor
