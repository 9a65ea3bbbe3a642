/-
  mercatorref1.series: the two series' values are Horner's rule over the coefficients.
-/
import Derived.Test.YtmiamfnnccjmeacDoorPoly
namespace Go.Proofs.YtmiamfnnccjmeacDoor
open Go.RowKit FB

def one : Nat := 4607182418800017408
def cs1 : List Nat := [4607182418800017408, 13818544856648471893, 4575957461383581969, 13774824197408792602, 4523617214285662004, 13716528800881525988, 4460272573143870729, 13648976655441704991, 4389130328383466826]
def cs0 : List Nat := [4607182418800017408, 13826050856027422720, 4586165620538955093, 13787419979223755799, 4537941361671905306, 13732177094651715420, 4477122120089393304, 13666517717442657437, 4407590220077447199]
def csOf (o : Nat) : List Nat := if o = 1 then cs1 else cs0
def fac : Nat → Nat
  | 0 => 1
  | n + 1 => fac n * (n + 1)
/-- A factorial as a number with a point. -/
def facF (n : Nat) : Nat := floatOfInt .f64 (fac n : Nat)
def sgF (k f : Nat) : Nat := if k % 2 = 1 then Op.negFloat .f64 f else f

theorem facF_one : facF 1 = one := by decide +kernel
theorem facF_all : ((List.range 16).all fun i => Ieee.double.mul (facF (i + 1)) (floatOfInt .f64 ((i + 2 : Nat) : Int)) == some (facF (i + 2))) = true := by decide +kernel
theorem facF_step (i : Nat) (h2 : 2 ≤ i) (h : i ≤ 17) : Ieee.double.mul (facF (i - 1)) (floatOfInt .f64 (i : Int)) = some (facF i) := by
  have := List.all_eq_true.1 facF_all (i - 2) (List.mem_range.2 (by omega))
  rw [show i - 2 + 1 = i - 1 by omega, show i - 2 + 2 = i by omega] at this
  simpa using this
theorem co_all : ((List.range 2).all fun o => (List.range 8).all fun k => (Ieee.double.div one (sgF (k + 1) (facF (2 * (k + 1) + o))) == (csOf o)[k + 1]?)) = true := by decide +kernel
theorem csOf_len (o : Nat) : (csOf o).length = 9 := by unfold csOf; split <;> rfl
theorem co_step (o k : Nat) (ho : o ≤ 1) (h1 : 1 ≤ k) (h8 : k ≤ 8) : ∃ c, (csOf o)[k]? = some c ∧ Ieee.double.div one (sgF k (facF (2 * k + o))) = some c := by
  have := List.all_eq_true.1 (List.all_eq_true.1 co_all o (List.mem_range.2 (by omega))) (k - 1) (List.mem_range.2 (by omega))
  rw [show k - 1 + 1 = k by omega] at this
  have hk : k < (csOf o).length := by rw [csOf_len]; omega
  refine ⟨(csOf o)[k], List.getElem?_eq_getElem hk, ?_⟩
  rw [List.getElem?_eq_getElem hk] at this
  simpa using this
theorem cs_first (o : Nat) : (csOf o)[0]? = some one := by unfold csOf; split <;> rfl
theorem cs_last (o : Nat) : ∃ c, (csOf o)[8]? = some c ∧ (csOf o).drop 8 = [c] ∧ FA c 0 = c ∧ FA c 9223372036854775808 = c := by
  unfold csOf; split
  · exact ⟨_, rfl, rfl, by decide +kernel, by decide +kernel⟩
  · exact ⟨_, rfl, rfl, by decide +kernel, by decide +kernel⟩
theorem hor_last (o z c : Nat) (hz : Num z) (hc : (csOf o)[8]? = some c) : hor ((csOf o).drop 8) z = c := by
  obtain ⟨d, h1, h2, h3, h4⟩ := cs_last o
  rw [h1] at hc; cases hc
  rw [h2]
  show FA c (FM z 0) = c
  rcases FM_zero hz with h | h <;> rw [h]
  · exact h3
  · exact h4
theorem cs_le (o : Nat) : ∀ c, c ∈ csOf o → Le 1023 c := by
  have h1 : (cs1.all fun c => (decide (c < 18446744073709551616) && decide (c % 9223372036854775808 ≤ 1023 * 4503599627370496))) = true := by decide +kernel
  have h0 : (cs0.all fun c => (decide (c < 18446744073709551616) && decide (c % 9223372036854775808 ≤ 1023 * 4503599627370496))) = true := by decide +kernel
  unfold csOf; split
  · intro c hc; have := List.all_eq_true.1 h1 c hc; simp only [Bool.and_eq_true, decide_eq_true_eq] at this; exact this
  · intro c hc; have := List.all_eq_true.1 h0 c hc; simp only [Bool.and_eq_true, decide_eq_true_eq] at this; exact this

theorem hneg (b : Nat) : Op.unary .neg (.float .f64 b) = pure (.float .f64 (Op.negFloat .f64 b)) := rfl

set_option maxHeartbeats 1000000 in
theorem series_any (z o : Nat) (ho : o ≤ 1) (hz : Num z) (hok : Ok (csOf o) z) (w : World) :
    Calls Tryd.prog 77 #[.float .f64 z, .int .i64 o] w fun e w' => e = .returned (.float .f64 (hor (csOf o) z)) ∧ w' = w := by
  have hN := hneg
  go_enter Tryd.func77, Tryd.ntmps77
  go_wp2
  go_loop [5, 6] (fun s k => ∃ j : Nat, j ≤ 8 ∧ k = .int .i64 j ∧ s = .float .f64 (hor ((csOf o).drop (j + 1)) z)) (fun _ k => (intOf k).toNat)
  case atStart => exact ⟨8, by omega, rfl, by rw [List.drop_of_length_le (by rw [csOf_len]; decide)]; rfl⟩
  case round =>
    obtain ⟨j, hj, rfl, rfl⟩ := hrel
    have hm := fun w => hmul (hok.m (j + 1)) w
    by_cases h0 : j = 0
    · subst h0
      have ha := fun w => hadd (hok.a 0 one (cs_first o)) w
      unfold one at ha
      rw [List.drop_zero] at ha
      generalize hor (List.drop (0 + 1) (csOf o)) z = s1 at *
      generalize FM z s1 = m1 at *
      clear hok
      go_wp2
      go_ret
      exact ⟨rfl, rfl⟩
    · obtain ⟨c, hc, hd⟩ := co_step o j ho (by omega) hj
      have ha := fun w => hadd (hok.a j c hc) w
      have hq := fun w => hquo hd w
      unfold one at hq
      have h8 : j = 8 → hor ((csOf o).drop 8) z = c := fun e => by subst e; exact hor_last o z c hz hc
      have H8 : Hid (j = 8 → hor ((csOf o).drop 8) z = c) := h8
      generalize hor (List.drop (j + 1) (csOf o)) z = s1 at *
      generalize FM z s1 = m1 at *
      clear hok h8 hd hc
      go_wp2
      go_loop [7, 8] (fun f t => ∃ i : Nat, 2 ≤ i ∧ i ≤ 2 * j + o + 1 ∧ t = .int .i64 i ∧ f = .float .f64 (facF (i - 1))) (fun _ t => (2 * j + o + 1 - intOf t).toNat)
      case atStart => exact ⟨2, by omega, by omega, rfl, by rw [show 2 - 1 = 1 from rfl, facF_one]; rfl⟩
      case round =>
        obtain ⟨i, hi2, hi, rfl, rfl⟩ := hrel
        by_cases hle : i ≤ 2 * j + o
        · have hf := fun w => hmul (facF_step i hi2 (by omega)) w
          clear hq ha hm
          go_wp2
          go_round
          case rel => exact ⟨i + 1, by omega, by omega, by go_num, by simp⟩
          case measure => simp [intOf]; omega
        · obtain rfl : i = 2 * j + o + 1 := by omega
          rw [Nat.add_sub_cancel]
          unfold sgF at hq
          generalize facF (2 * j + o) = f1 at *
          by_cases hp : j % 2 = 1
          · rw [if_pos hp] at hq
            have hpb : ((j : Int) % 2 == 1) = true := by simp; omega
            by_cases hj8 : j = 8
            · omega
            · have hj8b : ((j : Int) == 8) = false := by simp; omega
              go_wp2
              go_round
              case rel => exact ⟨j - 1, by omega, by go_num, by rw [show j - 1 + 1 = j by omega]⟩
              case measure => simp [intOf]; omega
          · rw [if_neg hp] at hq
            have hpb : ((j : Int) % 2 == 1) = false := by simp; omega
            by_cases hj8 : j = 8
            · have hj8b : ((j : Int) == 8) = true := by simp; omega
              go_wp2
              go_round
              case rel => exact ⟨j - 1, by omega, by go_num, by rw [show j - 1 + 1 = 8 by omega, H8.out hj8]⟩
              case measure => simp [intOf]; omega
            · have hj8b : ((j : Int) == 8) = false := by simp; omega
              go_wp2
              go_round
              case rel => exact ⟨j - 1, by omega, by go_num, by rw [show j - 1 + 1 = j by omega]⟩
              case measure => simp [intOf]; omega
end Go.Proofs.YtmiamfnnccjmeacDoor
