/-
  grain.Polynomial: Horner's rule over a row of numbers in memory.; mercatorref1.series: the two series' values are Horner's rule over the coefficients.; Angles brought within a turn: grain.Norm, Signed and the reference's own.; grain.sides and mercatorref1.SinCos: both give the same two numbers of every angle.; grain.sides.; math.Abs, IsNaN, IsInf; grain.finite, unsignedZero, Sin, Cos; mercatorref1.Finite, SameBits.; grain.Length and mercatorref1.LengthOf: the same chain of operations, also where one of them has no answer.
-/
import Derived.Test.YtinopkmcddjgdaaGreatDoorProg
import Derived.Test.YtinopkmcddjgdaaGreatDoorQJ1
import Derived.WalkKit
import Derived.WalkLawsBesides
import Derived.Outline
import Derived.Deep.QuietTactic
import Derived.BigQuiet
import Derived.WalkSmall
import Derived.Deep.RegionWith
import Derived.WalkSpells
import Derived.Laws.BitsAll
import Derived.Deep.RegionHeld
namespace Go.Proofs.YtinopkmcddjgdaaGreatDoor
open Go.RowKit FB

theorem hmul {x y r : Nat} (h : Ieee.double.mul x y = some r) (w : World) : (binOp .mul 22 (.float .f64 x) (.float .f64 y)).run Tryz.prog w = .ok (.float .f64 r) w := run_float_arith w .mul _ _ _ _ _ h
theorem hadd {x y r : Nat} (h : Ieee.double.add x y = some r) (w : World) : (binOp .add 22 (.float .f64 x) (.float .f64 y)).run Tryz.prog w = .ok (.float .f64 r) w := run_float_arith w .add _ _ _ _ _ h
theorem hsub {x y r : Nat} (h : Ieee.double.sub x y = some r) (w : World) : (binOp .sub 22 (.float .f64 x) (.float .f64 y)).run Tryz.prog w = .ok (.float .f64 r) w := run_float_arith w .sub _ _ _ _ _ h
theorem hquo {x y r : Nat} (h : Ieee.double.div x y = some r) (w : World) : (binOp .quo 22 (.float .f64 x) (.float .f64 y)).run Tryz.prog w = .ok (.float .f64 r) w := run_float_arith w .quo _ _ _ _ _ h

set_option maxHeartbeats 400000 in
theorem poly_any (b : Nat) (c : Nat → Nat) (cs : List Nat) (n : Nat) (z : Nat) (w : World) (hn : cs.length = n) (hn2 : n ≤ 100) (hok : Ok cs z)
    (hcs : ∀ i, i < n → cs[i]? = some (c i)) (hc : ∀ i, i < n → w.cell? ⟨b, i, none⟩ = some (.float .f64 (c i))) :
    Calls Tryz.prog 93 #[.float .f64 z, .slice (some ⟨b, 0, none⟩) n n] w fun e w' => e = .returned (.float .f64 (hor cs z)) ∧ w' = w := by
  have HN : Hid (cs.length = n) := hn
  clear hn
  go_enter Tryz.func93, Tryz.ntmps93
  go_wp2
  go_loop [5, 6] (fun p i => ∃ k : Nat, k ≤ n ∧ i = .int .i64 ((k : Int) - 1) ∧ p = .float .f64 (hor (cs.drop k) z)) (fun _ i => (intOf i + 1).toNat)
  case atStart => exact ⟨n, Nat.le_refl _, rfl, by rw [List.drop_of_length_le (by rw [HN.out]; omega)]; rfl⟩
  case round =>
    obtain ⟨k, hk, rfl, rfl⟩ := hrel
    by_cases h0 : k = 0
    · subst h0
      go_wp2
      go_ret
      exact ⟨rfl, rfl⟩
    · obtain ⟨j, rfl⟩ : ∃ j, k = j + 1 := ⟨k - 1, by omega⟩
      have hcj := hc j (by omega)
      have hget := hcs j (by omega)
      have hM := fun w => hmul (hok.m (j + 1)) w
      have hA := fun w => hadd (hok.a j _ hget) w
      have ej : ((j + 1 : Nat) : Int) - 1 = (j : Int) := by omega
      rw [ej]
      clear hget hcs hc hok
      go_wp2
      go_round
      case rel => exact ⟨j, by omega, rfl, rfl⟩
      case measure => simp [intOf]
end Go.Proofs.YtinopkmcddjgdaaGreatDoor
namespace Go.Proofs.YtinopkmcddjgdaaGreatDoor
open Go.RowKit FB

def one : Nat := 4607182418800017408
def cs1 : List Nat := [4607182418800017408, 13818544856648471893, 4575957461383581969, 13774824197408792602, 4523617214285662004, 13716528800881525988, 4460272573143870729, 13648976655441704991, 4389130328383466826]
def cs0 : List Nat := [4607182418800017408, 13826050856027422720, 4586165620538955093, 13787419979223755799, 4537941361671905306, 13732177094651715420, 4477122120089393304, 13666517717442657437, 4407590220077447199]
def csOf (o : Nat) : List Nat := if o = 1 then cs1 else cs0
def fac : Nat → Nat
  | 0 => 1
  | n + 1 => fac n * (n + 1)
/-- A factorial as a number with a point. -/
def facF (n : Nat) : Nat := floatOfInt .f64 (fac n : Nat)
def sgF (k f : Nat) : Nat := if k % 2 = 1 then Op.negFloat .f64 f else f

theorem facF_one : facF 1 = one := by decide +kernel
theorem facF_all : ((List.range 16).all fun i => Ieee.double.mul (facF (i + 1)) (floatOfInt .f64 ((i + 2 : Nat) : Int)) == some (facF (i + 2))) = true := by decide +kernel
theorem facF_step (i : Nat) (h2 : 2 ≤ i) (h : i ≤ 17) : Ieee.double.mul (facF (i - 1)) (floatOfInt .f64 (i : Int)) = some (facF i) := by
  have := List.all_eq_true.1 facF_all (i - 2) (List.mem_range.2 (by omega))
  rw [show i - 2 + 1 = i - 1 by omega, show i - 2 + 2 = i by omega] at this
  simpa using this
theorem co_all : ((List.range 2).all fun o => (List.range 8).all fun k => (Ieee.double.div one (sgF (k + 1) (facF (2 * (k + 1) + o))) == (csOf o)[k + 1]?)) = true := by decide +kernel
theorem csOf_len (o : Nat) : (csOf o).length = 9 := by unfold csOf; split <;> rfl
theorem co_step (o k : Nat) (ho : o ≤ 1) (h1 : 1 ≤ k) (h8 : k ≤ 8) : ∃ c, (csOf o)[k]? = some c ∧ Ieee.double.div one (sgF k (facF (2 * k + o))) = some c := by
  have := List.all_eq_true.1 (List.all_eq_true.1 co_all o (List.mem_range.2 (by omega))) (k - 1) (List.mem_range.2 (by omega))
  rw [show k - 1 + 1 = k by omega] at this
  have hk : k < (csOf o).length := by rw [csOf_len]; omega
  refine ⟨(csOf o)[k], List.getElem?_eq_getElem hk, ?_⟩
  rw [List.getElem?_eq_getElem hk] at this
  simpa using this
theorem cs_first (o : Nat) : (csOf o)[0]? = some one := by unfold csOf; split <;> rfl
theorem cs_last (o : Nat) : ∃ c, (csOf o)[8]? = some c ∧ (csOf o).drop 8 = [c] ∧ FA c 0 = c ∧ FA c 9223372036854775808 = c := by
  unfold csOf; split
  · exact ⟨_, rfl, rfl, by decide +kernel, by decide +kernel⟩
  · exact ⟨_, rfl, rfl, by decide +kernel, by decide +kernel⟩
theorem hor_last (o z c : Nat) (hz : Num z) (hc : (csOf o)[8]? = some c) : hor ((csOf o).drop 8) z = c := by
  obtain ⟨d, h1, h2, h3, h4⟩ := cs_last o
  rw [h1] at hc; cases hc
  rw [h2]
  show FA c (FM z 0) = c
  rcases FM_zero hz with h | h <;> rw [h]
  · exact h3
  · exact h4
theorem cs_le (o : Nat) : ∀ c, c ∈ csOf o → Le 1023 c := by
  have h1 : (cs1.all fun c => (decide (c < 18446744073709551616) && decide (c % 9223372036854775808 ≤ 1023 * 4503599627370496))) = true := by decide +kernel
  have h0 : (cs0.all fun c => (decide (c < 18446744073709551616) && decide (c % 9223372036854775808 ≤ 1023 * 4503599627370496))) = true := by decide +kernel
  unfold csOf; split
  · intro c hc; have := List.all_eq_true.1 h1 c hc; simp only [Bool.and_eq_true, decide_eq_true_eq] at this; exact this
  · intro c hc; have := List.all_eq_true.1 h0 c hc; simp only [Bool.and_eq_true, decide_eq_true_eq] at this; exact this

theorem hneg (b : Nat) : Op.unary .neg (.float .f64 b) = pure (.float .f64 (Op.negFloat .f64 b)) := rfl

set_option maxHeartbeats 1000000 in
theorem series_any (z o : Nat) (ho : o ≤ 1) (hz : Num z) (hok : Ok (csOf o) z) (w : World) :
    Calls Tryz.prog 75 #[.float .f64 z, .int .i64 o] w fun e w' => e = .returned (.float .f64 (hor (csOf o) z)) ∧ w' = w := by
  have hN := hneg
  go_enter Tryz.func75, Tryz.ntmps75
  go_wp2
  go_loop [5, 6] (fun s k => ∃ j : Nat, j ≤ 8 ∧ k = .int .i64 j ∧ s = .float .f64 (hor ((csOf o).drop (j + 1)) z)) (fun _ k => (intOf k).toNat)
  case atStart => exact ⟨8, by omega, rfl, by rw [List.drop_of_length_le (by rw [csOf_len]; decide)]; rfl⟩
  case round =>
    obtain ⟨j, hj, rfl, rfl⟩ := hrel
    have hm := fun w => hmul (hok.m (j + 1)) w
    by_cases h0 : j = 0
    · subst h0
      have ha := fun w => hadd (hok.a 0 one (cs_first o)) w
      unfold one at ha
      rw [List.drop_zero] at ha
      generalize hor (List.drop (0 + 1) (csOf o)) z = s1 at *
      generalize FM z s1 = m1 at *
      clear hok
      go_wp2
      go_ret
      exact ⟨rfl, rfl⟩
    · obtain ⟨c, hc, hd⟩ := co_step o j ho (by omega) hj
      have ha := fun w => hadd (hok.a j c hc) w
      have hq := fun w => hquo hd w
      unfold one at hq
      have h8 : j = 8 → hor ((csOf o).drop 8) z = c := fun e => by subst e; exact hor_last o z c hz hc
      have H8 : Hid (j = 8 → hor ((csOf o).drop 8) z = c) := h8
      generalize hor (List.drop (j + 1) (csOf o)) z = s1 at *
      generalize FM z s1 = m1 at *
      clear hok h8 hd hc
      go_wp2
      go_loop [7, 8] (fun f t => ∃ i : Nat, 2 ≤ i ∧ i ≤ 2 * j + o + 1 ∧ t = .int .i64 i ∧ f = .float .f64 (facF (i - 1))) (fun _ t => (2 * j + o + 1 - intOf t).toNat)
      case atStart => exact ⟨2, by omega, by omega, rfl, by rw [show 2 - 1 = 1 from rfl, facF_one]; rfl⟩
      case round =>
        obtain ⟨i, hi2, hi, rfl, rfl⟩ := hrel
        by_cases hle : i ≤ 2 * j + o
        · have hf := fun w => hmul (facF_step i hi2 (by omega)) w
          clear hq ha hm
          go_wp2
          go_round
          case rel => exact ⟨i + 1, by omega, by omega, by go_num, by simp⟩
          case measure => simp [intOf]; omega
        · obtain rfl : i = 2 * j + o + 1 := by omega
          rw [Nat.add_sub_cancel]
          unfold sgF at hq
          generalize facF (2 * j + o) = f1 at *
          by_cases hp : j % 2 = 1
          · rw [if_pos hp] at hq
            have hpb : ((j : Int) % 2 == 1) = true := by simp; omega
            by_cases hj8 : j = 8
            · omega
            · have hj8b : ((j : Int) == 8) = false := by simp; omega
              go_wp2
              go_round
              case rel => exact ⟨j - 1, by omega, by go_num, by rw [show j - 1 + 1 = j by omega]⟩
              case measure => simp [intOf]; omega
          · rw [if_neg hp] at hq
            have hpb : ((j : Int) % 2 == 1) = false := by simp; omega
            by_cases hj8 : j = 8
            · have hj8b : ((j : Int) == 8) = true := by simp; omega
              go_wp2
              go_round
              case rel => exact ⟨j - 1, by omega, by go_num, by rw [show j - 1 + 1 = 8 by omega, H8.out hj8]⟩
              case measure => simp [intOf]; omega
            · have hj8b : ((j : Int) == 8) = false := by simp; omega
              go_wp2
              go_round
              case rel => exact ⟨j - 1, by omega, by go_num, by rw [show j - 1 + 1 = j by omega]⟩
              case measure => simp [intOf]; omega
end Go.Proofs.YtinopkmcddjgdaaGreatDoor
namespace Go.Proofs.YtinopkmcddjgdaaGreatDoor
open Go.RowKit FB

/-- Within a turn, from 0 on. -/
def nrm (a : Int) : Int := a % 360000000000
theorem nrm_lt (a : Int) : 0 ≤ nrm a ∧ nrm a < 360000000000 := by unfold nrm; omega
theorem nrm_neg (a : Int) (h : a.tmod 360000000000 < 0) : a.tmod 360000000000 + 360000000000 = nrm a := by
  unfold nrm
  have ht := Int.tmod_eq_emod (a := a) (b := 360000000000)
  by_cases hc : 0 ≤ a ∨ (360000000000 : Int) ∣ a
  · rw [if_pos hc] at ht
    have := Int.emod_nonneg a (show (360000000000 : Int) ≠ 0 by decide)
    generalize a.tmod 360000000000 = t at *
    omega
  · rw [if_neg hc] at ht
    have e : (((360000000000 : Int).natAbs : Nat) : Int) = 360000000000 := by decide
    rw [e] at ht
    generalize a.tmod 360000000000 = t at *
    omega
theorem nrm_pos (a : Int) (h : ¬ a.tmod 360000000000 < 0) : a.tmod 360000000000 = nrm a := by
  unfold nrm
  have ht := Int.tmod_eq_emod (a := a) (b := 360000000000)
  by_cases hc : 0 ≤ a ∨ (360000000000 : Int) ∣ a
  · rw [if_pos hc] at ht
    generalize a.tmod 360000000000 = t at *
    omega
  · rw [if_neg hc] at ht
    have e : (((360000000000 : Int).natAbs : Nat) : Int) = 360000000000 := by decide
    rw [e] at ht
    have := Int.emod_lt_of_pos a (show (0 : Int) < 360000000000 by decide)
    generalize a.tmod 360000000000 = t at *
    omega
theorem tmod_bd (a : Int) : -360000000000 ≤ a.tmod 360000000000 ∧ a.tmod 360000000000 < 360000000000 := by
  have h1 := nrm_neg a
  have h2 := nrm_pos a
  have h3 := nrm_lt a
  generalize a.tmod 360000000000 = t at h1 h2 ⊢
  by_cases h : t < 0
  · have h4 := h1 h
    constructor <;> omega
  · have h4 := h2 h
    constructor <;> omega

theorem norm_any (a : Int) (w : World) : Calls Tryz.prog 53 #[.int .i64 a] w fun e w' => e = .returned (.int .i64 (nrm a)) ∧ w' = w := by
  have hb := tmod_bd a
  by_cases h : a.tmod 360000000000 < 0
  · have HE : Hid (a.tmod 360000000000 + 360000000000 = nrm a) := nrm_neg a h
    go_enter Tryz.func53, Tryz.ntmps53
    go_wp2
    go_ret
    exact ⟨by rw [← HE.out]; rfl, rfl⟩
  · have HE : Hid (a.tmod 360000000000 = nrm a) := nrm_pos a h
    go_enter Tryz.func53, Tryz.ntmps53
    go_wp2
    go_ret
    exact ⟨by rw [← HE.out]; rfl, rfl⟩
theorem normOf_any (a : Int) (w : World) : Calls Tryz.prog 35 #[.int .i64 a] w fun e w' => e = .returned (.int .i64 (nrm a)) ∧ w' = w := by
  have hb := tmod_bd a
  by_cases h : a.tmod 360000000000 < 0
  · have HE : Hid (a.tmod 360000000000 + 360000000000 = nrm a) := nrm_neg a h
    go_enter Tryz.func35, Tryz.ntmps35
    go_wp2
    go_ret
    exact ⟨by rw [← HE.out]; rfl, rfl⟩
  · have HE : Hid (a.tmod 360000000000 = nrm a) := nrm_pos a h
    go_enter Tryz.func35, Tryz.ntmps35
    go_wp2
    go_ret
    exact ⟨by rw [← HE.out]; rfl, rfl⟩

/-- Above minus half a turn, up to half a turn. -/
def sgn (a : Int) : Int := if 180000000000 < nrm a then nrm a - 360000000000 else nrm a
theorem signed_any (a : Int) (w : World) : Calls Tryz.prog 34 #[.int .i64 a] w fun e w' => e = .returned (.int .i64 (sgn a)) ∧ w' = w := by
  have hb := nrm_lt a
  unfold sgn
  by_cases h : 180000000000 < nrm a
  · rw [if_pos h]
    go_enter Tryz.func34, Tryz.ntmps34
    go_wp2_with (go_at_call 53; refine (norm_any a _).mono ?_; rintro e w' ⟨rfl, rfl⟩)
    go_ret
    exact ⟨rfl, rfl⟩
  · rw [if_neg h]
    go_enter Tryz.func34, Tryz.ntmps34
    go_wp2_with (go_at_call 53; refine (norm_any a _).mono ?_; rintro e w' ⟨rfl, rfl⟩)
    go_ret
    exact ⟨rfl, rfl⟩
theorem signedAngle_any (a : Int) (w : World) : Calls Tryz.prog 36 #[.int .i64 a] w fun e w' => e = .returned (.int .i64 (sgn a)) ∧ w' = w := by
  have hb := nrm_lt a
  unfold sgn
  by_cases h : 180000000000 < nrm a
  · rw [if_pos h]
    have h' : 360000000000 < 2 * nrm a := by omega
    go_enter Tryz.func36, Tryz.ntmps36
    go_wp2_with (go_at_call 35; refine (normOf_any a _).mono ?_; rintro e w' ⟨rfl, rfl⟩)
    go_ret
    exact ⟨rfl, rfl⟩
  · rw [if_neg h]
    have h' : ¬ 360000000000 < 2 * nrm a := by omega
    go_enter Tryz.func36, Tryz.ntmps36
    go_wp2_with (go_at_call 35; refine (normOf_any a _).mono ?_; rintro e w' ⟨rfl, rfl⟩)
    go_ret
    exact ⟨rfl, rfl⟩
end Go.Proofs.YtinopkmcddjgdaaGreatDoor
namespace Go.Proofs.YtinopkmcddjgdaaGreatDoor
open Go.RowKit FB

def rad : Nat := 4445950764994258515
def qOf (n : Int) : Int := (n + 45000000000) / 90000000000
def xOf (n : Int) : Nat := FM (floatOfInt .f64 (n - qOf n * 90000000000)) rad
def zOf (n : Int) : Nat := FM (xOf n) (xOf n)
def sOf (n : Int) : Nat := FM (xOf n) (hor (csOf 1) (zOf n))
def cOf (n : Int) : Nat := hor (csOf 0) (zOf n)
def sinV (n : Int) : Nat := if qOf n % 4 = 1 then cOf n else if qOf n % 4 = 2 then Op.negFloat .f64 (sOf n) else if qOf n % 4 = 3 then Op.negFloat .f64 (cOf n) else sOf n
def cosV (n : Int) : Nat := if qOf n % 4 = 1 then Op.negFloat .f64 (sOf n) else if qOf n % 4 = 2 then Op.negFloat .f64 (cOf n) else if qOf n % 4 = 3 then sOf n else cOf n

theorem hid {p : Prop} (h : p) : Hid p := h
theorem q_bd (n : Int) (h0 : 0 ≤ n) (h1 : n < 360000000000) : 0 ≤ qOf n ∧ qOf n ≤ 4 ∧ -45000000000 ≤ n - qOf n * 90000000000 ∧ n - qOf n * 90000000000 < 45000000000 := by
  unfold qOf; omega
theorem ang_le (n : Int) (h0 : 0 ≤ n) (h1 : n < 360000000000) : Le 1059 (floatOfInt .f64 (n - qOf n * 90000000000)) := by
  have := q_bd n h0 h1
  exact ofInt_le _ 36 (by have : (2 : Nat) ^ 36 = 68719476736 := by decide
                          omega) (by decide)
theorem rad_le : Le 988 rad := ⟨by decide +kernel, by decide +kernel⟩
theorem x_le (n : Int) (h0 : 0 ≤ n) (h1 : n < 360000000000) : Le 1026 (xOf n) := FM_le (ang_le n h0 h1) rad_le (by decide) (by decide) (by decide) (by decide) _ (by decide) (by decide) (by decide)
theorem z_le (n : Int) (h0 : 0 ≤ n) (h1 : n < 360000000000) : Le 1031 (zOf n) := FM_le (x_le n h0 h1) (x_le n h0 h1) (by decide) (by decide) (by decide) (by decide) _ (by decide) (by decide) (by decide)
theorem ok_ang (n : Int) (o : Nat) (h0 : 0 ≤ n) (h1 : n < 360000000000) : Ok (csOf o) (zOf n) :=
  ok_of 1031 (zOf n) 1023 12 (z_le n h0 h1) (by decide) (by decide) (by decide) (by decide) (by decide) _ (cs_le o) (by rw [csOf_len]; decide)
theorem hor_ang (n : Int) (o : Nat) (h0 : 0 ≤ n) (h1 : n < 360000000000) : Le 1131 (hor (csOf o) (zOf n)) := by
  have := hor_le 1031 (zOf n) 1023 12 (z_le n h0 h1) (by decide) (by decide) (by decide) (by decide) (by decide) (csOf o) (cs_le o) (by rw [csOf_len]; decide)
  rw [csOf_len] at this; exact this
theorem s_le (n : Int) (h0 : 0 ≤ n) (h1 : n < 360000000000) : Le 1136 (sOf n) := FM_le (x_le n h0 h1) (hor_ang n 1 h0 h1) (by decide) (by decide) (by decide) (by decide) _ (by decide) (by decide) (by decide)
theorem x_eq (n : Int) (h0 : 0 ≤ n) (h1 : n < 360000000000) : Ieee.double.mul (floatOfInt .f64 (n - qOf n * 90000000000)) rad = some (xOf n) := mul_num ((ang_le n h0 h1).num (by decide) (by decide)) (rad_le.num (by decide) (by decide))
theorem z_eq (n : Int) (h0 : 0 ≤ n) (h1 : n < 360000000000) : Ieee.double.mul (xOf n) (xOf n) = some (zOf n) := mul_num ((x_le n h0 h1).num (by decide) (by decide)) ((x_le n h0 h1).num (by decide) (by decide))
theorem s_eq (n : Int) (h0 : 0 ≤ n) (h1 : n < 360000000000) : Ieee.double.mul (xOf n) (hor (csOf 1) (zOf n)) = some (sOf n) := mul_num ((x_le n h0 h1).num (by decide) (by decide)) ((hor_ang n 1 h0 h1).num (by decide) (by decide))

theorem series1 (n : Int) (h0 : 0 ≤ n) (h1 : n < 360000000000) (w : World) : Calls Tryz.prog 75 #[.float .f64 (zOf n), .int .i64 1] w fun e w' => e = .returned (.float .f64 (hor (csOf 1) (zOf n))) ∧ w' = w :=
  series_any (zOf n) 1 (by decide) ((z_le n h0 h1).num (by decide) (by decide)) (ok_ang n 1 h0 h1) w
theorem series0 (n : Int) (h0 : 0 ≤ n) (h1 : n < 360000000000) (w : World) : Calls Tryz.prog 75 #[.float .f64 (zOf n), .int .i64 0] w fun e w' => e = .returned (.float .f64 (cOf n)) ∧ w' = w :=
  series_any (zOf n) 0 (by decide) ((z_le n h0 h1).num (by decide) (by decide)) (ok_ang n 0 h0 h1) w

theorem sinV_eq (n : Int) (k : Nat) (hk : qOf n = k) : sinV n = (if k % 4 = 1 then cOf n else if k % 4 = 2 then Op.negFloat .f64 (sOf n) else if k % 4 = 3 then Op.negFloat .f64 (cOf n) else sOf n) ∧ cosV n = (if k % 4 = 1 then Op.negFloat .f64 (sOf n) else if k % 4 = 2 then Op.negFloat .f64 (cOf n) else if k % 4 = 3 then sOf n else cOf n) := by
  unfold sinV cosV
  rw [hk]
  have e1 : ((k : Int) % 4 = 1) = (k % 4 = 1) := by apply propext; omega
  have e2 : ((k : Int) % 4 = 2) = (k % 4 = 2) := by apply propext; omega
  have e3 : ((k : Int) % 4 = 3) = (k % 4 = 3) := by apply propext; omega
  simp only [e1, e2, e3, and_self]

set_option maxHeartbeats 1000000 in
theorem sinCos_any (a : Int) (w : World) : Calls Tryz.prog 39 #[.int .i64 a] w fun e w' => e = .returned (.tuple #[.float .f64 (sinV (nrm a)), .float .f64 (cosV (nrm a))]) ∧ w' = w := by
  have hb := nrm_lt a
  obtain ⟨hb0, hb1⟩ := hb
  have hx := fun w => hmul (x_eq (nrm a) hb0 hb1) w
  have hz := fun w => hmul (z_eq (nrm a) hb0 hb1) w
  have hs := fun w => hmul (s_eq (nrm a) hb0 hb1) w
  have hq := q_bd (nrm a) hb0 hb1
  have hN := hneg
  unfold rad at hx
  go_enter Tryz.func39, Tryz.ntmps39
  go_wp2_with (go_at_call 35; refine (normOf_any a _).mono ?_; rintro e w' ⟨rfl, rfl⟩)
  go_loop [0, 4] (fun t u => ∃ k : Nat, (k : Int) ≤ qOf (nrm a) ∧ t = .int .i64 (nrm a - k * 90000000000) ∧ u = .int .i64 k) (fun _ u => (4 - intOf u).toNat)
  case atStart => exact ⟨0, by omega, by simp, rfl⟩
  case round =>
    obtain ⟨k, hk, rfl, rfl⟩ := hrel
    by_cases hlt : (k : Int) < qOf (nrm a)
    · have h45 : 45000000000 ≤ nrm a - k * 90000000000 := by omega
      clear hx hz hs
      go_wp2
      go_round
      case rel => exact ⟨k + 1, by omega, by go_num, by go_num⟩
      case measure => simp [intOf]; omega
    · have hke : qOf (nrm a) = k := by omega
      have h45 : nrm a - k * 90000000000 < 45000000000 := by omega
      have H1 := hid (series1 (nrm a) hb0 hb1)
      have H0 := hid (series0 (nrm a) hb0 hb1)
      have HV := hid (sinV_eq (nrm a) k hke)
      rw [hke] at hx
      clear hke hq
      have hk4 : k % 4 = 0 ∨ k % 4 = 1 ∨ k % 4 = 2 ∨ k % 4 = 3 := by omega
      rcases hk4 with h | h | h | h
      · have e0 : ((k : Int) % 4 == 0) = true := by simp; omega
        have HK := hid h
        clear h
        go_wp2_with fail
        refine (H1.out _).mono ?_
        rintro e w' ⟨rfl, rfl⟩
        go_wp2_with fail
        refine (H0.out _).mono ?_
        rintro e w' ⟨rfl, rfl⟩
        go_wp2
        go_ret2
        exact ⟨by rw [HV.out.1, HV.out.2, HK.out]; rfl, rfl⟩
      · have e0 : ((k : Int) % 4 == 0) = false := by simp; omega
        have e1 : ((k : Int) % 4 == 1) = true := by simp; omega
        have HK := hid h
        clear h
        go_wp2_with fail
        refine (H1.out _).mono ?_
        rintro e w' ⟨rfl, rfl⟩
        go_wp2_with fail
        refine (H0.out _).mono ?_
        rintro e w' ⟨rfl, rfl⟩
        go_wp2
        go_ret2
        exact ⟨by rw [HV.out.1, HV.out.2, HK.out]; rfl, rfl⟩
      · have e0 : ((k : Int) % 4 == 0) = false := by simp; omega
        have e1 : ((k : Int) % 4 == 1) = false := by simp; omega
        have e2 : ((k : Int) % 4 == 2) = true := by simp; omega
        have HK := hid h
        clear h
        go_wp2_with fail
        refine (H1.out _).mono ?_
        rintro e w' ⟨rfl, rfl⟩
        go_wp2_with fail
        refine (H0.out _).mono ?_
        rintro e w' ⟨rfl, rfl⟩
        go_wp2
        go_ret2
        exact ⟨by rw [HV.out.1, HV.out.2, HK.out]; rfl, rfl⟩
      · have e0 : ((k : Int) % 4 == 0) = false := by simp; omega
        have e1 : ((k : Int) % 4 == 1) = false := by simp; omega
        have e2 : ((k : Int) % 4 == 2) = false := by simp; omega
        have HK := hid h
        clear h
        go_wp2_with fail
        refine (H1.out _).mono ?_
        rintro e w' ⟨rfl, rfl⟩
        go_wp2_with fail
        refine (H0.out _).mono ?_
        rintro e w' ⟨rfl, rfl⟩
        go_wp2
        go_ret2
        exact ⟨by rw [HV.out.1, HV.out.2, HK.out]; rfl, rfl⟩
end Go.Proofs.YtinopkmcddjgdaaGreatDoor
namespace Go.Proofs.YtinopkmcddjgdaaGreatDoor
open Go.RowKit FB

theorem run_store_float (P : Program) (w : World) (a : Addr) (m : Mode) (k : FloatKind) (b : Nat) : (store a (.float k b) m).run P w = stored P w a (.float k b) m := run_store P w a _ m rfl
attribute [local go_sem] run_store_float

theorem nine {c0 c1 c2 c3 c4 c5 c6 c7 c8 : Nat} (w : World) (b : Nat) (hh : w.heap[b]? = some (.cells #[.float .f64 c0, .float .f64 c1, .float .f64 c2, .float .f64 c3, .float .f64 c4, .float .f64 c5, .float .f64 c6, .float .f64 c7, .float .f64 c8] 136 (0, 0))) :
    ∀ i, i < 9 → w.cell? ⟨b, i, none⟩ = some (.float .f64 ([c0, c1, c2, c3, c4, c5, c6, c7, c8].getD i 0)) := by
  intro i hi
  simp only [World.cell?, hh]
  match i, hi with
  | 0, _ | 1, _ | 2, _ | 3, _ | 4, _ | 5, _ | 6, _ | 7, _ | 8, _ => rfl
theorem get9 (cs : List Nat) (h : cs.length = 9) : ∀ i, i < 9 → cs[i]? = some (cs.getD i 0) := by
  intro i hi
  rw [List.getElem?_eq_getElem (by omega)]
  simp [List.getElem?_eq_getElem (show i < cs.length by omega)]

theorem poly1 (n : Int) (h0 : 0 ≤ n) (h1 : n < 360000000000) (b : Nat) (w : World) (hc : ∀ i, i < 9 → w.cell? ⟨b, i, none⟩ = some (.float .f64 ((csOf 1).getD i 0))) :
    Calls Tryz.prog 93 #[.float .f64 (zOf n), .slice (some ⟨b, 0, none⟩) 9 9] w fun e w' => e = .returned (.float .f64 (hor (csOf 1) (zOf n))) ∧ w' = w :=
  poly_any b (fun i => (csOf 1).getD i 0) (csOf 1) 9 (zOf n) w rfl (by decide) (ok_ang n 1 h0 h1) (get9 _ rfl) hc
theorem poly0 (n : Int) (h0 : 0 ≤ n) (h1 : n < 360000000000) (b : Nat) (w : World) (hc : ∀ i, i < 9 → w.cell? ⟨b, i, none⟩ = some (.float .f64 ((csOf 0).getD i 0))) :
    Calls Tryz.prog 93 #[.float .f64 (zOf n), .slice (some ⟨b, 0, none⟩) 9 9] w fun e w' => e = .returned (.float .f64 (cOf n)) ∧ w' = w :=
  poly_any b (fun i => (csOf 0).getD i 0) (csOf 0) 9 (zOf n) w rfl (by decide) (ok_ang n 0 h0 h1) (get9 _ rfl) hc

set_option maxHeartbeats 1000000 in
theorem sides_any (a : Int) (w : World) : Calls Tryz.prog 65 #[.int .i64 a] w fun e w' => e = .returned (.tuple #[.float .f64 (sinV (nrm a)), .float .f64 (cosV (nrm a))]) ∧ Below w.heap.size w w' := by
  have hb := nrm_lt a
  obtain ⟨hb0, hb1⟩ := hb
  have hx := fun w => hmul (x_eq (nrm a) hb0 hb1) w
  have hz := fun w => hmul (z_eq (nrm a) hb0 hb1) w
  have hs := fun w => hmul (s_eq (nrm a) hb0 hb1) w
  have hq := q_bd (nrm a) hb0 hb1
  have hN := hneg
  unfold rad at hx
  obtain ⟨k, hke⟩ : ∃ k : Nat, qOf (nrm a) = k := ⟨(qOf (nrm a)).toNat, by omega⟩
  have HV := hid (sinV_eq (nrm a) k hke)
  rw [hke] at hx
  have hqe : (nrm a + 45000000000) / 90000000000 = (k : Int) := hke
  have hk4 : k ≤ 4 := by omega
  clear hke hq
  go_enter Tryz.func65, Tryz.ntmps65
  go_wp2_with (go_at_call 53; refine (norm_any a _).mono ?_; rintro e w' ⟨rfl, rfl⟩)
  have hc1 : ∀ i, i < 9 → ((w.alloc (.cells #[.float .f64 4607182418800017408, .float .f64 13818544856648471893, .float .f64 4575957461383581969, .float .f64 13774824197408792602, .float .f64 4523617214285662004, .float .f64 13716528800881525988, .float .f64 4460272573143870729, .float .f64 13648976655441704991, .float .f64 4389130328383466826] 136)).alloc (.cells #[.float .f64 4607182418800017408, .float .f64 13826050856027422720, .float .f64 4586165620538955093, .float .f64 13787419979223755799, .float .f64 4537941361671905306, .float .f64 13732177094651715420, .float .f64 4477122120089393304, .float .f64 13666517717442657437, .float .f64 4407590220077447199] 136)).cell? ⟨w.heap.size, i, none⟩ = some (.float .f64 ((csOf 1).getD i 0)) :=
    nine _ _ (by rw [Below.heap_alloc _ _ _ (by simp)]; exact heap_alloc_new w _)
  have hc0 : ∀ i, i < 9 → ((w.alloc (.cells #[.float .f64 4607182418800017408, .float .f64 13818544856648471893, .float .f64 4575957461383581969, .float .f64 13774824197408792602, .float .f64 4523617214285662004, .float .f64 13716528800881525988, .float .f64 4460272573143870729, .float .f64 13648976655441704991, .float .f64 4389130328383466826] 136)).alloc (.cells #[.float .f64 4607182418800017408, .float .f64 13826050856027422720, .float .f64 4586165620538955093, .float .f64 13787419979223755799, .float .f64 4537941361671905306, .float .f64 13732177094651715420, .float .f64 4477122120089393304, .float .f64 13666517717442657437, .float .f64 4407590220077447199] 136)).cell? ⟨w.heap.size + 1, i, none⟩ = some (.float .f64 ((csOf 0).getD i 0)) :=
    nine _ _ (by have := heap_alloc_new (w.alloc (.cells #[.float .f64 4607182418800017408, .float .f64 13818544856648471893, .float .f64 4575957461383581969, .float .f64 13774824197408792602, .float .f64 4523617214285662004, .float .f64 13716528800881525988, .float .f64 4460272573143870729, .float .f64 13648976655441704991, .float .f64 4389130328383466826] 136)) (.cells #[.float .f64 4607182418800017408, .float .f64 13826050856027422720, .float .f64 4586165620538955093, .float .f64 13787419979223755799, .float .f64 4537941361671905306, .float .f64 13732177094651715420, .float .f64 4477122120089393304, .float .f64 13666517717442657437, .float .f64 4407590220077447199] 136); simpa using this)
  have HC1 := hid hc1
  have HC0 := hid hc0
  clear hc1 hc0 hx hz
  go_quiet ((first | (go_at_call_of 93 (Value.slice (some ⟨w.heap.size, 0, none⟩) 9 9); exact Calls.quiet_of_same (poly1 (nrm a) hb0 hb1 _ _ (by exact HC1.out))) | (go_at_call 93; exact Calls.quiet_of_same (poly0 (nrm a) hb0 hb1 _ _ (by exact HC0.out)))))
  have hk4' : k % 4 = 0 ∨ k % 4 = 1 ∨ k % 4 = 2 ∨ k % 4 = 3 := by omega
  clear HC1 HC0 hs
  rcases hk4' with h | h | h | h
  · have e1 : ((k : Int) % 4 == 1) = false := by simp; omega
    have e2 : ((k : Int) % 4 == 2) = false := by simp; omega
    have e3 : ((k : Int) % 4 == 3) = false := by simp; omega
    have HK := hid h
    clear h
    go_wp2
    go_ret2
    exact ⟨by rw [HV.out.1, HV.out.2, HK.out]; rfl, below_drewN (((Below.refl _ _).alloc (Nat.le_refl _) _).alloc (by simp) _) _⟩
  · have e1 : ((k : Int) % 4 == 1) = true := by simp; omega
    have HK := hid h
    clear h
    go_wp2
    go_ret2
    exact ⟨by rw [HV.out.1, HV.out.2, HK.out]; rfl, below_drewN (((Below.refl _ _).alloc (Nat.le_refl _) _).alloc (by simp) _) _⟩
  · have e1 : ((k : Int) % 4 == 1) = false := by simp; omega
    have e2 : ((k : Int) % 4 == 2) = true := by simp; omega
    have HK := hid h
    clear h
    go_wp2
    go_ret2
    exact ⟨by rw [HV.out.1, HV.out.2, HK.out]; rfl, below_drewN (((Below.refl _ _).alloc (Nat.le_refl _) _).alloc (by simp) _) _⟩
  · have e1 : ((k : Int) % 4 == 1) = false := by simp; omega
    have e2 : ((k : Int) % 4 == 2) = false := by simp; omega
    have e3 : ((k : Int) % 4 == 3) = true := by simp; omega
    have HK := hid h
    clear h
    go_wp2
    go_ret2
    exact ⟨by rw [HV.out.1, HV.out.2, HK.out]; rfl, below_drewN (((Below.refl _ _).alloc (Nat.le_refl _) _).alloc (by simp) _) _⟩
end Go.Proofs.YtinopkmcddjgdaaGreatDoor
namespace Go.Proofs.YtinopkmcddjgdaaGreatDoor
open Go.RowKit FB

theorem call_bits (b : Nat) (w : World) : (callFunc 97 #[.float .f64 b]).run Tryz.prog w = .ok (.value (.int .u64 b)) w :=
  (@run_callFunc_extern Tryz.prog 97 _ Extern.MathFloatBits.float64bits Tryz.func97 (by kernel_rfl) (by kernel_rfl) (by kernel_rfl) (by kernel_rfl) _ w).trans rfl
theorem call_from (b : Nat) (w : World) : (callFunc 96 #[.int .u64 b]).run Tryz.prog w = .ok (.value (.float .f64 b)) w :=
  (@run_callFunc_extern Tryz.prog 96 _ Extern.MathFloatBits.float64frombits Tryz.func96 (by kernel_rfl) (by kernel_rfl) (by kernel_rfl) (by kernel_rfl) _ w).trans rfl

theorem andNot_abs (x : Nat) (hx : x < 18446744073709551616) : bits .andNot .u64 (x : Int) 9223372036854775808 = ((absB x : Nat) : Int) := by
  have h := u64_andNot (x : Int) 9223372036854775808 (by omega) (by omega) (by omega) (by omega)
  rw [h]
  congr 1
  show x &&& 9223372036854775807 = x % 9223372036854775808
  exact Nat.and_two_pow_sub_one_eq_mod x 63

theorem abs_any (x : Nat) (hx : x < 18446744073709551616) (w : World) : Calls Tryz.prog 68 #[.float .f64 x] w fun e w' => e = .returned (.float .f64 (absB x)) ∧ w' = w := by
  have hA := andNot_abs x hx
  have h1 := call_bits
  have h2 := call_from
  go_enter Tryz.func68, Tryz.ntmps68
  go_wp2
  go_ret
  exact ⟨rfl, rfl⟩

theorem isNaN_any (x : Nat) (b : Bool) (hb : (FloatKind.f64.format.order x x != some Ordering.eq) = b) (w : World) : Calls Tryz.prog 94 #[.float .f64 x] w fun e w' => e = .returned (.bool b) ∧ w' = w := by
  go_enter Tryz.func94, Tryz.ntmps94
  go_wp2
  go_ret
  exact ⟨rfl, rfl⟩

theorem isInf_any (x : Nat) (hx : x < 18446744073709551616) (b : Bool) (hb : (FloatKind.f64.format.order (absB x) maxF == some Ordering.gt) = b) (w : World) : Calls Tryz.prog 95 #[.float .f64 x, .int .i64 0] w fun e w' => e = .returned (.bool b) ∧ w' = w := by
  unfold maxF at hb
  go_enter Tryz.func95, Tryz.ntmps95
  go_wp2_with (go_at_call 68; refine (abs_any x hx _).mono ?_; rintro e w' ⟨rfl, rfl⟩)
  go_ret
  exact ⟨rfl, rfl⟩

/-- Is the word a finite number? -/
def finV (x : Nat) : Bool := match Ieee.double.read x with | .number .. => true | _ => false
theorem finV_num {x : Nat} : finV x = true ↔ Num x := by
  unfold finV Num
  cases Ieee.double.read x <;> simp

theorem finite_any (x : Nat) (hx : x < 18446744073709551616) (w : World) : Calls Tryz.prog 66 #[.float .f64 x] w fun e w' => e = .returned (.bool (finV x)) ∧ w' = w := by
  cases hr : Ieee.double.read x with
  | number s m e =>
    have hn : Num x := ⟨s, m, e, hr⟩
    have h1 : (FloatKind.f64.format.order x x != some Ordering.eq) = false := by
      show (Ieee.double.order x x != some Ordering.eq) = false
      rw [order_self hn]; rfl
    have h2 : (FloatKind.f64.format.order (absB x) maxF == some Ordering.gt) = false := by
      show (Ieee.double.order (absB x) maxF == some Ordering.gt) = false
      simpa using abs_not_gt hn
    have HF := hid (finV_num.2 hn)
    go_enter Tryz.func66, Tryz.ntmps66
    go_wp2_with (first | (go_at_call 94; refine (isNaN_any x false h1 _).mono ?_; rintro e w' ⟨rfl, rfl⟩) | (go_at_call 95; refine (isInf_any x hx false h2 _).mono ?_; rintro e w' ⟨rfl, rfl⟩))
    go_ret
    exact ⟨by rw [HF.out]; rfl, rfl⟩
  | infinity s =>
    have h1 : (FloatKind.f64.format.order x x != some Ordering.eq) = false := by
      show (Ieee.double.order x x != some Ordering.eq) = false
      rw [(order_inf hr).2]; rfl
    have h2 : (FloatKind.f64.format.order (absB x) maxF == some Ordering.gt) = true := by
      show (Ieee.double.order (absB x) maxF == some Ordering.gt) = true
      rw [(order_inf hr).1]; rfl
    have HF : Hid (finV x = false) := by unfold finV Hid; rw [hr]
    clear hr
    go_enter Tryz.func66, Tryz.ntmps66
    go_wp2_with (first | (go_at_call 94; refine (isNaN_any x false h1 _).mono ?_; rintro e w' ⟨rfl, rfl⟩) | (go_at_call 95; refine (isInf_any x hx true h2 _).mono ?_; rintro e w' ⟨rfl, rfl⟩))
    go_ret
    exact ⟨by rw [HF.out]; rfl, rfl⟩
  | nan s f =>
    have h1 : (FloatKind.f64.format.order x x != some Ordering.eq) = true := by
      show (Ieee.double.order x x != some Ordering.eq) = true
      rw [order_nan hr]; rfl
    have HF : Hid (finV x = false) := by unfold finV Hid; rw [hr]
    clear hr
    go_enter Tryz.func66, Tryz.ntmps66
    go_wp2_with (first | (go_at_call 94; refine (isNaN_any x true h1 _).mono ?_; rintro e w' ⟨rfl, rfl⟩))
    go_ret
    exact ⟨by rw [HF.out]; rfl, rfl⟩

/-- The word is no number. -/
def Nan (x : Nat) : Prop := ∃ s f, Ieee.double.read x = .nan s f
theorem nan_cut (x y t : Nat) : Nan ((Question.nanBits .f64 x y).cut t) := by
  have h : (Question.nanBits .f64 x y).cut t = (t % 2) * 9223372036854775808 + (9218868437227405313 + (t / 2) % 4503599627370495) := by
    show (t % 2) * 2 ^ 63 + 0x7ff0000000000000 + 1 + (t / 2) % (2 ^ 52 - 1) = _
    omega
  rw [h]
  unfold Nan
  have h1 : ((t % 2) * 9223372036854775808 + (9218868437227405313 + (t / 2) % 4503599627370495)) % 9223372036854775808 = 9218868437227405313 + (t / 2) % 4503599627370495 := by omega
  rw [read_eq, h1, if_neg (by omega), if_neg (by omega), if_neg (by omega)]
  exact ⟨_, _, rfl⟩
/-- An operation that has no answer: a word that is no number, and one draw. -/
theorem run_float_none (op : BinOp) (x y : Nat) (hop : op = .add ∨ op = .sub ∨ op = .mul ∨ op = .quo) (h : floatBits op .f64 x y = none) (w : World) :
    ∃ r, Nan r ∧ (binOp op 22 (.float .f64 x) (.float .f64 y)).run Tryz.prog w = .ok (.float .f64 r) w.drew := by
  refine ⟨(Question.nanBits .f64 x y).cut (w.tape w.drawn (.nanBits .f64 x y)), nan_cut _ _ _, ?_⟩
  unfold floatBits at h
  rcases hop with rfl | rfl | rfl | rfl <;> simp only at h <;> simp [binOp, Op.floatArith, h, Question.forced]

theorem finiteR_num (x : Nat) (hn : Num x) (w : World) : Calls Tryz.prog 102 #[.float .f64 x] w fun e w' => e = .returned (.bool true) ∧ w' = w := by
  have h1 := fun w => hsub (sub_self hn) w
  have h2 : (FloatKind.f64.format.order 0 0 == some Ordering.eq) = true := by decide +kernel
  go_enter Tryz.func102, Tryz.ntmps102
  go_wp2
  go_ret
  exact ⟨rfl, rfl⟩
theorem finiteR_not (x : Nat) (hn : Ieee.double.sub x x = none) (w : World) : Calls Tryz.prog 102 #[.float .f64 x] w fun e w' => e = .returned (.bool false) ∧ w' = w.drew := by
  obtain ⟨r, ⟨s, f, hr⟩, h1⟩ := run_float_none .sub x x (by simp) hn w
  have h2 : (FloatKind.f64.format.order r 0 == some Ordering.eq) = false := by
    show (Ieee.double.order r 0 == some Ordering.eq) = false
    rw [order_nan hr]; rfl
  clear hr hn
  go_enter Tryz.func102, Tryz.ntmps102
  go_wp2
  go_ret
  exact ⟨rfl, rfl⟩
theorem finiteR_any (x : Nat) (w : World) : Calls Tryz.prog 102 #[.float .f64 x] w fun e w' => e = .returned (.bool (finV x)) ∧ ∃ n, w' = w.drewN n := by
  cases hr : Ieee.double.read x with
  | number s m e =>
    have hn : Num x := ⟨s, m, e, hr⟩
    refine (finiteR_num x hn w).mono ?_
    rintro e w' ⟨rfl, rfl⟩
    exact ⟨by rw [finV_num.2 hn], 0, rfl⟩
  | infinity s =>
    refine (finiteR_not x (sub_inf hr) w).mono ?_
    rintro e w' ⟨rfl, rfl⟩
    exact ⟨by unfold finV; rw [hr], 1, rfl⟩
  | nan s f =>
    refine (finiteR_not x (sub_nan hr) w).mono ?_
    rintro e w' ⟨rfl, rfl⟩
    exact ⟨by unfold finV; rw [hr], 1, rfl⟩

theorem uz_any (x : Nat) (w : World) : Calls Tryz.prog 28 #[.float .f64 x] w fun e w' => e = .returned (.float .f64 (uz x)) ∧ w' = w := by
  by_cases h : Ieee.double.order x 0 = some .eq
  · have h1 : (FloatKind.f64.format.order x 0 == some Ordering.eq) = true := by show (Ieee.double.order x 0 == some Ordering.eq) = true; rw [h]; rfl
    have HU : Hid (uz x = 0) := by unfold uz Hid; rw [if_pos h]
    clear h
    go_enter Tryz.func28, Tryz.ntmps28
    go_wp2
    go_ret
    exact ⟨by rw [HU.out]; rfl, rfl⟩
  · have h1 : (FloatKind.f64.format.order x 0 == some Ordering.eq) = false := by show (Ieee.double.order x 0 == some Ordering.eq) = false; simpa using h
    have HU : Hid (uz x = x) := by unfold uz Hid; rw [if_neg h]
    clear h
    go_enter Tryz.func28, Tryz.ntmps28
    go_wp2
    go_ret
    exact ⟨by rw [HU.out]; rfl, rfl⟩

theorem sin_any (a : Int) (w : World) : Calls Tryz.prog 52 #[.int .i64 a] w fun e w' => e = .returned (.float .f64 (uz (sinV (nrm a)))) ∧ Below w.heap.size w w' := by
  go_enter Tryz.func52, Tryz.ntmps52
  go_wp2_with (first | (go_at_call 65; refine (sides_any a _).mono ?_; rintro e w' ⟨rfl, hb⟩) | (go_at_call 28; refine (uz_any _ _).mono ?_; rintro e w2 ⟨rfl, rfl⟩))
  go_ret
  exact ⟨rfl, hb⟩
theorem cos_any (a : Int) (w : World) : Calls Tryz.prog 32 #[.int .i64 a] w fun e w' => e = .returned (.float .f64 (uz (cosV (nrm a)))) ∧ Below w.heap.size w w' := by
  go_enter Tryz.func32, Tryz.ntmps32
  go_wp2_with (first | (go_at_call 65; refine (sides_any a _).mono ?_; rintro e w' ⟨rfl, hb⟩) | (go_at_call 28; refine (uz_any _ _).mono ?_; rintro e w2 ⟨rfl, rfl⟩))
  go_ret
  exact ⟨rfl, hb⟩

theorem same_num (a b : Nat) (ha : Num a) (h : Ieee.double.order a b = some .eq) (w : World) : Calls Tryz.prog 16 #[.float .f64 a, .float .f64 b] w fun e w' => e = .returned (.bool true) ∧ w' = w := by
  have h1 : (FloatKind.f64.format.order a a != some Ordering.eq) = false := by show (Ieee.double.order a a != some Ordering.eq) = false; rw [order_self ha]; rfl
  have h2 : (FloatKind.f64.format.order a b == some Ordering.eq) = true := by show (Ieee.double.order a b == some Ordering.eq) = true; rw [h]; rfl
  clear h
  go_enter Tryz.func16, Tryz.ntmps16
  go_wp2
  go_ret
  exact ⟨rfl, rfl⟩
theorem same_inf (a : Nat) (s : Bool) (ha : Ieee.double.read a = .infinity s) (w : World) : Calls Tryz.prog 16 #[.float .f64 a, .float .f64 a] w fun e w' => e = .returned (.bool true) ∧ w' = w := by
  have h1 : (FloatKind.f64.format.order a a != some Ordering.eq) = false := by show (Ieee.double.order a a != some Ordering.eq) = false; rw [(order_inf ha).2]; rfl
  have h2 : (FloatKind.f64.format.order a a == some Ordering.eq) = true := by show (Ieee.double.order a a == some Ordering.eq) = true; rw [(order_inf ha).2]; rfl
  clear ha
  go_enter Tryz.func16, Tryz.ntmps16
  go_wp2
  go_ret
  exact ⟨rfl, rfl⟩
theorem same_nan (a b : Nat) (ha : Nan a) (hb : Nan b) (w : World) : Calls Tryz.prog 16 #[.float .f64 a, .float .f64 b] w fun e w' => e = .returned (.bool true) ∧ w' = w := by
  obtain ⟨s, f, ha⟩ := ha
  obtain ⟨t, g, hb⟩ := hb
  have h1 : (FloatKind.f64.format.order a a != some Ordering.eq) = true := by show (Ieee.double.order a a != some Ordering.eq) = true; rw [order_nan ha]; rfl
  have h2 : (FloatKind.f64.format.order b b != some Ordering.eq) = true := by show (Ieee.double.order b b != some Ordering.eq) = true; rw [order_nan hb]; rfl
  clear ha hb
  go_enter Tryz.func16, Tryz.ntmps16
  go_wp2
  go_ret
  exact ⟨rfl, rfl⟩
end Go.Proofs.YtinopkmcddjgdaaGreatDoor
namespace Go.Proofs.YtinopkmcddjgdaaGreatDoor
open Go.RowKit FB

/-- What an operation leaves: its answer, or a word that is no number, drawn. -/
def nb (x y : Nat) (w : World) : Nat := (Question.nanBits .f64 x y).cut (w.tape w.drawn (.nanBits .f64 x y))
def fv (o : Option Nat) (x y : Nat) (w : World) : Nat := match o with | some r => r | none => nb x y w
def dn (o : Option Nat) : Nat := match o with | some _ => 0 | none => 1
theorem run_any (op : BinOp) (x y : Nat) (hop : op = .add ∨ op = .sub ∨ op = .mul ∨ op = .quo) (w : World) :
    (binOp op 22 (.float .f64 x) (.float .f64 y)).run Tryz.prog w = .ok (.float .f64 (fv (floatBits op .f64 x y) x y w)) (w.drewN (dn (floatBits op .f64 x y))) := by
  cases h : floatBits op .f64 x y with
  | some r => exact run_float_arith w op _ _ _ _ _ h
  | none =>
    unfold floatBits at h
    rcases hop with rfl | rfl | rfl | rfl <;> simp only at h <;> (simp [binOp, Op.floatArith, h, Question.forced]; exact ⟨rfl, rfl⟩)
def fsq (x : Nat) : Option Nat := Ieee.double.sqrt x
theorem sqrt_eq (x : Nat) : Extern.MathSqrt.sqrt #[.float .f64 x] = (match FloatKind.f64.format.sqrt x with | some r => pure (.float .f64 r) | none => do pure (.float .f64 (← choose (.nanBits .f64 x x)))) := rfl
theorem run_sqrt (x : Nat) (w : World) : (callFunc 76 #[.float .f64 x]).run Tryz.prog w = .ok (.value (.float .f64 (fv (fsq x) x x w))) (w.drewN (dn (fsq x))) := by
  rw [@run_callFunc_extern Tryz.prog 76 _ Extern.MathSqrt.sqrt Tryz.func76 (by kernel_rfl) (by kernel_rfl) (by kernel_rfl) (by kernel_rfl) _ w, sqrt_eq]
  cases h : fsq x with
  | some r =>
    have h' : FloatKind.f64.format.sqrt x = some r := h
    simp [h', fv, dn]; rfl
  | none =>
    have h' : FloatKind.f64.format.sqrt x = none := h
    simp [h', Question.forced]
    exact ⟨rfl, rfl⟩

/-- A word that is what a chain gives: its answer, or no number. -/
def Got (o : Option Nat) (r : Nat) : Prop := match o with | some q => r = q | none => Nan r
theorem got_fv (o : Option Nat) (x y : Nat) (w : World) : Got o (fv o x y w) := by
  cases o with
  | some r => rfl
  | none => exact nan_cut x y _
theorem add_nan_l {x y : Nat} (h : Nan x) : Ieee.double.add x y = none := by obtain ⟨s, f, h⟩ := h; unfold Ieee.Format.add; rw [h]; rfl
theorem add_nan_r {x y : Nat} (h : Nan y) : Ieee.double.add x y = none := by
  obtain ⟨s, f, h⟩ := h; unfold Ieee.Format.add; rw [h]; cases Ieee.double.read x <;> rfl
theorem got_add {o p : Option Nat} {x y : Nat} (hx : Got o x) (hy : Got p y) (w : World) : Got (o.bind fun a => p.bind fun b => Ieee.double.add a b) (fv (floatBits .add .f64 x y) x y w) := by
  have hg := got_fv (floatBits .add .f64 x y) x y w
  cases o with
  | none =>
    have : floatBits .add .f64 x y = none := add_nan_l hx
    rw [this] at hg ⊢; exact hg
  | some a =>
    cases p with
    | none =>
      have : floatBits .add .f64 x y = none := add_nan_r hy
      rw [this] at hg ⊢; exact hg
    | some b =>
      obtain rfl : x = a := hx
      obtain rfl : y = b := hy
      exact hg
theorem got_sqrt {o : Option Nat} {x : Nat} (hx : Got o x) (w : World) : Got (o.bind fsq) (fv (fsq x) x x w) := by
  have hg := got_fv (fsq x) x x w
  cases o with
  | none =>
    obtain ⟨s, f, h⟩ : Nan x := hx
    have : fsq x = none := by unfold fsq Ieee.Format.sqrt; rw [h]; rfl
    rw [this] at hg ⊢; exact hg
  | some a => obtain rfl : x = a := hx; exact hg

theorem hmulA (x y : Nat) (w : World) : (binOp .mul 22 (.float .f64 x) (.float .f64 y)).run Tryz.prog w = .ok (.float .f64 (fv (floatBits .mul .f64 x y) x y w)) (w.drewN (dn (floatBits .mul .f64 x y))) := run_any .mul x y (by simp) w
theorem haddA (x y : Nat) (w : World) : (binOp .add 22 (.float .f64 x) (.float .f64 y)).run Tryz.prog w = .ok (.float .f64 (fv (floatBits .add .f64 x y) x y w)) (w.drewN (dn (floatBits .add .f64 x y))) := run_any .add x y (by simp) w

/-- The chain. -/
def lenO (x y z : Nat) : Option Nat :=
  ((((Ieee.double.mul x x).bind fun a => (Ieee.double.mul y y).bind fun b => Ieee.double.add a b).bind fun c => (Ieee.double.mul z z).bind fun d => Ieee.double.add c d)).bind fsq

theorem sqrt_any (x : Nat) (w : World) : Calls Tryz.prog 40 #[.float .f64 x] w fun e w' => e = .returned (.float .f64 (fv (fsq x) x x w)) ∧ w' = w.drewN (dn (fsq x)) := by
  have h := run_sqrt
  go_enter Tryz.func40, Tryz.ntmps40
  go_wp2
  go_ret
  exact ⟨rfl, rfl⟩
theorem plus_any (s a b : Nat) (w : World) : Calls Tryz.prog 41 #[.float .f64 s, .float .f64 a, .float .f64 b] w fun e w' => ∃ r, e = .returned (.float .f64 r) ∧ (∀ o, Got o s → Got (o.bind fun c => (Ieee.double.mul a b).bind fun d => Ieee.double.add c d) r) ∧ ∃ n, w' = w.drewN n := by
  have hM := hmulA
  have hA := haddA
  go_enter Tryz.func41, Tryz.ntmps41
  go_wp2
  go_ret
  exact ⟨_, rfl, fun o ho => got_add ho (got_fv _ _ _ _) _, _, rfl⟩

end Go.Proofs.YtinopkmcddjgdaaGreatDoor
