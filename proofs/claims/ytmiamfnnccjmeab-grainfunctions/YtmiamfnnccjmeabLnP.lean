/-
  The logarithm's numbers, step by step, and that each step has an answer. No Go text is named here.
-/
import Derived.Test.YtmiamfnnccjmeabFlt4
namespace Go.Proofs.Ytmiamfnnccjmeab.FB
open Ieee

def oneF : Nat := 4607182418800017408
def lnG : Nat := 4604418534311723008
def lnS : Nat := 4461442080421002358
def odd12 : List Nat := [4607182418800017408, 4599676419421066581, 4596373779694328218, 4594314991293244562, 4592670820000712476, 4591215111030249286, 4590207312512236308, 4589468260265693457, 4588638185040256542, 4587745830934523688, 4587023449039406616, 4586426698778222948]

theorem le_of_lt {k r : Nat} (h : r ≤ k * 4503599627370496) (h2 : r < 9223372036854775808) : Le k r := ⟨by omega, by rw [Nat.mod_eq_of_lt h2]; exact h⟩
theorem oneF_le : Le 1023 oneF := ⟨by decide +kernel, by decide +kernel⟩
theorem two_le : Le 1024 two := ⟨by decide +kernel, by decide +kernel⟩
theorem lnG_le : Le 1023 lnG := ⟨by decide +kernel, by decide +kernel⟩
theorem lnS_le : Le 1023 lnS := ⟨by decide +kernel, by decide +kernel⟩
theorem odd12_le : ∀ c, c ∈ odd12 → Le 1023 c := by
  have h1 : (odd12.all fun c => (decide (c < 18446744073709551616) && decide (c % 9223372036854775808 ≤ 1023 * 4503599627370496))) = true := by decide +kernel
  intro c hc; have := List.all_eq_true.1 h1 c hc; simp only [Bool.and_eq_true, decide_eq_true_eq] at this; exact this

theorem read_oneF : double.read oneF = .number false 4503599627370496 (-52) := by decide +kernel
theorem FA_one {m : Nat} (hm : m < 9218868437227405312) : oneF ≤ FA m oneF ∧ FA m oneF < 9223372036854775808 := by
  obtain ⟨mm, e, hr, he, _⟩ := read_pos hm
  have hbd := num_bd hr
  have hsum : ∃ mag : Nat, FA m oneF = double.nearest false mag (min e (-52)) ∧ 4503599627370496 * 2 ^ (-52 - min e (-52)).toNat ≤ mag := by
    unfold FA Format.add
    rw [hr, read_oneF]
    simp only [Datum.sum, signed_false, Option.map_some, Option.getD_some]
    refine ⟨mm * 2 ^ (e - min e (-52)).toNat + 4503599627370496 * 2 ^ (-52 - min e (-52)).toNat, ?_, Nat.le_add_left _ _⟩
    have hpos : 0 < 4503599627370496 * 2 ^ (-52 - min e (-52)).toNat := Nat.mul_pos (by decide) (Nat.two_pow_pos _)
    generalize mm * 2 ^ (e - min e (-52)).toNat = p
    generalize 4503599627370496 * 2 ^ (-52 - min e (-52)).toNat = q at hpos ⊢
    have e1 : ((p : Int) + (q : Int)).natAbs = p + q := by omega
    rw [e1, if_neg (by omega)]
    have e2 : decide ((p : Int) + (q : Int) < 0) = false := by simp; omega
    rw [e2]
    rfl
  obtain ⟨mag, h1, h2⟩ := hsum
  rw [h1]
  generalize hb : min e (-52) = base at h2 ⊢
  have hb1 : base ≤ -52 := by omega
  have hb2 : -1074 ≤ base := by omega
  have hpow : 4503599627370496 * 2 ^ (-52 - base).toNat = 2 ^ (-base).toNat := by
    rw [show (4503599627370496 : Nat) = 2 ^ 52 by decide, ← Nat.pow_add, show 52 + (-52 - base).toNat = (-base).toNat by omega]
  rw [hpow] at h2
  have hm0 : mag ≠ 0 := by have := Nat.two_pow_pos (-base).toNat; omega
  have hlog : (-base).toNat ≤ mag.log2 := (Nat.le_log2 hm0).2 h2
  constructor
  · have := nearest_ge mag base 1023 hm0 (by decide) (by decide) (by omega)
    exact this
  · unfold Format.nearest
    rw [if_neg hm0]
    have hw : ∀ r, double.word false r = r := fun r => rfl
    simp only [hw]
    rw [ir]
    exact Nat.lt_of_le_of_lt (Nat.min_le_right _ _) (by decide)

def lA (m : Nat) : Nat := FS m oneF
def lB (m : Nat) : Nat := FA m oneF
def lS (m : Nat) : Nat := FD (lA m) (lB m)
def lZ (m : Nat) : Nat := FM (lS m) (lS m)
def lP (m : Nat) : Nat := hor odd12 (lZ m)
def lSP (m : Nat) : Nat := FM (lS m) (lP m)
def lD (m : Nat) : Nat := FM two (lSP m)
def lK (k : Int) : Nat := floatOfInt .f64 k
def lHi (k : Int) : Nat := FM (lK k) lnG
def lLo (k : Int) : Nat := FM (lK k) lnS
def lT (m : Nat) (k : Int) : Nat := FA (lD m) (lLo k)
def lnV (m : Nat) (k : Int) : Nat := FA (lHi k) (lT m k)

/-- Each step has an answer. -/
structure LnOk (m : Nat) (k : Int) : Prop where
  a : double.sub m oneF = some (lA m)
  b : double.add m oneF = some (lB m)
  s : double.div (lA m) (lB m) = some (lS m)
  z : double.mul (lS m) (lS m) = some (lZ m)
  zn : Num (lZ m)
  p : Ok odd12 (lZ m)
  sp : double.mul (lS m) (lP m) = some (lSP m)
  d : double.mul two (lSP m) = some (lD m)
  hi : double.mul (lK k) lnG = some (lHi k)
  lo : double.mul (lK k) lnS = some (lLo k)
  t : double.add (lD m) (lLo k) = some (lT m k)
  r : double.add (lHi k) (lT m k) = some (lnV m k)
  rn : Num (lnV m k)

theorem ln_ok (m : Nat) (k : Int) (h2 : m < 4609047870845172685) (hk1 : -1074 ≤ k) (hk2 : k ≤ 1024) : LnOk m k := by
  have hm : Le 1024 m := le_of_lt (by omega) (by omega)
  have hone : Le 1024 oneF := oneF_le.mono (by decide)
  have hA : Le 1026 (lA m) := FS_le hm hone (by decide) (by decide)
  have hB : Le 1026 (lB m) := FA_le hm hone (by decide) (by decide)
  have hB1 := FA_one (m := m) (by omega)
  have hB2 : lB m < 9218868437227405312 := by
    obtain ⟨_, hb⟩ := hB
    have hlt : lB m < 9223372036854775808 := hB1.2
    rw [Nat.mod_eq_of_lt hlt] at hb
    omega
  obtain ⟨q, hq, hqle⟩ := div_le hA (by decide) (by decide) hB1.1 hB2
  have hS : lS m = q := by unfold lS FD; rw [show FA m oneF = lB m from rfl] at hq; rw [hq]; rfl
  have hSle : Le 1030 (lS m) := by rw [hS]; exact hqle
  have hZ : Le 1039 (lZ m) := FM_le hSle hSle (by decide) (by decide) (by decide) (by decide) _ (by decide) (by decide) (by decide)
  have hP : Le 1263 (lP m) := by
    have := hor_le 1039 (lZ m) 1023 20 hZ (by decide) (by decide) (by decide) (by decide) (by decide) odd12 odd12_le (by decide)
    exact this
  have hSP : Le 1272 (lSP m) := FM_le hSle hP (by decide) (by decide) (by decide) (by decide) _ (by decide) (by decide) (by decide)
  have hD : Le 1275 (lD m) := FM_le two_le hSP (by decide) (by decide) (by decide) (by decide) _ (by decide) (by decide) (by decide)
  have h11 : (2 : Nat) ^ 11 = 2048 := by decide
  have hK : Le 1034 (lK k) := ofInt_le k 11 (by omega) (by decide)
  have hHi : Le 1275 (lHi k) := FM_le hK lnG_le (by decide) (by decide) (by decide) (by decide) _ (by decide) (by decide) (by decide)
  have hLo : Le 1275 (lLo k) := FM_le hK lnS_le (by decide) (by decide) (by decide) (by decide) _ (by decide) (by decide) (by decide)
  have hT : Le 1277 (lT m k) := FA_le hD hLo (by decide) (by decide)
  have hR : Le 1279 (lnV m k) := FA_le (hHi.mono (by decide)) hT (by decide) (by decide)
  have n1 : Num oneF := oneF_le.num (by decide) (by decide)
  have nm := hm.num (by decide) (by decide)
  have nK := hK.num (by decide) (by decide)
  refine ⟨sub_num nm n1, add_num nm n1, ?_, mul_num (hSle.num (by decide) (by decide)) (hSle.num (by decide) (by decide)), hZ.num (by decide) (by decide),
    ok_of 1039 (lZ m) 1023 20 hZ (by decide) (by decide) (by decide) (by decide) (by decide) odd12 odd12_le (by decide),
    mul_num (hSle.num (by decide) (by decide)) (hP.num (by decide) (by decide)), mul_num (two_le.num (by decide) (by decide)) (hSP.num (by decide) (by decide)),
    mul_num nK (lnG_le.num (by decide) (by decide)), mul_num nK (lnS_le.num (by decide) (by decide)), add_num (hD.num (by decide) (by decide)) (hLo.num (by decide) (by decide)),
    add_num (hHi.num (by decide) (by decide)) (hT.num (by decide) (by decide)), hR.num (by decide) (by decide)⟩
  rw [hS]; exact hq
end Go.Proofs.Ytmiamfnnccjmeab.FB
