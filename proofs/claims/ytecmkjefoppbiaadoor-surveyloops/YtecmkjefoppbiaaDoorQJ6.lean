/-
  math/bits.Len64, LeadingZeros64, Div64, Rem64: Go's own text is walked.; math/bits.Len64, LeadingZeros64: Go's own text is walked.; math/bits.Div64: the words of its long division.; math/bits.Div64, Rem64: Go's own text is walked.
-/
import Derived.Test.YtecmkjefoppbiaaDoorQJ4
import Derived.Test.YtecmkjefoppbiaaDoorQFrE
import Derived.Lib.BitFns
import Derived.Lib.ItoaNum
import Derived.Deep.CutBlock
namespace Go.Proofs.YtecmkjefoppbiaaDoor
open Go.RowKit BG

set_option maxRecDepth 100000 in
theorem tab_size : Lib.len8tab.size = 256 := by decide +kernel
theorem tab_get {b : Int} (h : b.toNat < Lib.len8tab.size) (h0 : 0 ≤ b) (h1 : b ≤ 255) : ((Lib.len8tab[b.toNat]'h).toNat : Int) = (Lib.bitLen b.toNat : Int) := by
  have e : Lib.len8 b = (Lib.bitLen b.toNat : Int) := by
    have := Lib.len8_eq ⟨b.toNat, by omega⟩
    simp only [Int.toNat_of_nonneg h0] at this
    exact this
  rw [← e]
  unfold Lib.len8
  rw [getElem?_pos Lib.len8tab b.toNat h]
  rfl
theorem len_fin {k : Nat} {kk x b : Int} (hkk : kk = k) (hk : k ≤ 56) (hb : b.toNat = x.toNat / 2 ^ k) (hx : 2 ^ k ≤ x.toNat) (hx2 : x.toNat < 2 ^ 64) (h0 : 0 ≤ b) (h1 : b ≤ 255) (h : b.toNat < Lib.len8tab.size) : wrap64 (kk + wrap64 ((Lib.len8tab[b.toNat]'h).toNat : Int)) = (Lib.bitLen x.toNat : Int) := by
  have l : Lib.bitLen b.toNat ≤ 8 := Lib.bitLen_le8 ⟨b.toNat, by omega⟩
  have s := Lib.bitLen_shift k x.toNat hx hx2
  rw [← hb] at s
  have e := tab_get h h0 h1
  clear hx hx2 hb
  generalize ((Lib.len8tab[b.toNat]'h).toNat : Int) = T at *
  generalize Lib.bitLen b.toNat = B at *
  generalize Lib.bitLen x.toNat = X at *
  unfold wrap64
  omega
theorem len_fin0 {x : Int} (h0 : 0 ≤ x) (h1 : x ≤ 255) (h : x.toNat < Lib.len8tab.size) : wrap64 (wrap64 ((Lib.len8tab[x.toNat]'h).toNat : Int)) = (Lib.bitLen x.toNat : Int) := by
  rw [tab_get h h0 h1]
  have l : Lib.bitLen x.toNat ≤ 8 := Lib.bitLen_le8 ⟨x.toNat, by omega⟩
  unfold wrap64
  omega
end Go.Proofs.YtecmkjefoppbiaaDoor
namespace Go.Proofs.YtecmkjefoppbiaaDoor
open Go.RowKit BG

set_option maxHeartbeats 4000000 in
set_option maxRecDepth 100000 in
theorem len64 (x : Int) (w : World) (h0 : 0 ≤ x) (h1 : x ≤ 18446744073709551615) : Calls Tryd.prog 65 #[.int .u64 x] w fun e w' => e = .returned (.int .i64 (Lib.bitLen x.toNat)) ∧ w' = w := by
  have hs : (Lib.len8tab.size : Int) = 256 := by rw [tab_size]; rfl
  by_cases c0 : 4294967296 ≤ x
  · skip
    by_cases c1 : 65536 ≤ x / 4294967296
    · skip
      by_cases c2 : 256 ≤ x / 4294967296 / 65536
      · skip
        go_enter Tryd.func65, Tryd.ntmps65
        go_wp2
        go_ret
        exact ⟨congrArg (fun z => Ending.returned (.int .i64 z)) (len_fin (k := 56) rfl (by decide) (by omega) (by omega) (by omega) (by omega) (by omega) _), rfl⟩
      · skip
        go_enter Tryd.func65, Tryd.ntmps65
        go_wp2
        go_ret
        exact ⟨congrArg (fun z => Ending.returned (.int .i64 z)) (len_fin (k := 48) rfl (by decide) (by omega) (by omega) (by omega) (by omega) (by omega) _), rfl⟩
    · skip
      by_cases c2 : 256 ≤ x / 4294967296
      · skip
        go_enter Tryd.func65, Tryd.ntmps65
        go_wp2
        go_ret
        exact ⟨congrArg (fun z => Ending.returned (.int .i64 z)) (len_fin (k := 40) rfl (by decide) (by omega) (by omega) (by omega) (by omega) (by omega) _), rfl⟩
      · skip
        go_enter Tryd.func65, Tryd.ntmps65
        go_wp2
        go_ret
        exact ⟨congrArg (fun z => Ending.returned (.int .i64 z)) (len_fin (k := 32) rfl (by decide) (by omega) (by omega) (by omega) (by omega) (by omega) _), rfl⟩
  · skip
    by_cases c1 : 65536 ≤ x
    · skip
      by_cases c2 : 256 ≤ x / 65536
      · skip
        go_enter Tryd.func65, Tryd.ntmps65
        go_wp2
        go_ret
        exact ⟨congrArg (fun z => Ending.returned (.int .i64 z)) (len_fin (k := 24) rfl (by decide) (by omega) (by omega) (by omega) (by omega) (by omega) _), rfl⟩
      · skip
        go_enter Tryd.func65, Tryd.ntmps65
        go_wp2
        go_ret
        exact ⟨congrArg (fun z => Ending.returned (.int .i64 z)) (len_fin (k := 16) rfl (by decide) (by omega) (by omega) (by omega) (by omega) (by omega) _), rfl⟩
    · skip
      by_cases c2 : 256 ≤ x
      · skip
        go_enter Tryd.func65, Tryd.ntmps65
        go_wp2
        go_ret
        exact ⟨congrArg (fun z => Ending.returned (.int .i64 z)) (len_fin (k := 8) rfl (by decide) (by omega) (by omega) (by omega) (by omega) (by omega) _), rfl⟩
      · skip
        go_enter Tryd.func65, Tryd.ntmps65
        go_wp2
        go_ret
        exact ⟨congrArg (fun z => Ending.returned (.int .i64 z)) (len_fin0 (by omega) (by omega) _), rfl⟩
theorem lead64 (x : Int) (w : World) (h0 : 0 ≤ x) (h1 : x ≤ 18446744073709551615) (L : Nat) (hL : Lib.bitLen x.toNat = L) (l64 : L ≤ 64) : Calls Tryd.prog 59 #[.int .u64 x] w fun e w' => e = .returned (.int .i64 (64 - (L : Int))) ∧ w' = w := by
  have H := hidb (fun w => len64 x w h0 h1)
  rw [hL] at H
  go_enter Tryd.func59, Tryd.ntmps59
  go_wp2_with fail
  refine (H.out _).mono ?_
  rintro e w1 ⟨rfl, rfl⟩
  go_wp2
  go_ret
  exact ⟨rfl, rfl⟩
/-- By how much a number must be shifted, so that its first bit is the first of 64. -/
theorem lead_ex {y : Nat} (h0 : 0 < y) (h1 : y < 18446744073709551616) : ∃ s : Nat, s ≤ 63 ∧ 9223372036854775808 ≤ y * 2 ^ s ∧ y * 2 ^ s < 18446744073709551616 ∧ ∀ w : World, Calls Tryd.prog 59 #[.int .u64 (y : Int)] w fun e w' => e = .returned (.int .i64 (s : Int)) ∧ w' = w := by
  obtain ⟨a, b, c⟩ := Lib.bitLenAux_bounds 64 y (by omega) (by omega)
  change 1 ≤ Lib.bitLen y at a
  change 2 ^ (Lib.bitLen y - 1) ≤ y at b
  change y < 2 ^ Lib.bitLen y at c
  have hL : Lib.bitLen (y : Int).toNat = Lib.bitLen y := by rw [Int.toNat_natCast]
  generalize Lib.bitLen y = L at *
  have l64 : L ≤ 64 := by
    rcases Nat.lt_or_ge 64 L with h | h
    · have : 2 ^ 64 ≤ 2 ^ (L - 1) := Nat.pow_le_pow_right (by decide) (by omega)
      omega
    · exact h
  obtain ⟨s, rfl⟩ : ∃ s, L = 64 - s := ⟨64 - L, by omega⟩
  obtain ⟨t, ht⟩ : ∃ t, t = 64 - (64 - s) := ⟨_, rfl⟩
  have e1 : 64 - s + t = 64 := by omega
  have e2 : 64 - s - 1 + t = 63 := by omega
  have p1 : 2 ^ (64 - s) * 2 ^ t = 18446744073709551616 := by rw [← Nat.pow_add, e1]
  have p2 : 2 ^ (64 - s - 1) * 2 ^ t = 9223372036854775808 := by rw [← Nat.pow_add, e2]
  have hp : 0 < 2 ^ t := Nat.pow_pos (by decide)
  refine ⟨t, by omega, by rw [← p2]; exact Nat.mul_le_mul_right _ b, by rw [← p1]; exact Nat.mul_lt_mul_of_pos_right c hp, fun w => ?_⟩
  have h := lead64 (y : Int) w (by omega) (by omega) (64 - s) hL l64
  have e : (64 : Int) - ((64 - s : Nat) : Int) = (t : Int) := by omega
  rw [e] at h
  exact h
end Go.Proofs.YtecmkjefoppbiaaDoor
namespace Go.Proofs.YtecmkjefoppbiaaDoor
open Go.RowKit BG

structure Dv (hi lo y s Y y1 y0 u v d e : Nat) : Prop where
  yy : Y = y * 2 ^ s
  yw : IntKind.u64.wrap ((y : Int) * 2 ^ s) = (Y : Int)
  yh : (Y : Int) / 4294967296 = (y1 : Int)
  yl : bits .and .u64 (Y : Int) 4294967295 = (y0 : Int)
  ys : Y = y1 * 4294967296 + y0
  y0l : y0 < 4294967296
  y1g : 2147483648 ≤ y1
  y1l : y1 < 4294967296
  uw : bits .or .u64 (IntKind.u64.wrap ((hi : Int) * 2 ^ s)) ((lo : Int) / 2 ^ (64 - s)) = (u : Int)
  ul : u < Y
  vw : IntKind.u64.wrap ((lo : Int) * 2 ^ s) = (v : Int)
  vh : (v : Int) / 4294967296 = (d : Int)
  vl : bits .and .u64 (v : Int) 4294967295 = (e : Int)
  dl : d < 4294967296
  el : e < 4294967296
  sum : (hi * 18446744073709551616 + lo) * 2 ^ s = u * 18446744073709551616 + (d * 4294967296 + e)
theorem wrap_pow {a s : Nat} (h : a * 2 ^ s < 18446744073709551616) : IntKind.u64.wrap ((a : Int) * 2 ^ s) = ((a * 2 ^ s : Nat) : Int) := by
  have e : (a : Int) * 2 ^ s = ((a * 2 ^ s : Nat) : Int) := by push_cast; rfl
  rw [e, IntKind.wrap_u64]
  omega
theorem wrap_powm {a s : Nat} : IntKind.u64.wrap ((a : Int) * 2 ^ s) = ((a * 2 ^ s % 18446744073709551616 : Nat) : Int) := by
  have e : (a : Int) * 2 ^ s = ((a * 2 ^ s : Nat) : Int) := by push_cast; rfl
  rw [e, IntKind.wrap_u64]
  omega
theorem div_pow {a s : Nat} : (a : Int) / 2 ^ s = ((a / 2 ^ s : Nat) : Int) := by push_cast; rfl
theorem dv_ex {hi lo y s : Nat} (s63 : s ≤ 63) (y63 : 9223372036854775808 ≤ y * 2 ^ s) (y64 : y * 2 ^ s < 18446744073709551616) (h0 : hi < y) (hl : lo < 18446744073709551616) : ∃ Y y1 y0 u v d e, Dv hi lo y s Y y1 y0 u v d e := by
  have hp : 0 < 2 ^ s := Nat.pow_pos (by decide)
  have hq : 0 < 2 ^ (64 - s) := Nat.pow_pos (by decide)
  have pq : 2 ^ (64 - s) * 2 ^ s = 18446744073709551616 := by rw [← Nat.pow_add, show 64 - s + s = 64 by omega]
  have hh : hi * 2 ^ s + 2 ^ s ≤ y * 2 ^ s := by
    have := Nat.mul_le_mul_right (2 ^ s) (show hi + 1 ≤ y by omega)
    rw [Nat.add_mul, Nat.one_mul] at this
    exact this
  have hlo : lo / 2 ^ (64 - s) < 2 ^ s := by
    refine (Nat.div_lt_iff_lt_mul hq).2 ?_
    rw [Nat.mul_comm, pq]
    exact hl
  have hor : hi * 2 ^ s ||| lo / 2 ^ (64 - s) = hi * 2 ^ s + lo / 2 ^ (64 - s) := by
    rw [Nat.mul_comm, Nat.two_pow_add_eq_or_of_lt hlo]
  have hv : lo * 2 ^ s = lo / 2 ^ (64 - s) * 18446744073709551616 + lo * 2 ^ s % 18446744073709551616 := by
    have e1 : lo * 2 ^ s / 18446744073709551616 = lo / 2 ^ (64 - s) := by rw [← pq]; exact Nat.mul_div_mul_right _ _ hp
    rw [← e1]
    omega
  refine ⟨y * 2 ^ s, y * 2 ^ s / 4294967296, y * 2 ^ s % 4294967296, hi * 2 ^ s + lo / 2 ^ (64 - s), lo * 2 ^ s % 18446744073709551616, lo * 2 ^ s % 18446744073709551616 / 4294967296, lo * 2 ^ s % 18446744073709551616 % 4294967296, ?_⟩
  have um : hi * 2 ^ s < 18446744073709551616 := by omega
  refine ⟨rfl, wrap_pow y64, by omega, M64.maskN _ y64, by omega, by omega, by omega, by omega, ?_, by omega, wrap_powm, by omega, M64.maskN _ (by omega), by omega, by omega, ?_⟩
  · rw [wrap_pow um, div_pow, bits_or_u64_nat _ _ um (by omega), hor]
  · rw [Nat.add_mul, hv, Nat.mul_assoc, Nat.mul_comm 18446744073709551616, ← Nat.mul_assoc]
    generalize hi * 2 ^ s = A at *
    generalize lo / 2 ^ (64 - s) = B at *
    omega
end Go.Proofs.YtecmkjefoppbiaaDoor
namespace Go.Proofs.YtecmkjefoppbiaaDoor
open Go.RowKit BG

theorem wr_nat {n : Nat} (h : n < 18446744073709551616) : IntKind.u64.wrap (n : Int) = (n : Int) := by rw [IntKind.wrap_u64]; omega
theorem wr_mul {a b c : Nat} (e : a * b = c) (h : c < 18446744073709551616) : IntKind.u64.wrap ((a : Int) * (b : Int)) = (c : Int) := by
  rw [← Int.natCast_mul, e]; exact wr_nat h
theorem wr_mulc {a c : Nat} (e : 4294967296 * a = c) (h : c < 18446744073709551616) : IntKind.u64.wrap (4294967296 * (a : Int)) = (c : Int) := by
  have : (4294967296 * (a : Int)) = (c : Int) := by omega
  rw [this]; exact wr_nat h
theorem wr_add {a b c : Nat} (e : a + b = c) (h : c < 18446744073709551616) : IntKind.u64.wrap ((a : Int) + (b : Int)) = (c : Int) := by
  rw [← Int.natCast_add, e]; exact wr_nat h
theorem wr_sub {a b c : Nat} (e : b + c = a) (h : c < 18446744073709551616) : IntKind.u64.wrap ((a : Int) - (b : Int)) = (c : Int) := by
  have : (a : Int) - b = c := by omega
  rw [this]; exact wr_nat h
theorem wr_dec {a c : Nat} (e : c + 1 = a) (h : c < 18446744073709551616) : IntKind.u64.wrap ((a : Int) - 1) = (c : Int) := by
  have : (a : Int) - 1 = c := by omega
  rw [this]; exact wr_nat h
/-- The first guess, in words. -/
theorem kn_words {Y y1 y0 u d : Nat} (h : Kn Y y1 y0 u d (u / y1) (u % y1)) (hu : u < 18446744073709551616) (h1 : 0 < y1) (h2 : y1 < 4294967296) : ∃ k A r, Kn Y y1 y0 u d k r ∧ r < 4294967296 ∧ (u : Int).tdiv (y1 : Int) = (k : Int) ∧ IntKind.u64.wrap (k : Int) = (k : Int) ∧ IntKind.u64.wrap ((k : Int) * (y1 : Int)) = (A : Int) ∧ IntKind.u64.wrap ((u : Int) - (A : Int)) = (r : Int) := by
  have hs := h.sum
  have hl := Nat.mod_lt u h1
  have hk : u / y1 ≤ u := Nat.div_le_self _ _
  have hA : u / y1 * y1 ≤ u := by generalize u / y1 * y1 = A at *; omega
  refine ⟨u / y1, u / y1 * y1, u % y1, h, by omega, rfl, wr_nat (by omega), wr_mul rfl (by omega), wr_sub hs (by omega)⟩
/-- A round's words. -/
theorem kn_round {y1 y0 d k r : Nat} (hk : k ≤ 4294967297) (h0 : y0 < 4294967296) (h1 : y1 < 4294967296) (hd : d < 4294967296) (hr : r < 4294967296) : ∃ P R1 R2 r', k * y0 = P ∧ R2 = 4294967296 * r + d ∧ r' = r + y1 ∧ IntKind.u64.wrap ((k : Int) * (y0 : Int)) = (P : Int) ∧ IntKind.u64.wrap (4294967296 * (r : Int)) = (R1 : Int) ∧ IntKind.u64.wrap ((R1 : Int) + (d : Int)) = (R2 : Int) ∧ IntKind.u64.wrap ((r : Int) + (y1 : Int)) = (r' : Int) := by
  have hP := Nat.mul_le_mul hk (show y0 ≤ 4294967295 by omega)
  exact ⟨k * y0, 4294967296 * r, 4294967296 * r + d, r + y1, rfl, rfl, rfl, wr_mul rfl (by omega), wr_mulc (c := 4294967296 * r) rfl (by omega), wr_add (c := 4294967296 * r + d) rfl (by omega), wr_add (c := r + y1) rfl (by omega)⟩
theorem wr_mod (n : Nat) : IntKind.u64.wrap (n : Int) = ((n % 18446744073709551616 : Nat) : Int) := by rw [IntKind.wrap_u64]; omega
/-- What is left behind a digit, in words. -/
theorem kn_rest {Y u d q R : Nat} (hY : Y < 18446744073709551616) (hp : 0 < Y) (hq : (u * 4294967296 + d) / Y = q) (hR : (u * 4294967296 + d) % Y = R) : ∃ m1 m2 m3 : Nat, IntKind.u64.wrap ((u : Int) * 4294967296) = (m1 : Int) ∧ IntKind.u64.wrap ((m1 : Int) + (d : Int)) = (m2 : Int) ∧ IntKind.u64.wrap ((q : Int) * (Y : Int)) = (m3 : Int) ∧ IntKind.u64.wrap ((m2 : Int) - (m3 : Int)) = (R : Int) := by
  have h := Nat.div_add_mod (u * 4294967296 + d) Y
  have hl := Nat.mod_lt (u * 4294967296 + d) hp
  rw [hq, hR, Nat.mul_comm] at h
  rw [hR] at hl
  refine ⟨u * 4294967296 % 18446744073709551616, (u * 4294967296 % 18446744073709551616 + d) % 18446744073709551616, q * Y % 18446744073709551616, ?_, ?_, ?_, ?_⟩
  · have e : (u : Int) * 4294967296 = ((u * 4294967296 : Nat) : Int) := by omega
    rw [e, wr_mod]
  · rw [← Int.natCast_add, wr_mod]
  · rw [← Int.natCast_mul, wr_mod]
  · rw [IntKind.wrap_u64]
    generalize q * Y = Q at *
    omega
set_option maxRecDepth 4000 in
set_option maxHeartbeats 4000000 in
theorem div64_gen (hi lo y QQ RR : Nat) (hQ : QQ = (hi * 18446744073709551616 + lo) / y) (hR : RR = (hi * 18446744073709551616 + lo) % y) (hh : 0 < hi) (hl : lo < 18446744073709551616) (h0 : hi < y) (h1 : y < 18446744073709551616) (w : World) : Calls Tryd.prog 66 #[.int .u64 (hi : Int), .int .u64 (lo : Int), .int .u64 (y : Int)] w fun e w' => e = .returned (.tuple #[.int .u64 (QQ : Int), .int .u64 (RR : Int)]) ∧ w' = w := by
  obtain ⟨s, s63, y63, y64, HL⟩ := lead_ex (y := y) (by omega) h1
  obtain ⟨Y, y1, y0, u, v, d, e, D⟩ := dv_ex (hi := hi) s63 y63 y64 h0 hl
  replace HL := hidb HL
  have a0 : ¬ (y : Int) = 0 := by omega
  have a1 : ¬ (y : Int) ≤ hi := by omega
  have a2 : ¬ (hi : Int) = 0 := by omega
  have hY : Y < 18446744073709551616 := by rw [D.yy]; exact y64
  have hY0 : 0 < Y := by have := D.ul; omega
  have HV : Hid (QQ = (u * 4294967296 + d) / Y * 4294967296 + ((u * 4294967296 + d) % Y * 4294967296 + e) / Y ∧ RR = ((u * 4294967296 + d) % Y * 4294967296 + e) % Y / 2 ^ s) := by
    have hp : 0 < 2 ^ s := Nat.pow_pos (by decide)
    obtain ⟨f1, f2⟩ := shifted (N := hi * 18446744073709551616 + lo) (y := y) hp
    obtain ⟨g1, g2⟩ := two_digits (Y := Y) (u := u) (d := d) (e := e) hY0
    rw [← D.yy, D.sum] at f1 f2
    exact ⟨by rw [hQ, ← f1, g1], by rw [hR, ← f2, g2]⟩
  clear hQ hR
  have K1 := kn_start D.ys D.y0l D.y1g D.ul D.dl
  have ql := kn_low D.ul D.dl
  obtain ⟨q1, hq1⟩ : ∃ q1, (u * 4294967296 + d) / Y = q1 := ⟨_, rfl⟩
  obtain ⟨R, hR1⟩ : ∃ R, (u * 4294967296 + d) % Y = R := ⟨_, rfl⟩
  have R1 : R < Y := by rw [← hR1]; exact Nat.mod_lt _ hY0
  rw [hq1, hR1] at HV
  rw [hq1] at ql
  have K2 := kn_start (d := e) D.ys D.y0l D.y1g R1 D.el
  have ql2 := kn_low R1 D.el
  obtain ⟨q0, hq0⟩ : ∃ q0, (R * 4294967296 + e) / Y = q0 := ⟨_, rfl⟩
  obtain ⟨R2, hR2⟩ : ∃ R2, (R * 4294967296 + e) % Y = R2 := ⟨_, rfl⟩
  rw [hq0, hR2] at HV
  rw [hq0] at ql2
  obtain ⟨m1, m2, m3, z1, z2, z3, z4⟩ := kn_rest hY hY0 hq1 hR1
  obtain ⟨n1, n2, n3, v1, v2, v3, v4⟩ := kn_rest hY hY0 hq0 hR2
  obtain ⟨k', A', r', KK', kr', i1, i2, i3, i4⟩ := kn_words K2 (by omega) (by have := D.y1g; omega) D.y1l
  obtain ⟨g1, g2⟩ := HV.out
  obtain ⟨p1, hp1⟩ : ∃ p1, q1 * 4294967296 = p1 := ⟨_, rfl⟩
  have f1 : IntKind.u64.wrap ((q1 : Int) * 4294967296) = (p1 : Int) := by
    have e : (q1 : Int) * 4294967296 = (p1 : Int) := by omega
    rw [e]; exact wr_nat (by omega)
  have f2 : IntKind.u64.wrap ((p1 : Int) + (q0 : Int)) = (QQ : Int) := wr_add (by rw [g1, hp1]) (by rw [g1]; omega)
  have f3 : (R2 : Int) / 2 ^ s = (RR : Int) := by rw [div_pow, ← g2]
  have HQ1 := hidb hq1
  have HQ0 := hidb hq0
  have KH2 := hidb KK'
  have KR2 := hidb kr'
  clear HV g1 g2 hp1 hq1 hR1 hq0 hR2 ql ql2 KK' kr'
  have S3 : (s : Int) ≤ 63 := by omega
  have e1 := D.yw
  have e2 := D.yh
  have e3 := D.yl
  have e4 := D.uw
  have e5 := D.vw
  have e6 := D.vh
  have e7 := D.vl
  obtain ⟨k, A, r, KK, kr, t1, t2, t3, t4⟩ := kn_words K1 (by have := D.ul; omega) (by have := D.y1g; omega) D.y1l
  have b1 : ¬ (y1 : Int) = 0 := by have := D.y1g; omega
  have DD := hidb D
  have YY := hidb hY
  have Y0 := hidb hY0
  have KH := hidb KK
  have KR := hidb kr
  have RB := hidb R1
  clear D hY hY0 KK kr K1 K2 R1 y63 y64 h0 h1 hl hh s63
  go_enter Tryd.func66, Tryd.ntmps66
  go_wp2_with fail
  refine (HL.out _).mono ?_
  rintro e w1 ⟨rfl, rfl⟩
  clear HL
  go_upto_block 0 with fail
  go_cut [15, 16] from 67 to 85 (fun sk sr wx => sk = .int .u64 (q1 : Int) ∧ (∃ z : Nat, sr = .int .u64 (z : Int)) ∧ wx = w1)
  case first =>
    clear t1 t2 t3 t4 e1 e2 e3 e4 e5 e6 e7 z1 z2 z3 z4 v1 v2 v3 v4 i1 i2 i3 i4 f1 f2 f3
    go_wp2_with fail
    go_loopg [15, 16] k (fun g s t wr => ∃ (z : Nat), s = .int .u64 (g : Int) ∧ t = .int .u64 (z : Int) ∧ Hid (Kn Y y1 y0 u d g z) ∧ Hid (z < 4294967296) ∧ wr = w1)
    case atStart => exact ⟨r, rfl, rfl, KH, KR, rfl⟩
    case round =>
      obtain ⟨z, rfl, rfl, HK, HZ, rfl⟩ := hrel
      obtain ⟨P, r1, r2, r', pP, pR, pr, x1, x2, x3, x4⟩ := kn_round HK.out.lid DD.out.y0l DD.out.y1l DD.out.dl HZ.out
      have PP := hidb pP
      have PR := hidb pR
      have Pr := hidb pr
      clear pP pR pr
      by_cases c1 : (4294967296 : Int) ≤ (gk : Int)
      · skip
        obtain ⟨k1, KS⟩ := kn_step DD.out.ys DD.out.ul DD.out.dl HK.out (Or.inl (by omega))
        obtain ⟨j, hj⟩ : ∃ j, j + 1 = gk := ⟨gk - 1, by omega⟩
        have x5 : IntKind.u64.wrap ((gk : Int) - 1) = (j : Int) := wr_dec hj (by have := HK.out.lid; omega)
        have hj' : gk - 1 = j := by omega
        rw [hj', ← Pr.out] at KS
        have KJ := hidb KS
        have JK := hidb hj
        have lk : Hid (j ≤ 4294967296) := by have := HK.out.lid; exact (show j ≤ 4294967296 by omega)
        clear KS hj hj' k1
        by_cases c2 : (4294967296 : Int) ≤ (r' : Int)
        · go_wp2_with fail
          go_meet
          case rel => exact ⟨by rw [← HQ1.out, kn_break DD.out.ys DD.out.y0l DD.out.ul KJ.out lk.out (by omega)], ⟨r', rfl⟩, rfl⟩
        · have HR' : Hid (r' < 4294967296) := show r' < 4294967296 by omega
          go_wp2_with fail
          go_roundg j
          case measure => have := JK.out; omega
          case rel => exact ⟨r', rfl, rfl, KJ, HR', rfl⟩
      · by_cases c3 : (r2 : Int) < (P : Int)
        · skip
          obtain ⟨k1, KS⟩ := kn_step DD.out.ys DD.out.ul DD.out.dl HK.out (Or.inr (by rw [PP.out, ← PR.out]; omega))
          obtain ⟨j, hj⟩ : ∃ j, j + 1 = gk := ⟨gk - 1, by omega⟩
          have x5 : IntKind.u64.wrap ((gk : Int) - 1) = (j : Int) := wr_dec hj (by have := HK.out.lid; omega)
          have hj' : gk - 1 = j := by omega
          rw [hj', ← Pr.out] at KS
          have KJ := hidb KS
          have JK := hidb hj
          have lk : Hid (j ≤ 4294967296) := by have := HK.out.lid; exact (show j ≤ 4294967296 by omega)
          clear KS hj hj' k1
          by_cases c2 : (4294967296 : Int) ≤ (r' : Int)
          · go_wp2_with fail
            go_meet
            case rel => exact ⟨by rw [← HQ1.out, kn_break DD.out.ys DD.out.y0l DD.out.ul KJ.out lk.out (by omega)], ⟨r', rfl⟩, rfl⟩
          · have HR' : Hid (r' < 4294967296) := show r' < 4294967296 by omega
            go_wp2_with fail
            go_roundg j
            case measure => have := JK.out; omega
            case rel => exact ⟨r', rfl, rfl, KJ, HR', rfl⟩
        · go_wp2_with fail
          go_meet
          case rel => exact ⟨by rw [← HQ1.out, kn_stop DD.out.ys DD.out.ul HK.out (by rw [PP.out, ← PR.out]; omega)], ⟨z, rfl⟩, rfl⟩
  case rest =>
    obtain ⟨rfl, ⟨zz, rfl⟩, rfl⟩ := hcut
    clear t1 t2 t3 t4 e1 e2 e3 e4 e5 e6 e7
    go_upto_block 2 with fail
    go_cut [18, 16] from 102 to 120 (fun sk sr wx => sk = .int .u64 (q0 : Int) ∧ (∃ z : Nat, sr = .int .u64 (z : Int)) ∧ wx = wc)
    case first =>
      clear z1 z2 z3 z4 v1 v2 v3 v4 i1 i2 i3 i4 f1 f2 f3
      go_wp2_with fail
      go_loopg [18, 16] k' (fun g s t wr => ∃ (z : Nat), s = .int .u64 (g : Int) ∧ t = .int .u64 (z : Int) ∧ Hid (Kn Y y1 y0 R e g z) ∧ Hid (z < 4294967296) ∧ wr = wc)
      case atStart => exact ⟨r', rfl, rfl, KH2, KR2, rfl⟩
      case round =>
        clear KH2 KR2 KH KR
        obtain ⟨z, rfl, rfl, HK, HZ, rfl⟩ := hrel
        obtain ⟨P, r1, r2, r', pP, pR, pr, x1, x2, x3, x4⟩ := kn_round HK.out.lid DD.out.y0l DD.out.y1l DD.out.el HZ.out
        have PP := hidb pP
        have PR := hidb pR
        have Pr := hidb pr
        clear pP pR pr
        by_cases c1 : (4294967296 : Int) ≤ (gk : Int)
        · skip
          obtain ⟨k1, KS⟩ := kn_step DD.out.ys RB.out DD.out.el HK.out (Or.inl (by omega))
          obtain ⟨j, hj⟩ : ∃ j, j + 1 = gk := ⟨gk - 1, by omega⟩
          have x5 : IntKind.u64.wrap ((gk : Int) - 1) = (j : Int) := wr_dec hj (by have := HK.out.lid; omega)
          have hj' : gk - 1 = j := by omega
          rw [hj', ← Pr.out] at KS
          have KJ := hidb KS
          have JK := hidb hj
          have lk : Hid (j ≤ 4294967296) := by have := HK.out.lid; exact (show j ≤ 4294967296 by omega)
          clear KS hj hj' k1
          by_cases c2 : (4294967296 : Int) ≤ (r' : Int)
          · go_wp2_with fail
            go_meet
            case rel => exact ⟨by rw [← HQ0.out, kn_break DD.out.ys DD.out.y0l RB.out KJ.out lk.out (by omega)], ⟨r', rfl⟩, rfl⟩
          · have HR' : Hid (r' < 4294967296) := show r' < 4294967296 by omega
            go_wp2_with fail
            go_roundg j
            case measure => have := JK.out; omega
            case rel => exact ⟨r', rfl, rfl, KJ, HR', rfl⟩
        · by_cases c3 : (r2 : Int) < (P : Int)
          · skip
            obtain ⟨k1, KS⟩ := kn_step DD.out.ys RB.out DD.out.el HK.out (Or.inr (by rw [PP.out, ← PR.out]; omega))
            obtain ⟨j, hj⟩ : ∃ j, j + 1 = gk := ⟨gk - 1, by omega⟩
            have x5 : IntKind.u64.wrap ((gk : Int) - 1) = (j : Int) := wr_dec hj (by have := HK.out.lid; omega)
            have hj' : gk - 1 = j := by omega
            rw [hj', ← Pr.out] at KS
            have KJ := hidb KS
            have JK := hidb hj
            have lk : Hid (j ≤ 4294967296) := by have := HK.out.lid; exact (show j ≤ 4294967296 by omega)
            clear KS hj hj' k1
            by_cases c2 : (4294967296 : Int) ≤ (r' : Int)
            · go_wp2_with fail
              go_meet
              case rel => exact ⟨by rw [← HQ0.out, kn_break DD.out.ys DD.out.y0l RB.out KJ.out lk.out (by omega)], ⟨r', rfl⟩, rfl⟩
            · have HR' : Hid (r' < 4294967296) := show r' < 4294967296 by omega
              go_wp2_with fail
              go_roundg j
              case measure => have := JK.out; omega
              case rel => exact ⟨r', rfl, rfl, KJ, HR', rfl⟩
          · go_wp2_with fail
            go_meet
            case rel => exact ⟨by rw [← HQ0.out, kn_stop DD.out.ys RB.out HK.out (by rw [PP.out, ← PR.out]; omega)], ⟨z, rfl⟩, rfl⟩
    case rest =>
      obtain ⟨rfl, ⟨zy, rfl⟩, rfl⟩ := hcut
      go_wp2
      go_ret2
      exact ⟨rfl, rfl⟩
end Go.Proofs.YtecmkjefoppbiaaDoor
