/-
  relief.within, on, squareOf, square.at.
-/
import Derived.Test.YtpdiefmmenfpaaaDoorQJ1
import Derived.Test.YtpdiefmmenfpaaaDoorQRa
import Derived.Test.YtpdiefmmenfpaaaDoorQJ6
import Derived.Deep.RegionHeldLaw
namespace Go.Proofs.YtpdiefmmenfpaaaDoor
open Go.RowKit

theorem rwithin_any (n lo hi : Int) (w : World) : Calls Tryd.prog 33 #[.int .i64 n, .int .i64 lo, .int .i64 hi] w fun e w' => e = .returned (.bool (inI lo hi n)) ∧ w' = w := by
  unfold inI
  by_cases h : lo ≤ n
  · by_cases h2 : n ≤ hi
    all_goals
      go_enter Tryd.func33, Tryd.ntmps33
      go_wp2
      go_ret
      exact ⟨by simp [h, h2], rfl⟩
  · have e1 : decide (lo ≤ n) = false := decide_eq_false h
    rw [e1]
    clear e1
    go_enter Tryd.func33, Tryd.ntmps33
    go_wp2
    go_ret
    exact ⟨by simp, rfl⟩
abbrev spV (x y : Int) : Value := .agg #[.int .i64 x, .int .i64 y]
abbrev sqV (a b c d : Int) : Value := .agg #[.int .i64 a, .int .i64 b, .int .i64 c, .int .i64 d]
def onI (m n : Nat) (x y : Int) : Bool := inI 0 (256 * ((m : Int) - 1)) x && inI (-256 * ((n : Int) - 1)) 0 y
set_option maxRecDepth 4000 in
set_option maxHeartbeats 4000000 in
theorem on_any (m n : Nat) (hm : m ≤ 128) (hn : n ≤ 128) (v : Value) (x y : Int) (w : World) : Calls Tryd.prog 31 #[raV m n v, spV x y] w fun e w' => e = .returned (.bool (onI m n x y)) ∧ Gr w w' := by
  obtain ⟨m1, hm1, e1⟩ : ∃ z : Int, z = (m : Int) - 1 ∧ IntKind.i64.wrap ((m : Int) - 1) = z := ⟨_, rfl, wrap_in (by omega) (by omega)⟩
  obtain ⟨n1, hn1, e3⟩ : ∃ z : Int, z = (n : Int) - 1 ∧ IntKind.i64.wrap ((n : Int) - 1) = z := ⟨_, rfl, wrap_in (by omega) (by omega)⟩
  obtain ⟨m2, hm2, e2⟩ : ∃ z : Int, z = 256 * m1 ∧ IntKind.i64.wrap (256 * m1) = z := ⟨_, rfl, wrap_in (by omega) (by omega)⟩
  obtain ⟨n2, hn2, e4⟩ : ∃ z : Int, z = -256 * n1 ∧ IntKind.i64.wrap (-256 * n1) = z := ⟨_, rfl, wrap_in (by omega) (by omega)⟩
  unfold onI
  rw [← hm1, ← hn1, ← hm2, ← hn2]
  have C1 := hidb (fun w => rwithin_any x 0 m2 w)
  have C2 := hidb (fun w => rwithin_any y n2 0 w)
  have G0 := hidb (((Gr.refl w).alloc (.cells #[.int .i64 m, .int .i64 n, v] 35)).alloc (.cells #[.int .i64 x, .int .i64 y] 24))
  clear hm hn hm1 hn1 hm2 hn2
  generalize inI 0 m2 x = b1 at *
  generalize inI n2 0 y = b2 at *
  cases b1
  · go_enter Tryd.func31, Tryd.ntmps31
    go_wp2_with fail
    refine (C1.out _).mono ?_
    rintro e w1 ⟨rfl, rfl⟩
    go_wp2
    go_ret
    exact ⟨rfl, G0.out⟩
  · go_enter Tryd.func31, Tryd.ntmps31
    go_wp2_with fail
    refine (C1.out _).mono ?_
    rintro e w1 ⟨rfl, rfl⟩
    go_wp2_with fail
    refine (C2.out _).mono ?_
    rintro e w1 ⟨rfl, rfl⟩
    go_wp2
    go_ret
    exact ⟨rfl, G0.out⟩
/-- 256 times the height at a point of a square; the square's four heights. -/
def rise (a b c d u v : Int) : Int := if u < v then a * 256 + (v * (c - a) + u * (d - c)) else a * 256 + (u * (b - a) + v * (d - b))
end Go.Proofs.YtpdiefmmenfpaaaDoor
