/-
  field.side, scaled, reached, around; mercatorref3.Down.
-/
import Derived.Test.YtphpfongdbidoaaDoorQFdF
namespace Go.Proofs.YtphpfongdbidoaaDoor
open Go.RowKit

theorem side_any (n : Int) (w : World) : Calls Tryd.prog 44 #[.int .i64 n] w fun e w' => e = .returned (.bool (inI 1 128 n)) ∧ w' = w := by
  have C := hidb (fun w => within_any n 1 128 w)
  go_enter Tryd.func44, Tryd.ntmps44
  go_wp2_with fail
  refine (C.out _).mono ?_
  rintro e w1 ⟨rfl, rfl⟩
  go_wp2
  go_ret
  exact ⟨rfl, rfl⟩
def scode (W H : Int) (l : List Int) (n : Int) : Nat := if vcode W H l = 0 then (if inI 1 128 n then 0 else 3) else vcode W H l
def hcode (W H : Int) (l : List Int) (n : Int) : Nat := if vcode W H l = 0 then (if inI 0 128 n then 0 else 3) else vcode W H l
set_option maxRecDepth 4000 in
set_option maxHeartbeats 4000000 in
theorem scaled_any (g : Nat → Addr) {W H : Int} {ad : Option Addr} {b o cap : Nat} {l : List Int} (n : Int) (w : World) (h : ISl w ad b o cap l) (ll : l.length ≤ 20000) (hl : Lai w g) : Calls Tryd.prog 34 #[raV W H (.slice ad l.length cap), .int .i64 n] w fun e w' => e = .returned (evc g (scode W H l n)) ∧ Gr w w' := by
  have HL := hidb hl
  have C1 := hidb (fun w1 (hB : Gr w w1) => valid_lai g W H ad b o cap l w1 (h.below hB.out) ll (hl.below hB.out))
  have C2 := hidb (fun w => side_any n w)
  have G0 := hidb ((Gr.refl w).alloc (.cells #[.int .i64 W, .int .i64 H, .slice ad l.length cap] 27))
  clear h ll hl
  unfold scode
  generalize vcode W H l = e1 at *
  by_cases c1 : e1 = 0
  · rw [if_pos c1]
    rw [c1, show evc g 0 = .nilIface from rfl] at C1
    clear c1
    generalize inI 1 128 n = bb at *
    cases bb
    all_goals
      go_enter Tryd.func34, Tryd.ntmps34
      go_wp2_with fail
      refine (C1.out _ G0.out).mono ?_
      rintro e w1 ⟨rfl, hB⟩
      replace G0 := hidb (Gr.step G0.out hB.out)
      clear hB
      go_wp2_with fail
      refine (C2.out _).mono ?_
      rintro e w2 ⟨rfl, rfl⟩
      have cE : w2.cell? ⟨1, 0, none⟩ = some (errV g 2) := (HL.out.below G0.out.out).cell 2 (by decide)
      go_wp2
      go_ret
      exact ⟨rfl, G0.out⟩
  · rw [if_neg c1]
    obtain ⟨i, hi⟩ := evc_ne g c1
    rw [hi] at C1 ⊢
    clear c1 hi
    go_enter Tryd.func34, Tryd.ntmps34
    go_wp2_with fail
    refine (C1.out _ G0.out).mono ?_
    rintro e w1 ⟨rfl, hB⟩
    replace G0 := hidb (Gr.step G0.out hB.out)
    clear hB
    go_wp2
    go_ret
    exact ⟨rfl, G0.out⟩
set_option maxRecDepth 4000 in
set_option maxHeartbeats 4000000 in
theorem reached_any (g : Nat → Addr) {W H : Int} {ad : Option Addr} {b o cap : Nat} {l : List Int} (n : Int) (w : World) (h : ISl w ad b o cap l) (ll : l.length ≤ 20000) (hl : Lai w g) : Calls Tryd.prog 22 #[raV W H (.slice ad l.length cap), .int .i64 n] w fun e w' => e = .returned (evc g (hcode W H l n)) ∧ Gr w w' := by
  have HL := hidb hl
  have C1 := hidb (fun w1 (hB : Gr w w1) => valid_lai g W H ad b o cap l w1 (h.below hB.out) ll (hl.below hB.out))
  have C2 := hidb (fun w => within_any n 0 128 w)
  have G0 := hidb ((Gr.refl w).alloc (.cells #[.int .i64 W, .int .i64 H, .slice ad l.length cap] 27))
  clear h ll hl
  unfold hcode
  generalize vcode W H l = e1 at *
  by_cases c1 : e1 = 0
  · rw [if_pos c1]
    rw [c1, show evc g 0 = .nilIface from rfl] at C1
    clear c1
    generalize inI 0 128 n = bb at *
    cases bb
    all_goals
      go_enter Tryd.func22, Tryd.ntmps22
      go_wp2_with fail
      refine (C1.out _ G0.out).mono ?_
      rintro e w1 ⟨rfl, hB⟩
      replace G0 := hidb (Gr.step G0.out hB.out)
      clear hB
      go_wp2_with fail
      refine (C2.out _).mono ?_
      rintro e w2 ⟨rfl, rfl⟩
      have cE : w2.cell? ⟨1, 0, none⟩ = some (errV g 2) := (HL.out.below G0.out.out).cell 2 (by decide)
      go_wp2
      go_ret
      exact ⟨rfl, G0.out⟩
  · rw [if_neg c1]
    obtain ⟨i, hi⟩ := evc_ne g c1
    rw [hi] at C1 ⊢
    clear c1 hi
    go_enter Tryd.func22, Tryd.ntmps22
    go_wp2_with fail
    refine (C1.out _ G0.out).mono ?_
    rintro e w1 ⟨rfl, hB⟩
    replace G0 := hidb (Gr.step G0.out hB.out)
    clear hB
    go_wp2
    go_ret
    exact ⟨rfl, G0.out⟩
theorem around_any (n r m : Int) (hn : 0 ≤ n) (hn2 : n ≤ 20000) (hr : 0 ≤ r) (hr2 : r ≤ 128) (w : World) : Calls Tryd.prog 25 #[.int .i64 n, .int .i64 r, .int .i64 m] w fun e w' => e = .returned (.tuple #[.int .i64 (max (n - r) 0), .int .i64 (min (n + r + 1) m)]) ∧ w' = w := by
  have e2 : IntKind.i64.wrap (n + r) = n + r := wrap_in (by omega) (by omega)
  obtain ⟨x, e1, hx⟩ : ∃ x, IntKind.i64.wrap (n - r) = x ∧ n - r = x := ⟨n - r, wrap_in (by omega) (by omega), rfl⟩
  obtain ⟨y, e3, hy⟩ : ∃ y, IntKind.i64.wrap (n + r + 1) = y ∧ n + r + 1 = y := ⟨n + r + 1, wrap_in (by omega) (by omega), rfl⟩
  rw [hx, hy]
  clear hn hn2 hr hr2 hx hy
  go_enter Tryd.func25, Tryd.ntmps25
  go_wp2
  all_goals
    go_ret2
    refine ⟨?_, rfl⟩
    first
      | (rw [Int.max_eq_right (by omega), Int.min_eq_right (by omega)]; rfl)
      | (rw [Int.max_eq_right (by omega), Int.min_eq_left (by omega)]; rfl)
      | (rw [Int.max_eq_left (by omega), Int.min_eq_right (by omega)]; rfl)
      | (rw [Int.max_eq_left (by omega), Int.min_eq_left (by omega)]; rfl)
/-- Over a number above 0, rounded down. -/
theorem down_eq (a b : Int) (hb : 1 ≤ b) (ha : a < 0) : (-a + b - 1).tdiv b = -(a / b) := by
  rw [Int.tdiv_eq_ediv_of_nonneg (by omega)]
  have h2 : b * (a / b) + a % b = a := by have := Int.emod_def a b; omega
  have h3 := Int.emod_nonneg a (show b ≠ 0 by omega)
  have h4 := Int.emod_lt_of_pos a (show 0 < b by omega)
  have h5 : -a + b - 1 = (b - 1 - a % b) + b * (-(a / b)) := by rw [Int.mul_neg]; omega
  rw [h5, Int.add_mul_ediv_left _ _ (by omega), Int.ediv_eq_zero_of_lt (by omega) (by omega)]
  omega
theorem down_any (a b : Int) (hb : 1 ≤ b) (hb2 : b ≤ 20000) (ha : -1099511627776 ≤ a) (ha2 : a ≤ 1099511627776) (w : World) : Calls Tryd.prog 35 #[.int .i64 a, .int .i64 b] w fun e w' => e = .returned (.int .i64 (a / b)) ∧ w' = w := by
  have e0 : ¬ b = 0 := by omega
  by_cases h : 0 ≤ a
  · have q1 : 0 ≤ a / b := Int.ediv_nonneg h (by omega)
    have q2 : a / b ≤ a := Int.ediv_le_self b h
    have e1 : a.tdiv b = a / b := Int.tdiv_eq_ediv_of_nonneg h
    have e2 : IntKind.i64.wrap (a / b) = a / b := wrap_in (by omega) (by omega)
    clear hb hb2 ha ha2 q1 q2
    go_enter Tryd.func35, Tryd.ntmps35
    go_wp2
    go_ret
    exact ⟨by first | rfl | simp [e1, e2], rfl⟩
  · have h4 : b * (a / b) + a % b = a := by have := Int.emod_def a b; omega
    have h5 := Int.emod_nonneg a (show b ≠ 0 by omega)
    have h6 := Int.emod_lt_of_pos a (show 0 < b by omega)
    have q1 : a / b < 0 := Int.ediv_neg_of_neg_of_pos (by omega) (by omega)
    have q2 : a ≤ a / b := by
      have := Int.le_ediv_iff_mul_le (c := b) (a := a) (b := a) (by omega)
      refine this.2 ?_
      have h7 : a * b ≤ a * 1 := Int.mul_le_mul_of_nonpos_left (by omega) hb
      omega
    have e1 := down_eq a b hb (by omega)
    have e2 : IntKind.i64.wrap (-a) = -a := wrap_in (by omega) (by omega)
    have e3 : IntKind.i64.wrap (-a + b) = -a + b := wrap_in (by omega) (by omega)
    have e4 : IntKind.i64.wrap (-a + b - 1) = -a + b - 1 := wrap_in (by omega) (by omega)
    have e5 : IntKind.i64.wrap (-(a / b)) = -(a / b) := wrap_in (by omega) (by omega)
    have e7 : IntKind.i64.wrap (a / b) = a / b := wrap_in (by omega) (by omega)
    have E7 := hidb e7
    clear e7
    clear hb hb2 ha ha2 h4 h5 h6 q1 q2
    go_enter Tryd.func35, Tryd.ntmps35
    go_wp2
    go_ret
    exact ⟨by simp; exact (Go.IntWalk.i64_left _).symm.trans E7.out, rfl⟩
/-- The sums' value; a corner. -/
theorem sat_any (wd r c : Int) {ad : Option Addr} {b o cap : Nat} {l : List Int} (k : Nat) (hk : k < l.length) (hkk : r * wd + c = (k : Int)) (h1 : -4611686018427387904 ≤ r * wd) (h2 : r * wd ≤ 4611686018427387904) (ll : l.length ≤ 20000) (w : World) (h : ISl w ad b o cap l) : Calls Tryd.prog 40 #[.agg #[.int .i64 wd, .slice ad l.length cap], .int .i64 r, .int .i64 c] w fun e w' => e = .returned (.int .i64 l[k]) ∧ Gr w w' := by
  have e1 : IntKind.i64.wrap (r * wd) = r * wd := wrap_in (by omega) (by omega)
  have e2 : IntKind.i64.wrap (r * wd + c) = (k : Int) := by rw [hkk]; exact wrap_in (by omega) (by omega)
  have G0 := hidb ((Gr.refl w).alloc (.cells #[.int .i64 wd, .slice ad l.length cap] 42))
  have c0 := (h.below G0.out.out).cell hk
  have ix := h.ix k hk
  clear h hkk h1 h2 ll
  generalize l[k] = x at c0 ⊢
  clear hk
  go_enter Tryd.func40, Tryd.ntmps40
  go_wp2
  go_ret
  exact ⟨rfl, G0.out⟩
end Go.Proofs.YtphpfongdbidoaaDoor
