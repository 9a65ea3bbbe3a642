/-
  grain's wide.over, wide.left.
-/
import Derived.Test.YtgjjgicojedefaaDoorFrV
namespace Go.Proofs.YtgjjgicojedefaaDoor
open Go.RowKit BG

theorem w2_nat {n : Nat} (h : n < 340282366920938463463374607431768211456) : W2 (n : Int) = .agg #[.int .u64 ((n / 18446744073709551616 : Nat) : Int), .int .u64 ((n % 18446744073709551616 : Nat) : Int)] := by
  unfold W2
  rw [hi_nat n h, lo_nat n]
theorem split_words {t q p : Nat} (h : t = q * 18446744073709551616 + p) (hp : p < 18446744073709551616) : t / 18446744073709551616 = q ∧ t % 18446744073709551616 = p := by omega
theorem left_any (n y r : Nat) (hn : n < 340282366920938463463374607431768211456) (h0 : 0 < y) (h1 : y < 18446744073709551616) (hr : n % y = r) (w : World) : Calls Tryd.prog 73 #[W2 (n : Int), .int .u64 (y : Int)] w fun e w' => e = .returned (.int .u64 (r : Int)) ∧ Below w.heap.size w w' := by
  rw [w2_nat hn]
  obtain ⟨a, ha⟩ : ∃ a, n / 18446744073709551616 = a := ⟨_, rfl⟩
  obtain ⟨b, hb⟩ : ∃ b, n % 18446744073709551616 = b := ⟨_, rfl⟩
  have hab : a * 18446744073709551616 + b = n := by omega
  have hb' : b < 18446744073709551616 := by omega
  have HR := hidb (fun w => rem64 a b y r (by rw [hab]; exact hr) hb' h0 h1 w)
  rw [ha, hb]
  have HC := (Gr.refl w).alloc (.cells #[.int .u64 (a : Int), .int .u64 (b : Int)] 70)
  clear hn h0 h1 hr ha hb hab hb'
  go_enter Tryd.func73, Tryd.ntmps73
  go_wp2_with fail
  refine (HR.out _).mono ?_
  rintro e w2 ⟨rfl, hB⟩
  go_wp2
  go_ret
  exact ⟨rfl, Gr.step HC hB⟩
theorem over_any (n y : Nat) (hn : n < 340282366920938463463374607431768211456) (h0 : 0 < y) (h1 : y < 18446744073709551616) (w : World) : Calls Tryd.prog 74 #[W2 (n : Int), .int .u64 (y : Int)] w fun e w' => e = .returned (W2 ((n / y : Nat) : Int)) ∧ Below w.heap.size w w' := by
  have hny : n / y < 340282366920938463463374607431768211456 := Nat.lt_of_le_of_lt (Nat.div_le_self _ _) hn
  rw [w2_nat hn, w2_nat hny]
  obtain ⟨a, ha⟩ : ∃ a, n / 18446744073709551616 = a := ⟨_, rfl⟩
  obtain ⟨b, hb⟩ : ∃ b, n % 18446744073709551616 = b := ⟨_, rfl⟩
  have hab : n = a * 18446744073709551616 + b := by omega
  have hb' : b < 18446744073709551616 := by omega
  have ha' : a < 18446744073709551616 := by omega
  obtain ⟨c, hc⟩ : ∃ c, a % y = c := ⟨_, rfl⟩
  obtain ⟨q, hq⟩ : ∃ q, a / y = q := ⟨_, rfl⟩
  obtain ⟨p, hp⟩ : ∃ p, (c * 18446744073709551616 + b) / y = p := ⟨_, rfl⟩
  obtain ⟨r, hr⟩ : ∃ r, (c * 18446744073709551616 + b) % y = r := ⟨_, rfl⟩
  have hcy : c < y := by rw [← hc]; exact Nat.mod_lt _ h0
  have hpl : p < 18446744073709551616 := by
    rw [← hp]
    refine (Nat.div_lt_iff_lt_mul h0).2 ?_
    have : (c + 1) * 18446744073709551616 ≤ y * 18446744073709551616 := Nat.mul_le_mul_right _ hcy
    omega
  have hsum : n / y = q * 18446744073709551616 + p := by rw [hab, quo_hi a b y h0, hq, hc, hp]
  obtain ⟨e1, e2⟩ := split_words hsum hpl
  rw [ha, hb, e1, e2]
  have HD := hidb (fun w => div64 c b y p r hp hr hb' hcy h1 w)
  have ql : q ≤ a := by rw [← hq]; exact Nat.div_le_self _ _
  have t1 : (a : Int).tmod (y : Int) = (c : Int) := by rw [← hc]; rfl
  have t2 : (a : Int).tdiv (y : Int) = (q : Int) := by rw [← hq]; rfl
  have w1 : IntKind.u64.wrap (c : Int) = c := wr_nat (by omega)
  have w2 : IntKind.u64.wrap (q : Int) = q := wr_nat (by omega)
  have y0 : ¬ (y : Int) = 0 := by omega
  have HC : Gr w ((w.alloc (.cells #[.int .u64 (a : Int), .int .u64 (b : Int)] 70)).alloc (.cells #[.int .u64 0, .int .u64 0] 70)) := ((Gr.refl w).alloc _).alloc _
  have PA := (At.new2 w (.int .u64 (a : Int)) (.int .u64 (b : Int)) 70).alloc (.cells #[.int .u64 0, .int .u64 0] 70)
  have RA := At.nx2 (W := w) (.cells #[.int .u64 (a : Int), .int .u64 (b : Int)] 70) (.int .u64 0) (.int .u64 0) 70
  have HE := hidb (show ∀ w, Calls Tryd.prog 92 #[.int .u64 (IntKind.u64.wrap (c : Int)), .int .u64 (b : Int), .int .u64 (y : Int)] w fun e w' => e = .returned (.tuple #[.int .u64 (p : Int), .int .u64 (r : Int)]) ∧ Below w.heap.size w w' from by rw [w1]; exact HD.out)
  clear hn h0 h1 ha hb hab hb' ha' hc hq hp hr hcy hpl hsum e1 e2 ql hny
  go_enter Tryd.func74, Tryd.ntmps74
  go_wp2_with fail
  generalize (w.alloc (.cells #[.int .u64 (a : Int), .int .u64 (b : Int)] 70)).alloc (.cells #[.int .u64 0, .int .u64 0] 70) = w3 at *
  go_region_held (fun w' => w'.cell? ⟨w.heap.size, 0, none⟩ = some (.int .u64 (a : Int)) ∧ w'.cell? ⟨w.heap.size, 1, none⟩ = some (.int .u64 (b : Int)))
    ((refine At.c2 (a := .int .u64 (a : Int)) (b := .int .u64 (b : Int)) ?_; ((with_reducible repeat' (first | assumption | exact At.new1 _ _ _ | exact At.new2 _ _ _ _ | exact At.new3 _ _ _ _ _ | exact At.nx1 _ _ _ | exact At.nx2 _ _ _ _ | exact At.nx3 _ _ _ _ _ | exact At.ny1 _ _ _ _ | exact At.ny2 _ _ _ _ _ | exact At.ny3 _ _ _ _ _ _ | exact At.nz1 _ _ _ _ _ | exact At.nz2 _ _ _ _ _ _ | exact At.nz3 _ _ _ _ _ _ _ | exact Has.new1 _ _ _ | exact Has.new2 _ _ _ _ | exact Has.new3 _ _ _ _ _ | exact Has.nx1 _ _ _ | exact Has.nx2 _ _ _ _ | exact Has.nx3 _ _ _ _ _ | exact Has.ny1 _ _ _ _ | exact Has.ny2 _ _ _ _ _ | exact Has.ny3 _ _ _ _ _ _ | exact Has.nz1 _ _ _ _ _ | exact Has.nz2 _ _ _ _ _ _ | exact Has.nz3 _ _ _ _ _ _ _ | refine At.fill1 ?_ _ | refine At.fill2 ?_ _ _ | refine At.fill3 ?_ _ _ _ | refine At.swap ?_ (by first | omega | (simp; omega)) _ _ | refine At.alloc ?_ _ | refine At.drew ?_ | refine At.skip ?_ (by first | omega | (simp; omega)) _ _ | refine At.below (by assumption) ?_ | refine Has.alloc ?_ _ | refine Has.drew ?_ | refine Has.set ?_ _ _ _ | refine Has.below (by assumption) ?_)); done)))
    ((go_at_call 92; (first | with_reducible refine (HE.out _).mono ?_ | with_reducible refine (HD.out _).mono ?_); rintro e w5 ⟨rfl, hB⟩; (with_reducible first | replace hB := undr hB | skip); replace HC := Gr.step HC hB; replace PA := At.below hB PA; replace RA := At.below hB RA; clear hB))
  obtain ⟨p0, p1⟩ := PA.c2
  obtain ⟨r0, r1⟩ := RA.c2
  obtain ⟨f0, f1⟩ := RA.f2
  go_wp2
  have hge : w.heap.size ≤ w.heap.size + 1 := by omega
  exact bodyPost_ret (v := .agg #[.int .u64 (q : Int), .int .u64 (p : Int)]) (by simp [results, Tryd.results74, go_sem, r0, r1]) rfl ⟨rfl, (HC.set hge _ _).set hge _ _⟩
end Go.Proofs.YtgjjgicojedefaaDoor
