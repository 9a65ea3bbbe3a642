/-
  grain.Cmp.; grain.bounded, grain.Make.; grain.Make.
-/
import Derived.Test.YtddnebgnohlchaaGreatDoorQJ21
namespace Go.Proofs.YtddnebgnohlchaaGreatDoor
open Go.RowKit BG
attribute [local go_sem ↓] Go.wp_at_zero Go.wp_at_succ

theorem sg_ci (x y : Int) : sg (x + -y) = ci x y := by
  unfold sg ci
  by_cases h1 : x < y
  · rw [if_pos (by omega), if_pos h1]
  · rw [if_neg (by omega), if_neg h1]
    by_cases h2 : y < x
    · rw [if_neg (by omega), if_pos h2]
    · rw [if_pos (by omega), if_neg h2]
theorem s_cmp {W : World} {A B C : Nat} {h l c d a b : Value} (hL : At W C [h, l]) (hQ : At W B [c, d]) (hP : At W A [a, b]) : W.cell? ⟨C, 0, none⟩ = some h ∧ W.cell? ⟨C, 1, none⟩ = some l ∧ W.cell? ⟨B, 0, none⟩ = some c ∧ W.cell? ⟨A, 1, none⟩ = some b := ⟨hL.c2.1, hL.c2.2, hQ.c2.1, hP.c2.2⟩
end Go.Proofs.YtddnebgnohlchaaGreatDoor
namespace Go.Proofs.YtddnebgnohlchaaGreatDoor
open Go.RowKit BG
attribute [local go_sem ↓] Go.wp_at_zero Go.wp_at_succ

/-- A fraction, its sign told apart. -/
abbrev frV (s : Bool) (p q : Nat) : Value := .agg #[.int .i64 (if s then -(p : Int) else p), .int .i64 q]
abbrev fr0 : Value := .agg #[.int .i64 0, .int .i64 0]
theorem hi2_small {p : Nat} (h : p ≤ 4611686018427387904) : hi2 (p : Int) = 0 ∧ lo2 (p : Int) = p := by unfold hi2 lo2; omega
theorem wide_big {p : Nat} (hp : p < 340282366920938463463374607431768211456) (h : ¬ p ≤ 4611686018427387904) : ¬ hi2 (p : Int) = 0 ∨ hi2 (p : Int) = 0 ∧ (4611686018427387904 : Int) < lo2 (p : Int) := by unfold hi2 lo2; omega
set_option maxHeartbeats 1000000 in
theorem bounded_ok (s : Bool) (p q : Nat) (hp : p ≤ 4611686018427387904) (hq : q ≤ 4611686018427387904) (w : World) : Calls Tryz.prog 78 #[.bool s, W2 p, W2 q] w fun e w' => e = .returned (.tuple #[frV s p q, .nilIface]) ∧ Below w.heap.size w w' := by
  obtain ⟨e1, e2⟩ := hi2_small hp
  obtain ⟨e3, e4⟩ := hi2_small hq
  unfold W2
  rw [e1, e2, e3, e4]
  clear e1 e2 e3 e4
  cases s
  · go_enter Tryz.func78, Tryz.ntmps78
    go_wp2
    exact bodyPost_ret (v := .tuple #[frV false p q, .nilIface]) (by simp [results, Tryz.results78, go_sem]) rfl ⟨rfl, ((((Gr.refl w).alloc _).alloc _).alloc _)⟩
  · go_enter Tryz.func78, Tryz.ntmps78
    go_wp2
    exact bodyPost_ret (v := .tuple #[frV true p q, .nilIface]) (by simp [results, Tryz.results78, go_sem]) rfl ⟨rfl, ((((Gr.refl w).alloc _).alloc _).alloc _)⟩
theorem keep2 {W : World} {b c : Nat} {u x y : Value} (h : W.cell? ⟨b, 0, none⟩ = some u) (hc : ¬ c = b) : ((W.setCell ⟨c, 0, none⟩ x).setCell ⟨c, 1, none⟩ y).cell? ⟨b, 0, none⟩ = some u := by
  have hc' : ¬ b = c := fun e => hc e.symm
  simp [go_sem, h]
set_option maxHeartbeats 1000000 in
theorem bounded_words (g : Nat → Addr) (s : Bool) (nh nl dh dl : Int) (a1 : 0 ≤ nh) (a2 : nh < 18446744073709551616) (_b1 : 0 ≤ nl) (_b2 : nl < 18446744073709551616) (c1 : 0 ≤ dh) (c2 : dh < 18446744073709551616) (_d1 : 0 ≤ dl) (_d2 : dl < 18446744073709551616)
    (h : ¬ nh = 0 ∨ nh = 0 ∧ 4611686018427387904 < nl ∨ nh = 0 ∧ nl ≤ 4611686018427387904 ∧ ¬ dh = 0 ∨ nh = 0 ∧ nl ≤ 4611686018427387904 ∧ dh = 0 ∧ 4611686018427387904 < dl) (w : World) (hl : Laid w g) : Calls Tryz.prog 78 #[.bool s, .agg #[.int .u64 nh, .int .u64 nl], .agg #[.int .u64 dh, .int .u64 dl]] w fun e w' => e = .returned (.tuple #[fr0, errV g 1]) ∧ Below w.heap.size w w' := by
  have cE : (((w.alloc (.cells #[.int .u64 nh, .int .u64 nl] 136)).alloc (.cells #[.int .u64 dh, .int .u64 dl] 136)).alloc (.cells #[.int .i64 0, .int .i64 0] 50)).cell? ⟨3, 0, none⟩ = some (errV g 1) := (((hl.alloc _).alloc _).alloc _).cell 1 (by decide)
  have HC : Gr w (((w.alloc (.cells #[.int .u64 nh, .int .u64 nl] 136)).alloc (.cells #[.int .u64 dh, .int .u64 dl] 136)).alloc (.cells #[.int .i64 0, .int .i64 0] 50)) := (((Gr.refl w).alloc _).alloc _).alloc _
  have RA := At.ny2 (W := w) (.cells #[.int .u64 nh, .int .u64 nl] 136) (.cells #[.int .u64 dh, .int .u64 dl] 136) (.int .i64 0) (.int .i64 0) 50
  have hlt : 3 < w.heap.size := lt_of_cell (hl.cell 1 (by decide))
  have hne : ¬ w.heap.size + 1 + 1 = 3 := by omega
  have hge : w.heap.size ≤ w.heap.size + 1 + 1 := by omega
  clear hl hlt
  rcases h with h | ⟨h, k⟩ | ⟨h, k, l⟩ | ⟨h, k, l, m⟩
  · go_enter Tryz.func78, Tryz.ntmps78
    go_wp2_with fail
    generalize ((w.alloc (.cells #[.int .u64 nh, .int .u64 nl] 136)).alloc (.cells #[.int .u64 dh, .int .u64 dl] 136)).alloc (.cells #[.int .i64 0, .int .i64 0] 50) = w3 at *
    obtain ⟨r0, r1⟩ := RA.c2
    obtain ⟨f0, f1⟩ := RA.f2
    go_region_held (fun w' => w'.cell? ⟨3, 0, none⟩ = some (errV g 1))
      (first | (with_reducible assumption) | exact cE | exact keep2 cE hne)
      (fail)
    go_wp2
    exact bodyPost_ret (v := .tuple #[fr0, errV g 1]) (by simp [results, Tryz.results78, go_sem, r0, r1]) rfl ⟨rfl, by first | exact ((HC.set hge _ _).set hge _ _).drew | exact ((HC.drew.set hge _ _).set hge _ _) | exact (HC.set hge _ _).set hge _ _⟩
  · subst h
    go_enter Tryz.func78, Tryz.ntmps78
    go_wp2_with fail
    generalize ((w.alloc (.cells #[.int .u64 0, .int .u64 nl] 136)).alloc (.cells #[.int .u64 dh, .int .u64 dl] 136)).alloc (.cells #[.int .i64 0, .int .i64 0] 50) = w3 at *
    obtain ⟨r0, r1⟩ := RA.c2
    obtain ⟨f0, f1⟩ := RA.f2
    go_region_held (fun w' => w'.cell? ⟨3, 0, none⟩ = some (errV g 1))
      (first | (with_reducible assumption) | exact cE | exact keep2 cE hne)
      (fail)
    go_wp2
    exact bodyPost_ret (v := .tuple #[fr0, errV g 1]) (by simp [results, Tryz.results78, go_sem, r0, r1]) rfl ⟨rfl, by first | exact ((HC.set hge _ _).set hge _ _).drew | exact ((HC.drew.set hge _ _).set hge _ _) | exact (HC.set hge _ _).set hge _ _⟩
  · subst h
    go_enter Tryz.func78, Tryz.ntmps78
    go_wp2_with fail
    generalize ((w.alloc (.cells #[.int .u64 0, .int .u64 nl] 136)).alloc (.cells #[.int .u64 dh, .int .u64 dl] 136)).alloc (.cells #[.int .i64 0, .int .i64 0] 50) = w3 at *
    obtain ⟨r0, r1⟩ := RA.c2
    obtain ⟨f0, f1⟩ := RA.f2
    go_region_held (fun w' => w'.cell? ⟨3, 0, none⟩ = some (errV g 1))
      (first | (with_reducible assumption) | exact cE | exact keep2 cE hne)
      (fail)
    go_wp2
    exact bodyPost_ret (v := .tuple #[fr0, errV g 1]) (by simp [results, Tryz.results78, go_sem, r0, r1]) rfl ⟨rfl, by first | exact ((HC.set hge _ _).set hge _ _).drew | exact ((HC.drew.set hge _ _).set hge _ _) | exact (HC.set hge _ _).set hge _ _⟩
  · subst h l
    go_enter Tryz.func78, Tryz.ntmps78
    go_wp2_with fail
    generalize ((w.alloc (.cells #[.int .u64 0, .int .u64 nl] 136)).alloc (.cells #[.int .u64 0, .int .u64 dl] 136)).alloc (.cells #[.int .i64 0, .int .i64 0] 50) = w3 at *
    obtain ⟨r0, r1⟩ := RA.c2
    obtain ⟨f0, f1⟩ := RA.f2
    go_region_held (fun w' => w'.cell? ⟨3, 0, none⟩ = some (errV g 1))
      (first | (with_reducible assumption) | exact cE | exact keep2 cE hne)
      (fail)
    go_wp2
    exact bodyPost_ret (v := .tuple #[fr0, errV g 1]) (by simp [results, Tryz.results78, go_sem, r0, r1]) rfl ⟨rfl, by first | exact ((HC.set hge _ _).set hge _ _).drew | exact ((HC.drew.set hge _ _).set hge _ _) | exact (HC.set hge _ _).set hge _ _⟩
end Go.Proofs.YtddnebgnohlchaaGreatDoor
namespace Go.Proofs.YtddnebgnohlchaaGreatDoor
open Go.RowKit BG
attribute [local go_sem ↓] Go.wp_at_zero Go.wp_at_succ

/-- The two parts fit. -/
def fits (p q : Nat) : Prop := p ≤ 4611686018427387904 ∧ q ≤ 4611686018427387904
instance (p q : Nat) : Decidable (fits p q) := by unfold fits; infer_instance
theorem bounded_no (g : Nat → Addr) (s : Bool) (p q : Nat) (hp : p < 340282366920938463463374607431768211456) (hq : q < 340282366920938463463374607431768211456) (h : ¬ fits p q) (w : World) (hl : Laid w g) : Calls Tryz.prog 78 #[.bool s, W2 p, W2 q] w fun e w' => e = .returned (.tuple #[fr0, errV g 1]) ∧ Below w.heap.size w w' := by
  refine bounded_words g s (hi2 p) (lo2 p) (hi2 q) (lo2 q) (hi2_0 _) (hi2_1 _) (lo2_0 _) (lo2_1 _) (hi2_0 _) (hi2_1 _) (lo2_0 _) (lo2_1 _) ?_ w hl
  unfold fits at h
  by_cases hp' : p ≤ 4611686018427387904
  · have := hi2_small hp'
    have := wide_big hq (fun k => h ⟨hp', k⟩)
    omega
  · have := wide_big hp hp'
    omega
theorem w2_word {p : Nat} (h : p < 18446744073709551616) : W2 (p : Int) = .agg #[.int .u64 0, .int .u64 (IntKind.u64.wrap (p : Int))] := by
  have e1 : hi2 (p : Int) = 0 := by unfold hi2; omega
  have e2 : lo2 (p : Int) = p := by unfold lo2; omega
  have e3 : IntKind.u64.wrap (p : Int) = p := by rw [IntKind.wrap_u64]; omega
  unfold W2
  rw [e1, e2, e3]
theorem make_zero (g : Nat → Addr) (n : Int) (w : World) (hl : Laid w g) : Calls Tryz.prog 55 #[.int .i64 n, .int .i64 0] w fun e w' => e = .returned (.tuple #[fr0, errV g 2]) ∧ Below w.heap.size w w' := by
  have cE : (w.alloc (.cells #[.int .i64 0, .int .i64 0] 50)).cell? ⟨4, 0, none⟩ = some (errV g 2) := (hl.alloc _).cell 2 (by decide)
  have HC : Gr w (w.alloc (.cells #[.int .i64 0, .int .i64 0] 50)) := (Gr.refl w).alloc _
  have RA := At.new2 w (.int .i64 0) (.int .i64 0) 50
  have hlt : 4 < w.heap.size := lt_of_cell (hl.cell 2 (by decide))
  have hne : ¬ w.heap.size = 4 := by omega
  have hge : w.heap.size ≤ w.heap.size := Nat.le_refl _
  clear hl hlt
  go_enter Tryz.func55, Tryz.ntmps55
  go_wp2_with fail
  generalize w.alloc (.cells #[.int .i64 0, .int .i64 0] 50) = w3 at *
  obtain ⟨r0, r1⟩ := RA.c2
  obtain ⟨f0, f1⟩ := RA.f2
  go_region_held (fun w' => w'.cell? ⟨4, 0, none⟩ = some (errV g 2))
    (first | (with_reducible assumption) | exact cE | exact keep2 cE hne)
    (fail)
  go_wp2
  exact bodyPost_ret (v := .tuple #[fr0, errV g 2]) (by simp [results, Tryz.results55, go_sem, r0, r1]) rfl ⟨rfl, by first | exact ((HC.set hge _ _).set hge _ _).drew | exact ((HC.drew.set hge _ _).set hge _ _) | exact (HC.set hge _ _).set hge _ _⟩
set_option maxRecDepth 4000 in
set_option maxHeartbeats 1000000 in
theorem make_any (n d : Int) (h1 : -9223372036854775808 ≤ n) (h2 : n ≤ 9223372036854775807) (k1 : -9223372036854775808 ≤ d) (k2 : d ≤ 9223372036854775807) (h0 : ¬ d = 0) (w : World) (ra rb : Int) (err : Value)
    (HB : ∀ w1 : World, Below w.heap.size w w1 → Calls Tryz.prog 78 #[.bool (decide (n < 0) != decide (d < 0)), W2 (rn n.natAbs d.natAbs), W2 (rd n.natAbs d.natAbs)] w1 fun e w' => e = .returned (.tuple #[.agg #[.int .i64 ra, .int .i64 rb], err]) ∧ Below w1.heap.size w1 w') : Calls Tryz.prog 55 #[.int .i64 n, .int .i64 d] w fun e w' => e = .returned (.tuple #[.agg #[.int .i64 ra, .int .i64 rb], err]) ∧ Below w.heap.size w w' := by
  have HN := hidb (fun w => size_any n h1 h2 w)
  have HD := hidb (fun w => size_any d k1 k2 w)
  have HG := hidb (fun w => divisor_any n.natAbs d.natAbs (by omega) (by omega) w)
  have hg : 0 < Nat.gcd n.natAbs d.natAbs := Nat.gcd_pos_of_pos_right _ (by omega)
  unfold rn rd at HB
  have HC : Gr w (w.alloc (.cells #[.int .i64 0, .int .i64 0] 50)) := (Gr.refl w).alloc _
  have RA := At.new2 w (.int .i64 0) (.int .i64 0) 50
  have cn : (n.natAbs : Int) < 18446744073709551616 := by omega
  have cd : (d.natAbs : Int) < 18446744073709551616 := by omega
  have dn1 : n.natAbs / Nat.gcd n.natAbs d.natAbs ≤ n.natAbs := Nat.div_le_self _ _
  have dd1 : d.natAbs / Nat.gcd n.natAbs d.natAbs ≤ d.natAbs := Nat.div_le_self _ _
  generalize Nat.gcd n.natAbs d.natAbs = c at *
  generalize n.natAbs = x at *
  generalize d.natAbs = y at *
  have hc0 : ¬ (c : Int) = 0 := by omega
  replace HB := hidb HB
  have t1 : (x : Int).tdiv (c : Int) = ((x / c : Nat) : Int) := rfl
  have t2 : (y : Int).tdiv (c : Int) = ((y / c : Nat) : Int) := rfl
  generalize x / c = p at *
  generalize y / c = q at *
  have BP := hidb (show p < 18446744073709551616 by omega)
  have BQ := hidb (show q < 18446744073709551616 by omega)
  clear dn1 dd1 hg cn cd
  have HB2 := hidb (show ∀ w1, Gr w w1 → Calls Tryz.prog 78 #[.bool (!(decide (n < 0) == decide (d < 0))), .agg #[.int .u64 0, .int .u64 (IntKind.u64.wrap (p : Int))], .agg #[.int .u64 0, .int .u64 (IntKind.u64.wrap (q : Int))]] w1 fun e w' => e = .returned (.tuple #[.agg #[.int .i64 ra, .int .i64 rb], err]) ∧ Below w1.heap.size w1 w' from by
    intro w1 k
    have := HB.out w1 k
    rw [w2_word BP.out, w2_word BQ.out] at this
    exact this)
  clear HB BP BQ
  go_enter Tryz.func55, Tryz.ntmps55
  go_wp2_with fail
  refine (HN.out _).mono ?_
  rintro e w1 ⟨rfl, hB⟩
  replace HC := Gr.step HC hB
  replace RA := At.below hB RA
  clear hB
  go_wp2_with fail
  refine (HD.out _).mono ?_
  rintro e w2 ⟨rfl, hB⟩
  replace HC := Gr.step HC hB
  replace RA := At.below hB RA
  clear hB
  go_wp2_with fail
  refine (HG.out _).mono ?_
  rintro e w3 ⟨rfl, hB⟩
  replace HC := Gr.step HC hB
  replace RA := At.below hB RA
  clear hB HG HN HD
  go_wp2_with fail
  go_region_held (fun _ => True)
    (trivial)
    ((go_at_call 78; refine (HB2.out _ (by ((with_reducible repeat' (first | assumption | refine Gr.drew ?_ | refine Gr.alloc ?_ _ | refine Gr.set ?_ (by first | omega | (simp; omega)) _ _ | exact Gr.refl _)); done))).mono ?_; rintro e w5 ⟨rfl, hB⟩; (with_reducible first | replace hB := undr hB | skip); replace HC := Gr.step HC hB; replace RA := At.below hB RA; clear hB; obtain ⟨r0, r1⟩ := RA.c2; obtain ⟨f0, f1⟩ := RA.f2))
  all_goals go_wp2
  all_goals exact bodyPost_ret (v := .tuple #[.agg #[.int .i64 ra, .int .i64 rb], err]) (by simp [results, Tryz.results55, go_sem, r0, r1]) rfl ⟨rfl, (HC.set (Nat.le_refl _) _ _).set (Nat.le_refl _) _ _⟩
theorem make_ok (n d : Int) (h1 : -9223372036854775808 ≤ n) (h2 : n ≤ 9223372036854775807) (k1 : -9223372036854775808 ≤ d) (k2 : d ≤ 9223372036854775807) (h0 : ¬ d = 0) (hf : fits (rn n.natAbs d.natAbs) (rd n.natAbs d.natAbs)) (w : World) : Calls Tryz.prog 55 #[.int .i64 n, .int .i64 d] w fun e w' => e = .returned (.tuple #[frV (decide (n < 0) != decide (d < 0)) (rn n.natAbs d.natAbs) (rd n.natAbs d.natAbs), .nilIface]) ∧ Below w.heap.size w w' :=
  make_any n d h1 h2 k1 k2 h0 w _ _ _ (fun w1 _ => bounded_ok _ _ _ hf.1 hf.2 w1)
theorem make_no (g : Nat → Addr) (n d : Int) (h1 : -9223372036854775808 ≤ n) (h2 : n ≤ 9223372036854775807) (k1 : -9223372036854775808 ≤ d) (k2 : d ≤ 9223372036854775807) (h0 : ¬ d = 0) (hf : ¬ fits (rn n.natAbs d.natAbs) (rd n.natAbs d.natAbs)) (w : World) (hl : Laid w g) : Calls Tryz.prog 55 #[.int .i64 n, .int .i64 d] w fun e w' => e = .returned (.tuple #[fr0, errV g 1]) ∧ Below w.heap.size w w' :=
  make_any n d h1 h2 k1 k2 h0 w _ _ _ (fun w1 hb => bounded_no g _ _ _ (by have := rn_le n.natAbs d.natAbs; omega) (by have := rd_le n.natAbs d.natAbs; omega) hf w1 (hl.below hb))
end Go.Proofs.YtddnebgnohlchaaGreatDoor
