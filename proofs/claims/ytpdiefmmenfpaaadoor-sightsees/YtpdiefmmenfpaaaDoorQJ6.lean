/-
  grain.Cmp.; grain.bounded, grain.Make.; grain.Make.; mercatorref1.Reduced.
-/
import Derived.Test.YtpdiefmmenfpaaaDoorQJ5
namespace Go.Proofs.YtpdiefmmenfpaaaDoor
open Go.RowKit BG
attribute [local go_sem ↓] Go.wp_at_zero Go.wp_at_succ

theorem sg_ci (x y : Int) : sg (x + -y) = ci x y := by
  unfold sg ci
  by_cases h1 : x < y
  · rw [if_pos (by omega), if_pos h1]
  · rw [if_neg (by omega), if_neg h1]
    by_cases h2 : y < x
    · rw [if_neg (by omega), if_pos h2]
    · rw [if_pos (by omega), if_neg h2]
theorem s_cmp {W : World} {A B C : Nat} {h l c d a b : Value} (hL : At W C [h, l]) (hQ : At W B [c, d]) (hP : At W A [a, b]) : W.cell? ⟨C, 0, none⟩ = some h ∧ W.cell? ⟨C, 1, none⟩ = some l ∧ W.cell? ⟨B, 0, none⟩ = some c ∧ W.cell? ⟨A, 1, none⟩ = some b := ⟨hL.c2.1, hL.c2.2, hQ.c2.1, hP.c2.2⟩
end Go.Proofs.YtpdiefmmenfpaaaDoor
namespace Go.Proofs.YtpdiefmmenfpaaaDoor
open Go.RowKit BG
attribute [local go_sem ↓] Go.wp_at_zero Go.wp_at_succ

/-- A fraction, its sign told apart. -/
abbrev frV (s : Bool) (p q : Nat) : Value := .agg #[.int .i64 (if s then -(p : Int) else p), .int .i64 q]
abbrev fr0 : Value := .agg #[.int .i64 0, .int .i64 0]
theorem hi2_small {p : Nat} (h : p ≤ 4611686018427387904) : hi2 (p : Int) = 0 ∧ lo2 (p : Int) = p := by unfold hi2 lo2; omega
theorem wide_big {p : Nat} (hp : p < 340282366920938463463374607431768211456) (h : ¬ p ≤ 4611686018427387904) : ¬ hi2 (p : Int) = 0 ∨ hi2 (p : Int) = 0 ∧ (4611686018427387904 : Int) < lo2 (p : Int) := by unfold hi2 lo2; omega
set_option maxHeartbeats 1000000 in
theorem bounded_ok (s : Bool) (p q : Nat) (hp : p ≤ 4611686018427387904) (hq : q ≤ 4611686018427387904) (w : World) : Calls Tryd.prog 65 #[.bool s, W2 p, W2 q] w fun e w' => e = .returned (.tuple #[frV s p q, .nilIface]) ∧ Below w.heap.size w w' := by
  obtain ⟨e1, e2⟩ := hi2_small hp
  obtain ⟨e3, e4⟩ := hi2_small hq
  unfold W2
  rw [e1, e2, e3, e4]
  clear e1 e2 e3 e4
  cases s
  · go_enter Tryd.func65, Tryd.ntmps65
    go_wp2
    exact bodyPost_ret (v := .tuple #[frV false p q, .nilIface]) (by simp [results, Tryd.results65, go_sem]) rfl ⟨rfl, ((((Gr.refl w).alloc _).alloc _).alloc _)⟩
  · go_enter Tryd.func65, Tryd.ntmps65
    go_wp2
    exact bodyPost_ret (v := .tuple #[frV true p q, .nilIface]) (by simp [results, Tryd.results65, go_sem]) rfl ⟨rfl, ((((Gr.refl w).alloc _).alloc _).alloc _)⟩
theorem keep2 {W : World} {b c : Nat} {u x y : Value} (h : W.cell? ⟨b, 0, none⟩ = some u) (hc : ¬ c = b) : ((W.setCell ⟨c, 0, none⟩ x).setCell ⟨c, 1, none⟩ y).cell? ⟨b, 0, none⟩ = some u := by
  have hc' : ¬ b = c := fun e => hc e.symm
  simp [go_sem, h]
set_option maxHeartbeats 1000000 in
theorem bounded_words (g : Nat → Addr) (s : Bool) (nh nl dh dl : Int) (a1 : 0 ≤ nh) (a2 : nh < 18446744073709551616) (_b1 : 0 ≤ nl) (_b2 : nl < 18446744073709551616) (c1 : 0 ≤ dh) (c2 : dh < 18446744073709551616) (_d1 : 0 ≤ dl) (_d2 : dl < 18446744073709551616)
    (h : ¬ nh = 0 ∨ nh = 0 ∧ 4611686018427387904 < nl ∨ nh = 0 ∧ nl ≤ 4611686018427387904 ∧ ¬ dh = 0 ∨ nh = 0 ∧ nl ≤ 4611686018427387904 ∧ dh = 0 ∧ 4611686018427387904 < dl) (w : World) (hl : Laid w g) : Calls Tryd.prog 65 #[.bool s, .agg #[.int .u64 nh, .int .u64 nl], .agg #[.int .u64 dh, .int .u64 dl]] w fun e w' => e = .returned (.tuple #[fr0, errV g 1]) ∧ Below w.heap.size w w' := by
  have cE : (((w.alloc (.cells #[.int .u64 nh, .int .u64 nl] 112)).alloc (.cells #[.int .u64 dh, .int .u64 dl] 112)).alloc (.cells #[.int .i64 0, .int .i64 0] 28)).cell? ⟨2, 0, none⟩ = some (errV g 1) := (((hl.alloc _).alloc _).alloc _).cell 1 (by decide)
  have HC : Gr w (((w.alloc (.cells #[.int .u64 nh, .int .u64 nl] 112)).alloc (.cells #[.int .u64 dh, .int .u64 dl] 112)).alloc (.cells #[.int .i64 0, .int .i64 0] 28)) := (((Gr.refl w).alloc _).alloc _).alloc _
  have RA := At.ny2 (W := w) (.cells #[.int .u64 nh, .int .u64 nl] 112) (.cells #[.int .u64 dh, .int .u64 dl] 112) (.int .i64 0) (.int .i64 0) 28
  have hlt : 2 < w.heap.size := lt_of_cell (hl.cell 1 (by decide))
  have hne : ¬ w.heap.size + 1 + 1 = 2 := by omega
  have hge : w.heap.size ≤ w.heap.size + 1 + 1 := by omega
  clear hl hlt
  rcases h with h | ⟨h, k⟩ | ⟨h, k, l⟩ | ⟨h, k, l, m⟩
  · go_enter Tryd.func65, Tryd.ntmps65
    go_wp2_with fail
    generalize ((w.alloc (.cells #[.int .u64 nh, .int .u64 nl] 112)).alloc (.cells #[.int .u64 dh, .int .u64 dl] 112)).alloc (.cells #[.int .i64 0, .int .i64 0] 28) = w3 at *
    obtain ⟨r0, r1⟩ := RA.c2
    obtain ⟨f0, f1⟩ := RA.f2
    go_region_held (fun w' => w'.cell? ⟨2, 0, none⟩ = some (errV g 1))
      (first | (with_reducible assumption) | exact cE | exact keep2 cE hne)
      (fail)
    go_wp2
    exact bodyPost_ret (v := .tuple #[fr0, errV g 1]) (by simp [results, Tryd.results65, go_sem, r0, r1]) rfl ⟨rfl, by first | exact ((HC.set hge _ _).set hge _ _).drew | exact ((HC.drew.set hge _ _).set hge _ _) | exact (HC.set hge _ _).set hge _ _⟩
  · subst h
    go_enter Tryd.func65, Tryd.ntmps65
    go_wp2_with fail
    generalize ((w.alloc (.cells #[.int .u64 0, .int .u64 nl] 112)).alloc (.cells #[.int .u64 dh, .int .u64 dl] 112)).alloc (.cells #[.int .i64 0, .int .i64 0] 28) = w3 at *
    obtain ⟨r0, r1⟩ := RA.c2
    obtain ⟨f0, f1⟩ := RA.f2
    go_region_held (fun w' => w'.cell? ⟨2, 0, none⟩ = some (errV g 1))
      (first | (with_reducible assumption) | exact cE | exact keep2 cE hne)
      (fail)
    go_wp2
    exact bodyPost_ret (v := .tuple #[fr0, errV g 1]) (by simp [results, Tryd.results65, go_sem, r0, r1]) rfl ⟨rfl, by first | exact ((HC.set hge _ _).set hge _ _).drew | exact ((HC.drew.set hge _ _).set hge _ _) | exact (HC.set hge _ _).set hge _ _⟩
  · subst h
    go_enter Tryd.func65, Tryd.ntmps65
    go_wp2_with fail
    generalize ((w.alloc (.cells #[.int .u64 0, .int .u64 nl] 112)).alloc (.cells #[.int .u64 dh, .int .u64 dl] 112)).alloc (.cells #[.int .i64 0, .int .i64 0] 28) = w3 at *
    obtain ⟨r0, r1⟩ := RA.c2
    obtain ⟨f0, f1⟩ := RA.f2
    go_region_held (fun w' => w'.cell? ⟨2, 0, none⟩ = some (errV g 1))
      (first | (with_reducible assumption) | exact cE | exact keep2 cE hne)
      (fail)
    go_wp2
    exact bodyPost_ret (v := .tuple #[fr0, errV g 1]) (by simp [results, Tryd.results65, go_sem, r0, r1]) rfl ⟨rfl, by first | exact ((HC.set hge _ _).set hge _ _).drew | exact ((HC.drew.set hge _ _).set hge _ _) | exact (HC.set hge _ _).set hge _ _⟩
  · subst h l
    go_enter Tryd.func65, Tryd.ntmps65
    go_wp2_with fail
    generalize ((w.alloc (.cells #[.int .u64 0, .int .u64 nl] 112)).alloc (.cells #[.int .u64 0, .int .u64 dl] 112)).alloc (.cells #[.int .i64 0, .int .i64 0] 28) = w3 at *
    obtain ⟨r0, r1⟩ := RA.c2
    obtain ⟨f0, f1⟩ := RA.f2
    go_region_held (fun w' => w'.cell? ⟨2, 0, none⟩ = some (errV g 1))
      (first | (with_reducible assumption) | exact cE | exact keep2 cE hne)
      (fail)
    go_wp2
    exact bodyPost_ret (v := .tuple #[fr0, errV g 1]) (by simp [results, Tryd.results65, go_sem, r0, r1]) rfl ⟨rfl, by first | exact ((HC.set hge _ _).set hge _ _).drew | exact ((HC.drew.set hge _ _).set hge _ _) | exact (HC.set hge _ _).set hge _ _⟩
end Go.Proofs.YtpdiefmmenfpaaaDoor
namespace Go.Proofs.YtpdiefmmenfpaaaDoor
open Go.RowKit BG
attribute [local go_sem ↓] Go.wp_at_zero Go.wp_at_succ

/-- The two parts fit. -/
def fits (p q : Nat) : Prop := p ≤ 4611686018427387904 ∧ q ≤ 4611686018427387904
instance (p q : Nat) : Decidable (fits p q) := by unfold fits; infer_instance
theorem bounded_no (g : Nat → Addr) (s : Bool) (p q : Nat) (hp : p < 340282366920938463463374607431768211456) (hq : q < 340282366920938463463374607431768211456) (h : ¬ fits p q) (w : World) (hl : Laid w g) : Calls Tryd.prog 65 #[.bool s, W2 p, W2 q] w fun e w' => e = .returned (.tuple #[fr0, errV g 1]) ∧ Below w.heap.size w w' := by
  refine bounded_words g s (hi2 p) (lo2 p) (hi2 q) (lo2 q) (hi2_0 _) (hi2_1 _) (lo2_0 _) (lo2_1 _) (hi2_0 _) (hi2_1 _) (lo2_0 _) (lo2_1 _) ?_ w hl
  unfold fits at h
  by_cases hp' : p ≤ 4611686018427387904
  · have := hi2_small hp'
    have := wide_big hq (fun k => h ⟨hp', k⟩)
    omega
  · have := wide_big hp hp'
    omega
theorem w2_word {p : Nat} (h : p < 18446744073709551616) : W2 (p : Int) = .agg #[.int .u64 0, .int .u64 (IntKind.u64.wrap (p : Int))] := by
  have e1 : hi2 (p : Int) = 0 := by unfold hi2; omega
  have e2 : lo2 (p : Int) = p := by unfold lo2; omega
  have e3 : IntKind.u64.wrap (p : Int) = p := by rw [IntKind.wrap_u64]; omega
  unfold W2
  rw [e1, e2, e3]
theorem make_zero (g : Nat → Addr) (n : Int) (w : World) (hl : Laid w g) : Calls Tryd.prog 41 #[.int .i64 n, .int .i64 0] w fun e w' => e = .returned (.tuple #[fr0, errV g 2]) ∧ Below w.heap.size w w' := by
  have cE : (w.alloc (.cells #[.int .i64 0, .int .i64 0] 28)).cell? ⟨1, 0, none⟩ = some (errV g 2) := (hl.alloc _).cell 2 (by decide)
  have HC : Gr w (w.alloc (.cells #[.int .i64 0, .int .i64 0] 28)) := (Gr.refl w).alloc _
  have RA := At.new2 w (.int .i64 0) (.int .i64 0) 28
  have hlt : 1 < w.heap.size := lt_of_cell (hl.cell 2 (by decide))
  have hne : ¬ w.heap.size = 1 := by omega
  have hge : w.heap.size ≤ w.heap.size := Nat.le_refl _
  clear hl hlt
  go_enter Tryd.func41, Tryd.ntmps41
  go_wp2_with fail
  generalize w.alloc (.cells #[.int .i64 0, .int .i64 0] 28) = w3 at *
  obtain ⟨r0, r1⟩ := RA.c2
  obtain ⟨f0, f1⟩ := RA.f2
  go_region_held (fun w' => w'.cell? ⟨1, 0, none⟩ = some (errV g 2))
    (first | (with_reducible assumption) | exact cE | exact keep2 cE hne)
    (fail)
  go_wp2
  exact bodyPost_ret (v := .tuple #[fr0, errV g 2]) (by simp [results, Tryd.results41, go_sem, r0, r1]) rfl ⟨rfl, by first | exact ((HC.set hge _ _).set hge _ _).drew | exact ((HC.drew.set hge _ _).set hge _ _) | exact (HC.set hge _ _).set hge _ _⟩
set_option maxRecDepth 4000 in
set_option maxHeartbeats 1000000 in
theorem make_any (n d : Int) (h1 : -9223372036854775808 ≤ n) (h2 : n ≤ 9223372036854775807) (k1 : -9223372036854775808 ≤ d) (k2 : d ≤ 9223372036854775807) (h0 : ¬ d = 0) (w : World) (ra rb : Int) (err : Value)
    (HB : ∀ w1 : World, Below w.heap.size w w1 → Calls Tryd.prog 65 #[.bool (decide (n < 0) != decide (d < 0)), W2 (rn n.natAbs d.natAbs), W2 (rd n.natAbs d.natAbs)] w1 fun e w' => e = .returned (.tuple #[.agg #[.int .i64 ra, .int .i64 rb], err]) ∧ Below w1.heap.size w1 w') : Calls Tryd.prog 41 #[.int .i64 n, .int .i64 d] w fun e w' => e = .returned (.tuple #[.agg #[.int .i64 ra, .int .i64 rb], err]) ∧ Below w.heap.size w w' := by
  have HN := hidb (fun w => size_any n h1 h2 w)
  have HD := hidb (fun w => size_any d k1 k2 w)
  have HG := hidb (fun w => divisor_any n.natAbs d.natAbs (by omega) (by omega) w)
  have hg : 0 < Nat.gcd n.natAbs d.natAbs := Nat.gcd_pos_of_pos_right _ (by omega)
  unfold rn rd at HB
  have HC : Gr w (w.alloc (.cells #[.int .i64 0, .int .i64 0] 28)) := (Gr.refl w).alloc _
  have RA := At.new2 w (.int .i64 0) (.int .i64 0) 28
  have cn : (n.natAbs : Int) < 18446744073709551616 := by omega
  have cd : (d.natAbs : Int) < 18446744073709551616 := by omega
  have dn1 : n.natAbs / Nat.gcd n.natAbs d.natAbs ≤ n.natAbs := Nat.div_le_self _ _
  have dd1 : d.natAbs / Nat.gcd n.natAbs d.natAbs ≤ d.natAbs := Nat.div_le_self _ _
  generalize Nat.gcd n.natAbs d.natAbs = c at *
  generalize n.natAbs = x at *
  generalize d.natAbs = y at *
  have hc0 : ¬ (c : Int) = 0 := by omega
  replace HB := hidb HB
  have t1 : (x : Int).tdiv (c : Int) = ((x / c : Nat) : Int) := rfl
  have t2 : (y : Int).tdiv (c : Int) = ((y / c : Nat) : Int) := rfl
  generalize x / c = p at *
  generalize y / c = q at *
  have BP := hidb (show p < 18446744073709551616 by omega)
  have BQ := hidb (show q < 18446744073709551616 by omega)
  clear dn1 dd1 hg cn cd
  have HB2 := hidb (show ∀ w1, Gr w w1 → Calls Tryd.prog 65 #[.bool (!(decide (n < 0) == decide (d < 0))), .agg #[.int .u64 0, .int .u64 (IntKind.u64.wrap (p : Int))], .agg #[.int .u64 0, .int .u64 (IntKind.u64.wrap (q : Int))]] w1 fun e w' => e = .returned (.tuple #[.agg #[.int .i64 ra, .int .i64 rb], err]) ∧ Below w1.heap.size w1 w' from by
    intro w1 k
    have := HB.out w1 k
    rw [w2_word BP.out, w2_word BQ.out] at this
    exact this)
  clear HB BP BQ
  go_enter Tryd.func41, Tryd.ntmps41
  go_wp2_with fail
  refine (HN.out _).mono ?_
  rintro e w1 ⟨rfl, hB⟩
  replace HC := Gr.step HC hB
  replace RA := At.below hB RA
  clear hB
  go_wp2_with fail
  refine (HD.out _).mono ?_
  rintro e w2 ⟨rfl, hB⟩
  replace HC := Gr.step HC hB
  replace RA := At.below hB RA
  clear hB
  go_wp2_with fail
  refine (HG.out _).mono ?_
  rintro e w3 ⟨rfl, hB⟩
  replace HC := Gr.step HC hB
  replace RA := At.below hB RA
  clear hB HG HN HD
  go_wp2_with fail
  go_region_held (fun _ => True)
    (trivial)
    ((go_at_call 65; refine (HB2.out _ (by ((with_reducible repeat' (first | assumption | refine Gr.drew ?_ | refine Gr.alloc ?_ _ | refine Gr.set ?_ (by first | omega | (simp; omega)) _ _ | exact Gr.refl _)); done))).mono ?_; rintro e w5 ⟨rfl, hB⟩; (with_reducible first | replace hB := undr hB | skip); replace HC := Gr.step HC hB; replace RA := At.below hB RA; clear hB; obtain ⟨r0, r1⟩ := RA.c2; obtain ⟨f0, f1⟩ := RA.f2))
  all_goals go_wp2
  all_goals exact bodyPost_ret (v := .tuple #[.agg #[.int .i64 ra, .int .i64 rb], err]) (by simp [results, Tryd.results41, go_sem, r0, r1]) rfl ⟨rfl, (HC.set (Nat.le_refl _) _ _).set (Nat.le_refl _) _ _⟩
theorem make_ok (n d : Int) (h1 : -9223372036854775808 ≤ n) (h2 : n ≤ 9223372036854775807) (k1 : -9223372036854775808 ≤ d) (k2 : d ≤ 9223372036854775807) (h0 : ¬ d = 0) (hf : fits (rn n.natAbs d.natAbs) (rd n.natAbs d.natAbs)) (w : World) : Calls Tryd.prog 41 #[.int .i64 n, .int .i64 d] w fun e w' => e = .returned (.tuple #[frV (decide (n < 0) != decide (d < 0)) (rn n.natAbs d.natAbs) (rd n.natAbs d.natAbs), .nilIface]) ∧ Below w.heap.size w w' :=
  make_any n d h1 h2 k1 k2 h0 w _ _ _ (fun w1 _ => bounded_ok _ _ _ hf.1 hf.2 w1)
theorem make_no (g : Nat → Addr) (n d : Int) (h1 : -9223372036854775808 ≤ n) (h2 : n ≤ 9223372036854775807) (k1 : -9223372036854775808 ≤ d) (k2 : d ≤ 9223372036854775807) (h0 : ¬ d = 0) (hf : ¬ fits (rn n.natAbs d.natAbs) (rd n.natAbs d.natAbs)) (w : World) (hl : Laid w g) : Calls Tryd.prog 41 #[.int .i64 n, .int .i64 d] w fun e w' => e = .returned (.tuple #[fr0, errV g 1]) ∧ Below w.heap.size w w' :=
  make_any n d h1 h2 k1 k2 h0 w _ _ _ (fun w1 hb => bounded_no g _ _ _ (by have := rn_le n.natAbs d.natAbs; omega) (by have := rd_le n.natAbs d.natAbs; omega) hf w1 (hl.below hb))
end Go.Proofs.YtpdiefmmenfpaaaDoor
namespace Go.Proofs.YtpdiefmmenfpaaaDoor
open Go.RowKit BG
attribute [local go_sem ↓] Go.wp_at_zero Go.wp_at_succ

theorem bigOf_62 (w : World) : Calls Tryd.prog 51 #[.int .i64 4611686018427387904] w fun e w' => ∃ v, e = .returned v ∧ Bg w' v (dn 4611686018427387904) ∧ Below w.heap.size w w' := bigOf_any 4611686018427387904 (by decide) w
theorem M_lid : 4611686018427387904 ≤ 2 * lid := by decide +kernel
theorem cm_gt {m n : Nat} (h : n < m) : 0 < cm m n := by unfold cm; rw [if_neg (by omega), if_pos h]; decide
theorem cm_le {m n : Nat} (h : m ≤ n) : ¬ 0 < cm m n := by unfold cm; split <;> (try split) <;> omega
set_option maxHeartbeats 1000000 in
theorem reduced_any {w : World} {m n : Bool} {u v : Value} {x y : Int} (lx : x.natAbs ≤ 2 * lid) (ly : y.natAbs ≤ 2 * lid) (hy : ¬ y = 0) (h : Sg w m u x) (k : Sg w n v y) (hf : fits (rn x.natAbs y.natAbs) (rd x.natAbs y.natAbs)) : Calls Tryd.prog 25 #[.agg #[.bool m, u], .agg #[.bool n, v]] w fun e w' => e = .returned (.tuple #[frV (decide (x < 0) != decide (y < 0)) (rn x.natAbs y.natAbs) (rd x.natAbs y.natAbs), .bool true]) ∧ Below w.heap.size w w' := by
  obtain ⟨hb, hm⟩ := h
  obtain ⟨kb, hn⟩ := k
  rw [← hm, ← hn]
  clear hm hn
  have hg : 0 < Nat.gcd x.natAbs y.natAbs := Nat.gcd_pos_of_pos_right _ (by omega)
  have hgl : Nat.gcd x.natAbs y.natAbs ≤ y.natAbs := Nat.gcd_le_right _ (by omega)
  obtain ⟨f1, f2⟩ := hf
  unfold rn at *
  unfold rd at *
  have lg : Nat.gcd x.natAbs y.natAbs ≤ 2 * lid := Nat.le_trans hgl ly
  have HB := hidb hb
  have KB := hidb kb
  have HG := hidb (fun w (a : Bg w u (dn x.natAbs)) (b : Bg w v (dn y.natAbs)) => bigGcd_any lx ly a b)
  have HP := hidb (fun w t (a : Bg w u (dn x.natAbs)) (b : Bg w t (dn (Nat.gcd x.natAbs y.natAbs))) => part_dn lx lg hg a b)
  have HQ := hidb (fun w t (a : Bg w v (dn y.natAbs)) (b : Bg w t (dn (Nat.gcd x.natAbs y.natAbs))) => part_dn ly lg hg a b)
  have HC1 := hidb (fun w s t (a : Bg w s (dn (x.natAbs / Nat.gcd x.natAbs y.natAbs))) (b : Bg w t (dn 4611686018427387904)) => cmp_dn (m := x.natAbs / Nat.gcd x.natAbs y.natAbs) (n := 4611686018427387904) (by have := M_lid; omega) (by have := M_lid; omega) a b)
  have HC2 := hidb (fun w s t (a : Bg w s (dn (y.natAbs / Nat.gcd x.natAbs y.natAbs))) (b : Bg w t (dn 4611686018427387904)) => cmp_dn (m := y.natAbs / Nat.gcd x.natAbs y.natAbs) (n := 4611686018427387904) (by have := M_lid; omega) (by have := M_lid; omega) a b)
  have HI1 := hidb (fun w s (a : Bg w s (dn (x.natAbs / Nat.gcd x.natAbs y.natAbs))) => bigInt_any f1 a)
  have HI2 := hidb (fun w s (a : Bg w s (dn (y.natAbs / Nat.gcd x.natAbs y.natAbs))) => bigInt_any f2 a)
  have i1 : ¬ 0 < cm (x.natAbs / Nat.gcd x.natAbs y.natAbs) 4611686018427387904 := by unfold cm; split <;> (try split) <;> omega
  have i2 : ¬ 0 < cm (y.natAbs / Nat.gcd x.natAbs y.natAbs) 4611686018427387904 := by unfold cm; split <;> (try split) <;> omega
  have F1 := hidb f1
  have F2 := hidb f2
  clear hb kb hg hgl lg lx ly f1 f2
  generalize x.natAbs / Nat.gcd x.natAbs y.natAbs = p at *
  generalize y.natAbs / Nat.gcd x.natAbs y.natAbs = q at *
  generalize Nat.gcd x.natAbs y.natAbs = gg at *
  generalize cm p 4611686018427387904 = cp at *
  generalize cm q 4611686018427387904 = cq at *
  have BO := hidb bigOf_62
  have HC : Gr w (((w.alloc (.cells #[.bool m, u] 61)).alloc (.cells #[.bool n, v] 61)).alloc (.cells #[.int .i64 0, .int .i64 0] 28)) := (((Gr.refl w).alloc _).alloc _).alloc _
  have PA := ((At.new2 w (.bool m) u 61).alloc (.cells #[.bool n, v] 61)).alloc (.cells #[.int .i64 0, .int .i64 0] 28)
  have QA := (At.nx2 (W := w) (.cells #[.bool m, u] 61) (.bool n) v 61).alloc (.cells #[.int .i64 0, .int .i64 0] 28)
  have RA := At.ny2 (W := w) (.cells #[.bool m, u] 61) (.cells #[.bool n, v] 61) (.int .i64 0) (.int .i64 0) 28
  go_enter Tryd.func25, Tryd.ntmps25
  go_wp2_with fail
  refine (HG.out _ (HB.out.below HC.out) (KB.out.below HC.out)).mono ?_
  rintro e w1 ⟨t, rfl, ht, hB⟩
  replace HC := Gr.step HC hB
  replace PA := At.below hB PA
  replace QA := At.below hB QA
  replace RA := At.below hB RA
  clear hB HG
  have HT := hidb ht
  clear ht
  obtain ⟨a0, a1⟩ := PA.c2
  obtain ⟨b0, b1⟩ := QA.c2
  go_wp2_with fail
  refine (HP.out _ _ (HB.out.below HC.out) HT.out).mono ?_
  rintro e w2 ⟨t1, r1, rfl, h1, _, hB⟩
  replace HC := Gr.step HC hB
  replace PA := At.below hB PA
  replace QA := At.below hB QA
  replace RA := At.below hB RA
  have H1 := hidb h1
  replace HT := hidb (HT.out.below hB)
  clear hB HP h1 a0 a1 b0 b1
  obtain ⟨a0, a1⟩ := PA.c2
  obtain ⟨b0, b1⟩ := QA.c2
  go_wp2_with fail
  refine (HQ.out _ _ (KB.out.below HC.out) HT.out).mono ?_
  rintro e w3 ⟨t2, r2, rfl, h2, _, hB⟩
  replace HC := Gr.step HC hB
  replace PA := At.below hB PA
  replace QA := At.below hB QA
  replace RA := At.below hB RA
  have H2 := hidb h2
  replace H1 := hidb (H1.out.below hB)
  clear hB HQ h2 HT a0 a1 b0 b1
  go_wp2_with fail
  refine (BO.out _).mono ?_
  rintro e w4 ⟨t3, rfl, h3, hB⟩
  replace HC := Gr.step HC hB
  replace PA := At.below hB PA
  replace QA := At.below hB QA
  replace RA := At.below hB RA
  have H3 := hidb h3
  replace H1 := hidb (H1.out.below hB)
  replace H2 := hidb (H2.out.below hB)
  clear hB BO h3
  go_wp2_with fail
  refine (HC1.out _ _ _ H1.out H3.out).mono ?_
  rintro e w5 ⟨rfl, hB⟩
  replace HC := Gr.step HC hB
  replace PA := At.below hB PA
  replace QA := At.below hB QA
  replace RA := At.below hB RA
  replace H1 := hidb (H1.out.below hB)
  replace H2 := hidb (H2.out.below hB)
  replace H3 := hidb (H3.out.below hB)
  clear hB HC1
  go_wp2_with fail
  refine (HC2.out _ _ _ H2.out H3.out).mono ?_
  rintro e w6 ⟨rfl, hB⟩
  replace HC := Gr.step HC hB
  replace PA := At.below hB PA
  replace QA := At.below hB QA
  replace RA := At.below hB RA
  replace H1 := hidb (H1.out.below hB)
  replace H2 := hidb (H2.out.below hB)
  clear hB HC2 H3
  go_wp2_with fail
  refine (HI1.out _ _ H1.out).mono ?_
  rintro e w7 ⟨rfl, rfl⟩
  go_wp2_with fail
  refine (HI2.out _ _ H2.out).mono ?_
  rintro e w8 ⟨rfl, rfl⟩
  clear HI1 HI2 H1 H2 HB KB
  obtain ⟨a0, a1⟩ := PA.c2
  obtain ⟨b0, b1⟩ := QA.c2
  obtain ⟨c0, c1⟩ := RA.c2
  obtain ⟨f0, f1⟩ := RA.f2
  have g1 := F1.out
  have g2 := F2.out
  clear F1 F2
  have hge : w.heap.size ≤ w.heap.size + 1 + 1 := by omega
  cases m <;> cases n
  all_goals go_wp2
  all_goals first
    | exact bodyPost_ret (v := .tuple #[frV false p q, .bool true]) (by simp [results, Tryd.results25, go_sem, c0, c1]) rfl ⟨rfl, (HC.set hge _ _).set hge _ _⟩
    | exact bodyPost_ret (v := .tuple #[frV true p q, .bool true]) (by simp [results, Tryd.results25, go_sem, c0, c1]) rfl ⟨rfl, (HC.set hge _ _).set hge _ _⟩
set_option maxHeartbeats 1000000 in
theorem reduced_no {w : World} {m n : Bool} {u v : Value} {x y : Int} (lx : x.natAbs ≤ 2 * lid) (ly : y.natAbs ≤ 2 * lid) (hy : ¬ y = 0) (h : Sg w m u x) (k : Sg w n v y) (hf : ¬ fits (rn x.natAbs y.natAbs) (rd x.natAbs y.natAbs)) : Calls Tryd.prog 25 #[.agg #[.bool m, u], .agg #[.bool n, v]] w fun e w' => e = .returned (.tuple #[fr0, .bool false]) ∧ Below w.heap.size w w' := by
  obtain ⟨hb, hm⟩ := h
  obtain ⟨kb, hn⟩ := k
  clear hm hn
  have hg : 0 < Nat.gcd x.natAbs y.natAbs := Nat.gcd_pos_of_pos_right _ (by omega)
  have hgl : Nat.gcd x.natAbs y.natAbs ≤ y.natAbs := Nat.gcd_le_right _ (by omega)
  unfold fits rn rd at hf
  have lp : x.natAbs / Nat.gcd x.natAbs y.natAbs ≤ x.natAbs := Nat.div_le_self _ _
  have lq : y.natAbs / Nat.gcd x.natAbs y.natAbs ≤ y.natAbs := Nat.div_le_self _ _
  have lg : Nat.gcd x.natAbs y.natAbs ≤ 2 * lid := Nat.le_trans hgl ly
  have HB := hidb hb
  have KB := hidb kb
  have HG := hidb (fun w (a : Bg w u (dn x.natAbs)) (b : Bg w v (dn y.natAbs)) => bigGcd_any lx ly a b)
  have HP := hidb (fun w t (a : Bg w u (dn x.natAbs)) (b : Bg w t (dn (Nat.gcd x.natAbs y.natAbs))) => part_dn lx lg hg a b)
  have HQ := hidb (fun w t (a : Bg w v (dn y.natAbs)) (b : Bg w t (dn (Nat.gcd x.natAbs y.natAbs))) => part_dn ly lg hg a b)
  have HC1 := hidb (fun w s t (a : Bg w s (dn (x.natAbs / Nat.gcd x.natAbs y.natAbs))) (b : Bg w t (dn 4611686018427387904)) => cmp_dn (m := x.natAbs / Nat.gcd x.natAbs y.natAbs) (n := 4611686018427387904) (by have := M_lid; omega) (by have := M_lid; omega) a b)
  have HC2 := hidb (fun w s t (a : Bg w s (dn (y.natAbs / Nat.gcd x.natAbs y.natAbs))) (b : Bg w t (dn 4611686018427387904)) => cmp_dn (m := y.natAbs / Nat.gcd x.natAbs y.natAbs) (n := 4611686018427387904) (by have := M_lid; omega) (by have := M_lid; omega) a b)
  have ij : 0 < cm (x.natAbs / Nat.gcd x.natAbs y.natAbs) 4611686018427387904 ∨ ¬ 0 < cm (x.natAbs / Nat.gcd x.natAbs y.natAbs) 4611686018427387904 ∧ 0 < cm (y.natAbs / Nat.gcd x.natAbs y.natAbs) 4611686018427387904 := by
    by_cases c : x.natAbs / Nat.gcd x.natAbs y.natAbs ≤ 4611686018427387904
    · right
      have c2 : ¬ y.natAbs / Nat.gcd x.natAbs y.natAbs ≤ 4611686018427387904 := fun k => hf ⟨c, k⟩
      exact ⟨cm_le c, cm_gt (by omega)⟩
    · left; exact cm_gt (by omega)
  clear hb kb hg hgl lg lx ly hf lp lq
  generalize x.natAbs / Nat.gcd x.natAbs y.natAbs = p at *
  generalize y.natAbs / Nat.gcd x.natAbs y.natAbs = q at *
  generalize Nat.gcd x.natAbs y.natAbs = gg at *
  generalize cm p 4611686018427387904 = cp at *
  generalize cm q 4611686018427387904 = cq at *
  have BO := hidb bigOf_62
  have HC : Gr w (((w.alloc (.cells #[.bool m, u] 61)).alloc (.cells #[.bool n, v] 61)).alloc (.cells #[.int .i64 0, .int .i64 0] 28)) := (((Gr.refl w).alloc _).alloc _).alloc _
  have PA := ((At.new2 w (.bool m) u 61).alloc (.cells #[.bool n, v] 61)).alloc (.cells #[.int .i64 0, .int .i64 0] 28)
  have QA := (At.nx2 (W := w) (.cells #[.bool m, u] 61) (.bool n) v 61).alloc (.cells #[.int .i64 0, .int .i64 0] 28)
  have RA := At.ny2 (W := w) (.cells #[.bool m, u] 61) (.cells #[.bool n, v] 61) (.int .i64 0) (.int .i64 0) 28
  go_enter Tryd.func25, Tryd.ntmps25
  go_wp2_with fail
  refine (HG.out _ (HB.out.below HC.out) (KB.out.below HC.out)).mono ?_
  rintro e w1 ⟨t, rfl, ht, hB⟩
  replace HC := Gr.step HC hB
  replace PA := At.below hB PA
  replace QA := At.below hB QA
  replace RA := At.below hB RA
  clear hB HG
  have HT := hidb ht
  clear ht
  obtain ⟨a0, a1⟩ := PA.c2
  obtain ⟨b0, b1⟩ := QA.c2
  go_wp2_with fail
  refine (HP.out _ _ (HB.out.below HC.out) HT.out).mono ?_
  rintro e w2 ⟨t1, r1, rfl, h1, _, hB⟩
  replace HC := Gr.step HC hB
  replace PA := At.below hB PA
  replace QA := At.below hB QA
  replace RA := At.below hB RA
  have H1 := hidb h1
  replace HT := hidb (HT.out.below hB)
  clear hB HP h1 a0 a1 b0 b1
  obtain ⟨a0, a1⟩ := PA.c2
  obtain ⟨b0, b1⟩ := QA.c2
  go_wp2_with fail
  refine (HQ.out _ _ (KB.out.below HC.out) HT.out).mono ?_
  rintro e w3 ⟨t2, r2, rfl, h2, _, hB⟩
  replace HC := Gr.step HC hB
  replace PA := At.below hB PA
  replace QA := At.below hB QA
  replace RA := At.below hB RA
  have H2 := hidb h2
  replace H1 := hidb (H1.out.below hB)
  clear hB HQ h2 HT a0 a1 b0 b1
  go_wp2_with fail
  refine (BO.out _).mono ?_
  rintro e w4 ⟨t3, rfl, h3, hB⟩
  replace HC := Gr.step HC hB
  replace PA := At.below hB PA
  replace QA := At.below hB QA
  replace RA := At.below hB RA
  have H3 := hidb h3
  replace H1 := hidb (H1.out.below hB)
  replace H2 := hidb (H2.out.below hB)
  clear hB BO h3
  go_wp2_with fail
  refine (HC1.out _ _ _ H1.out H3.out).mono ?_
  rintro e w5 ⟨rfl, hB⟩
  replace HC := Gr.step HC hB
  replace PA := At.below hB PA
  replace QA := At.below hB QA
  replace RA := At.below hB RA
  replace H1 := hidb (H1.out.below hB)
  replace H2 := hidb (H2.out.below hB)
  replace H3 := hidb (H3.out.below hB)
  clear hB HC1
  have hge : w.heap.size ≤ w.heap.size + 1 + 1 := by omega
  rcases ij with i1 | ⟨i1, i2⟩
  · obtain ⟨c0, c1⟩ := RA.c2
    obtain ⟨f0, f1⟩ := RA.f2
    go_wp2
    exact bodyPost_ret (v := .tuple #[fr0, .bool false]) (by simp [results, Tryd.results25, go_sem, c0, c1]) rfl ⟨rfl, (HC.set hge _ _).set hge _ _⟩
  · go_wp2_with fail
    refine (HC2.out _ _ _ H2.out H3.out).mono ?_
    rintro e w6 ⟨rfl, hB⟩
    replace HC := Gr.step HC hB
    replace PA := At.below hB PA
    replace QA := At.below hB QA
    replace RA := At.below hB RA
    clear hB HC2 H3 H1 H2
    obtain ⟨c0, c1⟩ := RA.c2
    obtain ⟨f0, f1⟩ := RA.f2
    go_wp2
    exact bodyPost_ret (v := .tuple #[fr0, .bool false]) (by simp [results, Tryd.results25, go_sem, c0, c1]) rfl ⟨rfl, (HC.set hge _ _).set hge _ _⟩
end Go.Proofs.YtpdiefmmenfpaaaDoor
