/-
  grain.bounded, grain.Make.
-/
import Derived.Test.YtdgeijglmhediaaDoorQFrF
namespace Go.Proofs.YtdgeijglmhediaaDoor
open Go.RowKit BG
attribute [local go_sem ↓] Go.wp_at_zero Go.wp_at_succ

/-- A fraction, its sign told apart. -/
abbrev frV (s : Bool) (p q : Nat) : Value := .agg #[.int .i64 (if s then -(p : Int) else p), .int .i64 q]
abbrev fr0 : Value := .agg #[.int .i64 0, .int .i64 0]
theorem hi2_small {p : Nat} (h : p ≤ 4611686018427387904) : hi2 (p : Int) = 0 ∧ lo2 (p : Int) = p := by unfold hi2 lo2; omega
theorem wide_big {p : Nat} (hp : p < 340282366920938463463374607431768211456) (h : ¬ p ≤ 4611686018427387904) : ¬ hi2 (p : Int) = 0 ∨ hi2 (p : Int) = 0 ∧ (4611686018427387904 : Int) < lo2 (p : Int) := by unfold hi2 lo2; omega
set_option maxHeartbeats 1000000 in
theorem bounded_ok (s : Bool) (p q : Nat) (hp : p ≤ 4611686018427387904) (hq : q ≤ 4611686018427387904) (w : World) : Calls Tryd.prog 107 #[.bool s, W2 p, W2 q] w fun e w' => e = .returned (.tuple #[frV s p q, .nilIface]) ∧ Below w.heap.size w w' := by
  obtain ⟨e1, e2⟩ := hi2_small hp
  obtain ⟨e3, e4⟩ := hi2_small hq
  unfold W2
  rw [e1, e2, e3, e4]
  clear e1 e2 e3 e4
  cases s
  · go_enter Tryd.func107, Tryd.ntmps107
    go_wp2
    exact bodyPost_ret (v := .tuple #[frV false p q, .nilIface]) (by simp [results, Tryd.results107, go_sem]) rfl ⟨rfl, ((((Gr.refl w).alloc _).alloc _).alloc _)⟩
  · go_enter Tryd.func107, Tryd.ntmps107
    go_wp2
    exact bodyPost_ret (v := .tuple #[frV true p q, .nilIface]) (by simp [results, Tryd.results107, go_sem]) rfl ⟨rfl, ((((Gr.refl w).alloc _).alloc _).alloc _)⟩
theorem keep2 {W : World} {b c : Nat} {u x y : Value} (h : W.cell? ⟨b, 0, none⟩ = some u) (hc : ¬ c = b) : ((W.setCell ⟨c, 0, none⟩ x).setCell ⟨c, 1, none⟩ y).cell? ⟨b, 0, none⟩ = some u := by
  have hc' : ¬ b = c := fun e => hc e.symm
  simp [go_sem, h]
set_option maxHeartbeats 1000000 in
theorem bounded_words (g : Nat → Addr) (s : Bool) (nh nl dh dl : Int) (a1 : 0 ≤ nh) (a2 : nh < 18446744073709551616) (_b1 : 0 ≤ nl) (_b2 : nl < 18446744073709551616) (c1 : 0 ≤ dh) (c2 : dh < 18446744073709551616) (_d1 : 0 ≤ dl) (_d2 : dl < 18446744073709551616)
    (h : ¬ nh = 0 ∨ nh = 0 ∧ 4611686018427387904 < nl ∨ nh = 0 ∧ nl ≤ 4611686018427387904 ∧ ¬ dh = 0 ∨ nh = 0 ∧ nl ≤ 4611686018427387904 ∧ dh = 0 ∧ 4611686018427387904 < dl) (w : World) (hl : Laid w g) : Calls Tryd.prog 107 #[.bool s, .agg #[.int .u64 nh, .int .u64 nl], .agg #[.int .u64 dh, .int .u64 dl]] w fun e w' => e = .returned (.tuple #[fr0, errV g 1]) ∧ Below w.heap.size w w' := by
  have cE : (((w.alloc (.cells #[.int .u64 nh, .int .u64 nl] 166)).alloc (.cells #[.int .u64 dh, .int .u64 dl] 166)).alloc (.cells #[.int .i64 0, .int .i64 0] 42)).cell? ⟨0, 0, none⟩ = some (errV g 1) := (((hl.alloc _).alloc _).alloc _).cell 1 (by decide)
  have HC : Gr w (((w.alloc (.cells #[.int .u64 nh, .int .u64 nl] 166)).alloc (.cells #[.int .u64 dh, .int .u64 dl] 166)).alloc (.cells #[.int .i64 0, .int .i64 0] 42)) := (((Gr.refl w).alloc _).alloc _).alloc _
  have RA := At.ny2 (W := w) (.cells #[.int .u64 nh, .int .u64 nl] 166) (.cells #[.int .u64 dh, .int .u64 dl] 166) (.int .i64 0) (.int .i64 0) 42
  have hlt : 0 < w.heap.size := lt_of_cell (hl.cell 1 (by decide))
  have hne : ¬ w.heap.size + 1 + 1 = 0 := by omega
  have hge : w.heap.size ≤ w.heap.size + 1 + 1 := by omega
  clear hl hlt
  rcases h with h | ⟨h, k⟩ | ⟨h, k, l⟩ | ⟨h, k, l, m⟩
  · go_enter Tryd.func107, Tryd.ntmps107
    go_wp2_with fail
    generalize ((w.alloc (.cells #[.int .u64 nh, .int .u64 nl] 166)).alloc (.cells #[.int .u64 dh, .int .u64 dl] 166)).alloc (.cells #[.int .i64 0, .int .i64 0] 42) = w3 at *
    obtain ⟨r0, r1⟩ := RA.c2
    obtain ⟨f0, f1⟩ := RA.f2
    go_region_held (fun w' => w'.cell? ⟨0, 0, none⟩ = some (errV g 1))
      (first | (with_reducible assumption) | exact cE | exact keep2 cE hne)
      (fail)
    go_wp2
    exact bodyPost_ret (v := .tuple #[fr0, errV g 1]) (by simp [results, Tryd.results107, go_sem, r0, r1]) rfl ⟨rfl, by first | exact ((HC.set hge _ _).set hge _ _).drew | exact ((HC.drew.set hge _ _).set hge _ _) | exact (HC.set hge _ _).set hge _ _⟩
  · subst h
    go_enter Tryd.func107, Tryd.ntmps107
    go_wp2_with fail
    generalize ((w.alloc (.cells #[.int .u64 0, .int .u64 nl] 166)).alloc (.cells #[.int .u64 dh, .int .u64 dl] 166)).alloc (.cells #[.int .i64 0, .int .i64 0] 42) = w3 at *
    obtain ⟨r0, r1⟩ := RA.c2
    obtain ⟨f0, f1⟩ := RA.f2
    go_region_held (fun w' => w'.cell? ⟨0, 0, none⟩ = some (errV g 1))
      (first | (with_reducible assumption) | exact cE | exact keep2 cE hne)
      (fail)
    go_wp2
    exact bodyPost_ret (v := .tuple #[fr0, errV g 1]) (by simp [results, Tryd.results107, go_sem, r0, r1]) rfl ⟨rfl, by first | exact ((HC.set hge _ _).set hge _ _).drew | exact ((HC.drew.set hge _ _).set hge _ _) | exact (HC.set hge _ _).set hge _ _⟩
  · subst h
    go_enter Tryd.func107, Tryd.ntmps107
    go_wp2_with fail
    generalize ((w.alloc (.cells #[.int .u64 0, .int .u64 nl] 166)).alloc (.cells #[.int .u64 dh, .int .u64 dl] 166)).alloc (.cells #[.int .i64 0, .int .i64 0] 42) = w3 at *
    obtain ⟨r0, r1⟩ := RA.c2
    obtain ⟨f0, f1⟩ := RA.f2
    go_region_held (fun w' => w'.cell? ⟨0, 0, none⟩ = some (errV g 1))
      (first | (with_reducible assumption) | exact cE | exact keep2 cE hne)
      (fail)
    go_wp2
    exact bodyPost_ret (v := .tuple #[fr0, errV g 1]) (by simp [results, Tryd.results107, go_sem, r0, r1]) rfl ⟨rfl, by first | exact ((HC.set hge _ _).set hge _ _).drew | exact ((HC.drew.set hge _ _).set hge _ _) | exact (HC.set hge _ _).set hge _ _⟩
  · subst h l
    go_enter Tryd.func107, Tryd.ntmps107
    go_wp2_with fail
    generalize ((w.alloc (.cells #[.int .u64 0, .int .u64 nl] 166)).alloc (.cells #[.int .u64 0, .int .u64 dl] 166)).alloc (.cells #[.int .i64 0, .int .i64 0] 42) = w3 at *
    obtain ⟨r0, r1⟩ := RA.c2
    obtain ⟨f0, f1⟩ := RA.f2
    go_region_held (fun w' => w'.cell? ⟨0, 0, none⟩ = some (errV g 1))
      (first | (with_reducible assumption) | exact cE | exact keep2 cE hne)
      (fail)
    go_wp2
    exact bodyPost_ret (v := .tuple #[fr0, errV g 1]) (by simp [results, Tryd.results107, go_sem, r0, r1]) rfl ⟨rfl, by first | exact ((HC.set hge _ _).set hge _ _).drew | exact ((HC.drew.set hge _ _).set hge _ _) | exact (HC.set hge _ _).set hge _ _⟩
end Go.Proofs.YtdgeijglmhediaaDoor
