/-
  grid: Square of a reference.
-/
import Derived.Test.YtfahmaapodoaaaaGreatDoorQGqB
namespace Go.Proofs.YtfahmaapodoaaaaGreatDoor
open Go.RowKit GQ

def LT (q : Int) : ByteArray := ⟨[ltr (q.toNat % 20)].toArray⟩
def CT (n m : Int) : ByteArray := ⟨(dgs (n.toNat % 100000 / 10 ^ (5 - m.toNat)) m.toNat).toArray⟩
def SQ (x y m : Int) : ByteArray := ⟨(sqt x.toNat y.toNat m.toNat).toArray⟩
theorem letterI (q : Int) (h0 : 0 ≤ q) (h1 : q < 100) (w : World) : Calls Tryz.prog 29 #[.int .i64 q] w fun e w' => e = .returned (.string (LT q)) ∧ w' = w := by
  obtain ⟨n, rfl⟩ := Int.eq_ofNat_of_zero_le h0
  exact letter_c n (by omega) w
theorem cutI (n m : Int) (h0 : 0 ≤ n) (h1 : n ≤ 9999999) (m0 : 0 ≤ m) (m1 : m ≤ 5) (w : World) (h : SqL w) : Calls Tryz.prog 30 #[.int .i64 n, .int .i64 m] w fun e w' => e = .returned (.string (CT n m)) ∧ Gr w w' := by
  obtain ⟨n, rfl⟩ := Int.eq_ofNat_of_zero_le h0
  obtain ⟨m, rfl⟩ := Int.eq_ofNat_of_zero_le m0
  exact cut_c n m (by omega) (by omega) w h
theorem sq_adds (x y m : Int) (x0 : 0 ≤ x) (x1 : x ≤ 999999) (y0 : 0 ≤ y) (m0 : 0 ≤ m) (m1 : m ≤ 5) : ∃ A B : ByteArray, (∀ W : World, (Op.stringOp .add (LT (x.tdiv 100000)) (LT (y.tdiv 100000))).run Tryz.prog W = .ok (.string A) W) ∧ (∀ W : World, (Op.stringOp .add A (CT x m)).run Tryz.prog W = .ok (.string B) W) ∧ ∀ W : World, (Op.stringOp .add B (CT y m)).run Tryz.prog W = .ok (.string (SQ x y m)) W := by
  obtain ⟨x, rfl⟩ := Int.eq_ofNat_of_zero_le x0
  obtain ⟨y, rfl⟩ := Int.eq_ofNat_of_zero_le y0
  obtain ⟨m, rfl⟩ := Int.eq_ofNat_of_zero_le m0
  have e1 : ((x : Int).tdiv 100000).toNat % 20 = x / 100000 := by rw [Int.tdiv_eq_ediv_of_nonneg x0]; omega
  have e2 : ((y : Int).tdiv 100000).toNat % 20 = y / 100000 % 20 := by rw [Int.tdiv_eq_ediv_of_nonneg y0]; omega
  unfold LT CT SQ
  rw [e1, e2]
  simp only [Int.toNat_natCast]
  have l1 : (dgs (x % 100000 / 10 ^ (5 - m)) m).length ≤ 5 := by rw [dgs_length]; omega
  have l2 : (dgs (y % 100000 / 10 ^ (5 - m)) m).length ≤ 5 := by rw [dgs_length]; omega
  refine ⟨_, _, fun W => add_s _ _ (by simp) (by simp) W, fun W => add_s _ _ (by simp) (by omega) W, fun W => ?_⟩
  rw [add_s _ _ (by simp; omega) (by omega)]
  rfl
set_option maxHeartbeats 1000000 in
theorem square_ok (z : Int) (b : Bool) (x y m : Int) (h : okRef z x y) (m0 : 0 ≤ m) (m1 : m ≤ 5) (w : World) (hs : SqL w) : Calls Tryz.prog 16 #[rfV z b x y, .int .i64 m] w fun e w' => e = .returned (.tuple #[.string (SQ x y m), .nilIface]) ∧ Gr w w' := by
  have H1 := hidb (fun w => valid_ok z b x y h w)
  obtain ⟨-, ⟨x0, x1⟩, y0, y1⟩ := h
  obtain ⟨A, B, a1, a2, a3⟩ := sq_adds x y m x0 x1 y0 m0 m1
  have hx : 0 ≤ x.tdiv 100000 ∧ x.tdiv 100000 < 100 := by rw [Int.tdiv_eq_ediv_of_nonneg x0]; omega
  have hy : 0 ≤ y.tdiv 100000 ∧ y.tdiv 100000 < 100 := by rw [Int.tdiv_eq_ediv_of_nonneg y0]; omega
  obtain ⟨qx, ex⟩ : ∃ q, x.tdiv 100000 = q := ⟨_, rfl⟩
  obtain ⟨qy, ey⟩ : ∃ q, y.tdiv 100000 = q := ⟨_, rfl⟩
  rw [ex] at hx a1
  rw [ey] at hy a1
  obtain ⟨qx0, qx1⟩ := hx
  obtain ⟨qy0, qy1⟩ := hy
  have wx : IntKind.i64.wrap qx = qx := wrq (by omega) (by omega)
  have wy : IntKind.i64.wrap qy = qy := wrq (by omega) (by omega)
  have HH := hidb hs
  clear hs
  go_enter Tryz.func16, Tryz.ntmps16
  go_wp2_with fail
  have PA : At (w.alloc (.cells #[.int .i64 z, .bool b, .int .i64 x, .int .i64 y] 32)) w.heap.size [.int .i64 z, .bool b, .int .i64 x, .int .i64 y] := At.new4 w _ _ _ _ _
  have HC : Gr w (w.alloc (.cells #[.int .i64 z, .bool b, .int .i64 x, .int .i64 y] 32)) := (Gr.refl w).alloc _
  generalize w.alloc (.cells #[.int .i64 z, .bool b, .int .i64 x, .int .i64 y] 32) = w1 at *
  refine (H1.out _).mono ?_
  rintro e w2 ⟨rfl, g2⟩
  replace HC : Gr w w2 := HC.step g2
  replace PA := At.below g2 PA
  clear g2
  go_upto_region 6 with fail
  go_region_held (fun w' => w'.cell? ⟨w.heap.size, 0, none⟩ = some (.int .i64 z) ∧ w'.cell? ⟨w.heap.size, 1, none⟩ = some (.bool b) ∧ w'.cell? ⟨w.heap.size, 2, none⟩ = some (.int .i64 x) ∧ w'.cell? ⟨w.heap.size, 3, none⟩ = some (.int .i64 y))
    (exact PA.c4)
    ((first
      | (go_at_call 29; refine (letterI _ (by assumption) (by assumption) _).mono ?_; rintro e w3 ⟨rfl, rfl⟩)
      | (go_at_call 30; refine (cutI _ _ (by omega) (by omega) (by assumption) (by assumption) _ (HH.out.gr (by ((with_reducible repeat' (first | assumption | refine Gr.drewN ?_ _ | refine Gr.drew ?_ | refine Gr.alloc ?_ _ | exact Gr.refl _)); done)))).mono ?_; rintro e w4 ⟨rfl, hB4⟩; replace HC : Gr w w4 := Gr.step (by ((with_reducible repeat' (first | assumption | refine Gr.drewN ?_ _ | refine Gr.drew ?_ | refine Gr.alloc ?_ _ | exact Gr.refl _)); done)) hB4; replace PA : At w4 w.heap.size [.int .i64 z, .bool b, .int .i64 x, .int .i64 y] := At.below hB4 PA; clear hB4)))
  all_goals
    go_wp2
    go_ret2
    exact ⟨rfl, by ((with_reducible repeat' (first | assumption | refine Gr.drewN ?_ _ | refine Gr.drew ?_ | refine Gr.alloc ?_ _ | exact Gr.refl _)); done)⟩
end Go.Proofs.YtfahmaapodoaaaaGreatDoor
