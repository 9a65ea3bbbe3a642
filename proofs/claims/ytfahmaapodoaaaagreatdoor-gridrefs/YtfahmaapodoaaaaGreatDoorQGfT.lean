/-
  grid: Text of a reference; mercatorref2.RefText.
-/
import Derived.Test.YtfahmaapodoaaaaGreatDoorQGfY
import Derived.Test.YtfahmaapodoaaaaGreatDoorQGqF
import Derived.BigRegion
namespace Go.Proofs.YtfahmaapodoaaaaGreatDoor
open Go.RowKit GQ

/-- A reference's text. -/
def txt (z : Nat) (b : Bool) (x y : Nat) : List UInt8 := dgs z 2 ++ ((if b then 83 else 78) :: 32 :: (dgs x 6 ++ (32 :: dgs y 7)))
def TX (z : Int) (b : Bool) (x y : Int) : ByteArray := ⟨(txt z.toNat b x.toNat y.toNat).toArray⟩
def PD (n k : Int) : ByteArray := ⟨(dgs n.toNat k.toNat).toArray⟩
theorem paddedI (n k : Int) (h0 : 0 ≤ n) (h1 : (k = 2 ∧ n < 100) ∨ (k = 6 ∧ n < 1000000) ∨ (k = 7 ∧ n < 10000000)) (w : World) (h : SqL w) : Calls Tryz.prog 22 #[.int .i64 n, .int .i64 k] w fun e w' => e = .returned (.string (PD n k)) ∧ Gr w w' := by
  obtain ⟨n, rfl⟩ := Int.eq_ofNat_of_zero_le h0
  rcases h1 with ⟨rfl, h1⟩ | ⟨rfl, h1⟩ | ⟨rfl, h1⟩
  · exact padded_g n 2 (by omega) (by decide) (ndig_le 1 n (by omega)) w h
  · exact padded_g n 6 (by omega) (by decide) (ndig_le 5 n (by omega)) w h
  · exact padded_g n 7 (by omega) (by decide) (ndig_le 6 n (by omega)) w h
theorem digitsI (n k : Int) (h0 : 0 ≤ n) (h1 : (k = 2 ∧ n < 100) ∨ (k = 6 ∧ n < 1000000) ∨ (k = 7 ∧ n < 10000000)) (w : World) : Calls Tryz.prog 24 #[.int .i64 n, .int .i64 k] w fun e w' => e = .returned (.string (PD n k)) ∧ Gr w w' := by
  obtain ⟨n, rfl⟩ := Int.eq_ofNat_of_zero_le h0
  rcases h1 with ⟨rfl, h1⟩ | ⟨rfl, h1⟩ | ⟨rfl, h1⟩
  · exact digits_any n 2 (by omega) (by decide) w
  · exact digits_any n 6 (by omega) (by decide) w
  · exact digits_any n 7 (by omega) (by decide) w
def HB (b : Bool) : ByteArray := ⟨#[if b then 83 else 78]⟩
def HB2 (b : Bool) : ByteArray := ⟨#[if b then 83 else 78, 32]⟩
theorem txt_adds (z x y : Int) (b : Bool) : ∃ A B C D : ByteArray, (∀ W : World, (Op.stringOp .add (PD z 2) (HB b)).run Tryz.prog W = .ok (.string A) W) ∧ (∀ W : World, (Op.stringOp .add A ⟨#[32]⟩).run Tryz.prog W = .ok (.string B) W) ∧ (∀ W : World, (Op.stringOp .add B (PD x 6)).run Tryz.prog W = .ok (.string C) W) ∧ (∀ W : World, (Op.stringOp .add C ⟨#[32]⟩).run Tryz.prog W = .ok (.string D) W) ∧ (∀ W : World, (Op.stringOp .add D (PD y 7)).run Tryz.prog W = .ok (.string (TX z b x y)) W) ∧ ∀ W : World, (Op.stringOp .add (PD z 2) (HB2 b)).run Tryz.prog W = .ok (.string B) W := by
  unfold PD HB HB2 TX
  have l1 := dgs_length 2 z.toNat
  have l2 := dgs_length 6 x.toNat
  have l3 := dgs_length 7 y.toNat
  refine ⟨⟨(dgs z.toNat 2 ++ [if b then 83 else 78]).toArray⟩, ⟨(dgs z.toNat 2 ++ [if b then 83 else 78, 32]).toArray⟩, ⟨(dgs z.toNat 2 ++ (if b then 83 else 78) :: 32 :: dgs x.toNat 6).toArray⟩, ⟨(dgs z.toNat 2 ++ (if b then 83 else 78) :: 32 :: (dgs x.toNat 6 ++ [32])).toArray⟩, fun W => ?_, fun W => ?_, fun W => ?_, fun W => ?_, fun W => ?_, fun W => ?_⟩
  · rw [show (#[if b then 83 else 78] : Array UInt8) = [if b then 83 else 78].toArray from rfl]
    rw [add_s _ _ (by rw [show (2 : Int).toNat = 2 from rfl, l1]; decide) (by simp)]
    rfl
  · rw [show (#[32] : Array UInt8) = [32].toArray from rfl]
    rw [add_s _ _ (by simp [l1]) (by simp)]
    simp
  · rw [show (6 : Int).toNat = 6 from rfl, add_s _ _ (by simp [l1]) (by rw [l2]; decide)]
    simp
  · rw [show (#[32] : Array UInt8) = [32].toArray from rfl]
    rw [add_s _ _ (by simp [l1, l2]) (by simp)]
    simp
  · rw [show (7 : Int).toNat = 7 from rfl, add_s _ _ (by simp [l1, l2]) (by rw [l3]; decide)]
    simp [txt]
  · rw [show (#[if b then 83 else 78, 32] : Array UInt8) = [if b then 83 else 78, 32].toArray from rfl]
    rw [add_s _ _ (by rw [show (2 : Int).toNat = 2 from rfl, l1]; decide) (by simp)]
    rfl
set_option maxHeartbeats 2000000 in
theorem text_ok (z : Int) (b : Bool) (x y : Int) (h : okRef z x y) (w : World) (hs : SqL w) : Calls Tryz.prog 10 #[rfV z b x y] w fun e w' => e = .returned (.tuple #[.string (TX z b x y), .nilIface]) ∧ Gr w w' := by
  have H1 := hidb (fun w => valid_ok z b x y h w)
  obtain ⟨⟨z0, z1⟩, ⟨x0, x1⟩, y0, y1⟩ := h
  obtain ⟨A, B, C, D, a1, a2, a3, a4, a5, -⟩ := txt_adds z x y b
  have P1 := hidb (fun w h => paddedI z 2 (by omega) (Or.inl ⟨rfl, by omega⟩) w h)
  have P2 := hidb (fun w h => paddedI x 6 (by omega) (Or.inr (Or.inl ⟨rfl, by omega⟩)) w h)
  have P3 := hidb (fun w h => paddedI y 7 (by omega) (Or.inr (Or.inr ⟨rfl, by omega⟩)) w h)
  have HH := hidb hs
  clear hs z0 z1 x0 x1 y0 y1
  generalize PD z 2 = E1 at *
  generalize PD x 6 = E2 at *
  generalize PD y 7 = E3 at *
  generalize TX z b x y = T at *
  have hb1 : b = true → HB b = ⟨#[83]⟩ := fun h => by rw [h]; rfl
  have hb0 : b = false → HB b = ⟨#[78]⟩ := fun h => by rw [h]; rfl
  have HB1 := hidb hb1
  have HB0 := hidb hb0
  clear hb1 hb0
  cases b
  all_goals
    first
      | rw [HB0.out rfl] at a1
      | rw [HB1.out rfl] at a1
    clear HB0 HB1
    go_enter Tryz.func10, Tryz.ntmps10
    go_wp2_with fail
  · have PA : At (w.alloc (.cells #[.int .i64 z, .bool false, .int .i64 x, .int .i64 y] 32)) w.heap.size [.int .i64 z, .bool false, .int .i64 x, .int .i64 y] := At.new4 w _ _ _ _ _
    have HC : Gr w (w.alloc (.cells #[.int .i64 z, .bool false, .int .i64 x, .int .i64 y] 32)) := (Gr.refl w).alloc _
    generalize w.alloc (.cells #[.int .i64 z, .bool false, .int .i64 x, .int .i64 y] 32) = w1 at *
    refine (H1.out _).mono ?_
    rintro e w2 ⟨rfl, g2⟩
    replace HC : Gr w w2 := HC.step g2
    replace PA := At.below g2 PA
    clear g2
    obtain ⟨c0, c1, c2, c3⟩ := PA.c4
    go_upto_region 7 with fail
    clear c0 c1 c2 c3
    go_region_held (fun w' => w'.cell? ⟨w.heap.size, 0, none⟩ = some (.int .i64 z) ∧ w'.cell? ⟨w.heap.size, 1, none⟩ = some (.bool false) ∧ w'.cell? ⟨w.heap.size, 2, none⟩ = some (.int .i64 x) ∧ w'.cell? ⟨w.heap.size, 3, none⟩ = some (.int .i64 y))
      (exact PA.c4)
      ((first
        | (go_at_call 22; (with_reducible first | refine (P1.out _ (HH.out.gr (by ((with_reducible repeat' (first | assumption | refine Gr.drewN ?_ _ | refine Gr.drew ?_ | refine Gr.alloc ?_ _ | exact Gr.refl _)); done)))).mono ?_ | refine (P2.out _ (HH.out.gr (by ((with_reducible repeat' (first | assumption | refine Gr.drewN ?_ _ | refine Gr.drew ?_ | refine Gr.alloc ?_ _ | exact Gr.refl _)); done)))).mono ?_ | refine (P3.out _ (HH.out.gr (by ((with_reducible repeat' (first | assumption | refine Gr.drewN ?_ _ | refine Gr.drew ?_ | refine Gr.alloc ?_ _ | exact Gr.refl _)); done)))).mono ?_ | fail); rintro e w4 ⟨rfl, hB4⟩; replace HC : Gr w w4 := Gr.step (by ((with_reducible repeat' (first | assumption | refine Gr.drewN ?_ _ | refine Gr.drew ?_ | refine Gr.alloc ?_ _ | exact Gr.refl _)); done)) hB4; replace PA : At w4 w.heap.size [.int .i64 z, .bool false, .int .i64 x, .int .i64 y] := At.below hB4 PA; clear hB4)
        | fail))
    all_goals
      go_wp2
      go_ret2
      exact ⟨rfl, by ((with_reducible repeat' (first | assumption | refine Gr.drewN ?_ _ | refine Gr.drew ?_ | refine Gr.alloc ?_ _ | exact Gr.refl _)); done)⟩
  · have PA : At (w.alloc (.cells #[.int .i64 z, .bool true, .int .i64 x, .int .i64 y] 32)) w.heap.size [.int .i64 z, .bool true, .int .i64 x, .int .i64 y] := At.new4 w _ _ _ _ _
    have HC : Gr w (w.alloc (.cells #[.int .i64 z, .bool true, .int .i64 x, .int .i64 y] 32)) := (Gr.refl w).alloc _
    generalize w.alloc (.cells #[.int .i64 z, .bool true, .int .i64 x, .int .i64 y] 32) = w1 at *
    refine (H1.out _).mono ?_
    rintro e w2 ⟨rfl, g2⟩
    replace HC : Gr w w2 := HC.step g2
    replace PA := At.below g2 PA
    clear g2
    obtain ⟨c0, c1, c2, c3⟩ := PA.c4
    go_upto_region 7 with fail
    clear c0 c1 c2 c3
    go_region_held (fun w' => w'.cell? ⟨w.heap.size, 0, none⟩ = some (.int .i64 z) ∧ w'.cell? ⟨w.heap.size, 1, none⟩ = some (.bool true) ∧ w'.cell? ⟨w.heap.size, 2, none⟩ = some (.int .i64 x) ∧ w'.cell? ⟨w.heap.size, 3, none⟩ = some (.int .i64 y))
      (exact PA.c4)
      ((first
        | (go_at_call 22; (with_reducible first | refine (P1.out _ (HH.out.gr (by ((with_reducible repeat' (first | assumption | refine Gr.drewN ?_ _ | refine Gr.drew ?_ | refine Gr.alloc ?_ _ | exact Gr.refl _)); done)))).mono ?_ | refine (P2.out _ (HH.out.gr (by ((with_reducible repeat' (first | assumption | refine Gr.drewN ?_ _ | refine Gr.drew ?_ | refine Gr.alloc ?_ _ | exact Gr.refl _)); done)))).mono ?_ | refine (P3.out _ (HH.out.gr (by ((with_reducible repeat' (first | assumption | refine Gr.drewN ?_ _ | refine Gr.drew ?_ | refine Gr.alloc ?_ _ | exact Gr.refl _)); done)))).mono ?_ | fail); rintro e w4 ⟨rfl, hB4⟩; replace HC : Gr w w4 := Gr.step (by ((with_reducible repeat' (first | assumption | refine Gr.drewN ?_ _ | refine Gr.drew ?_ | refine Gr.alloc ?_ _ | exact Gr.refl _)); done)) hB4; replace PA : At w4 w.heap.size [.int .i64 z, .bool true, .int .i64 x, .int .i64 y] := At.below hB4 PA; clear hB4)
        | fail))
    all_goals
      go_wp2
      go_ret2
      exact ⟨rfl, by ((with_reducible repeat' (first | assumption | refine Gr.drewN ?_ _ | refine Gr.drew ?_ | refine Gr.alloc ?_ _ | exact Gr.refl _)); done)⟩
theorem text_no (g : Nat → Addr) (z : Int) (b : Bool) (x y : Int) (h : ¬ okRef z x y) (w : World) (hl : Laid w g) : Calls Tryz.prog 10 #[rfV z b x y] w fun e w' => e = .returned (.tuple #[.string ⟨#[]⟩, errV g 3]) ∧ Gr w w' := by
  have H1 := hidb (fun w hl => valid_code g z b x y h w hl)
  have hn := fun w => run_eql_iface_nil (P := Tryz.prog) w 26 (by kernel_rfl) 141 (.pointer (some (g 3)))
  have HL := hidb (hl.alloc (.cells #[.int .i64 z, .bool b, .int .i64 x, .int .i64 y] 32))
  clear h hl
  go_enter Tryz.func10, Tryz.ntmps10
  go_wp2_with fail
  refine (H1.out _ HL.out).mono ?_
  rintro e w2 ⟨rfl, g2⟩
  go_wp2_with fail
  go_ret2
  exact ⟨rfl, ((Gr.refl w).alloc _).step g2⟩
end Go.Proofs.YtfahmaapodoaaaaGreatDoor
