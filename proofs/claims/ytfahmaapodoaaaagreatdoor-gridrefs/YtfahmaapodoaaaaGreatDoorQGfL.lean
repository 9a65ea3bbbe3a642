/-
  The law: mercatorlaw2.GridRefs.
-/
import Derived.Test.YtfahmaapodoaaaaGreatDoorQGfM
import Derived.Test.YtfahmaapodoaaaaGreatDoorQGfU
import Derived.Test.YtfahmaapodoaaaaGreatDoorQGfZ
import Derived.Test.YtfahmaapodoaaaaGreatDoorQGqD
import Derived.Test.YtfahmaapodoaaaaGreatDoorQGqH
import Derived.Deep.DrawnRows
namespace Go.Proofs.YtfahmaapodoaaaaGreatDoor
open Go.RowKit GQ

theorem refL_any (z : Int) (b : Bool) (x y : Int) (w : World) : Calls Tryz.prog 9 #[rfV z b x y] w fun e w' => e = .returned (rfV z b x y) ∧ Gr w w' := by
  go_enter Tryz.func9, Tryz.ntmps9
  go_wp2
  refine bodyPost_ret (v := rfV z b x y) ?_ rfl ⟨rfl, by ((with_reducible repeat' (first | assumption | refine Gr.drewN ?_ _ | refine Gr.drew ?_ | refine Gr.alloc ?_ _ | exact Gr.refl _)); done)⟩
  go_simp
  simp [results, Tryz.results9, go_sem]
/-- What the law's calls give. -/
structure GFs (g : Nat → Addr) (z : Int) (b : Bool) (x y : Int) (s T Q : ByteArray) (many : Int) (E1 E3 : Value) (c1 c3 zq : Int) (bq : Bool) (xq yq fc fp : Int) : Prop where
  text : ∀ w, Laid w g → SqL w → Calls Tryz.prog 10 #[rfV z b x y] w fun e w' => e = .returned (.tuple #[.string T, E1]) ∧ Gr w w'
  rtext : ∀ w, Calls Tryz.prog 11 #[rfV z b x y] w fun e w' => e = .returned (.tuple #[.string T, .int .i64 c1]) ∧ Gr w w'
  valid : ∀ w, Laid w g → Calls Tryz.prog 12 #[rfV z b x y] w fun e w' => e = .returned E1 ∧ Gr w w'
  cod1 : ∀ w, Laid w g → Calls Tryz.prog 6 #[E1, .int .i64 c1] w fun e w' => e = .returned (.bool true) ∧ Gr w w'
  cod3 : ∀ w, Laid w g → Calls Tryz.prog 6 #[E3, .int .i64 c3] w fun e w' => e = .returned (.bool true) ∧ Gr w w'
  read : ∀ w, Laid w g → Calls Tryz.prog 13 #[.string s] w fun e w' => ∃ E2, e = .returned (.tuple #[rfV zq bq xq yq, E2]) ∧ Gr w w' ∧ Hid (∀ W, Gr w' W → Laid W g → Calls Tryz.prog 15 #[E2, faV fc fp] W fun e W' => e = .returned (.bool true) ∧ Gr W W')
  rread : ∀ w, Calls Tryz.prog 14 #[.string s] w fun e w' => e = .returned (.tuple #[rfV zq bq xq yq, faV fc fp]) ∧ Gr w w'
  square : ∀ w, Laid w g → SqL w → Calls Tryz.prog 16 #[rfV z b x y, .int .i64 many] w fun e w' => e = .returned (.tuple #[.string Q, E3]) ∧ Gr w w'
  rsquare : ∀ w, Calls Tryz.prog 17 #[rfV z b x y, .int .i64 many] w fun e w' => e = .returned (.tuple #[.string Q, .int .i64 c3]) ∧ Gr w w'
  inn : ¬ c3 = 0 ∨ (c3 = 0 ∧ ∀ w, SqL w → Calls Tryz.prog 18 #[rfV z b x y, .string Q] w fun e w' => e = .returned (.bool true) ∧ Gr w w')
  back : 0 < c1 ∨ (c1 = 0 ∧ ∀ w, Laid w g → Calls Tryz.prog 13 #[.string T] w fun e w' => e = .returned (.tuple #[rfV z b x y, .nilIface]) ∧ Gr w w')
theorem cc44 {W : World} {B C : Nat} {a b c d x y z u : Value} (h : At W B [a, b, c, d]) (k : At W C [x, y, z, u]) : W.cell? ⟨B, 0, none⟩ = some a ∧ W.cell? ⟨B, 1, none⟩ = some b ∧ W.cell? ⟨B, 2, none⟩ = some c ∧ W.cell? ⟨B, 3, none⟩ = some d ∧ W.cell? ⟨C, 0, none⟩ = some x ∧ W.cell? ⟨C, 1, none⟩ = some y ∧ W.cell? ⟨C, 2, none⟩ = some z ∧ W.cell? ⟨C, 3, none⟩ = some u :=
  ⟨h.c4.1, h.c4.2.1, h.c4.2.2.1, h.c4.2.2.2, k.c4.1, k.c4.2.1, k.c4.2.2.1, k.c4.2.2.2⟩
abbrev rqL (z : Int) (b : Bool) (x y : Int) : List Value := [.int .i64 z, .bool b, .int .i64 x, .int .i64 y]
set_option maxHeartbeats 8000000 in
set_option maxRecDepth 4000 in
theorem law_any (g : Nat → Addr) (lon zone z : Int) (b : Bool) (x y : Int) (s T Q : ByteArray) (many : Int) (E1 E3 : Value) (c1 c3 zq : Int) (bq : Bool) (xq yq fc fp : Int) (hs : s.size ≤ 200) (hf : GFs g z b x y s T Q many E1 E3 c1 c3 zq bq xq yq fc fp) (w : World) (hl : Laid w g) (hq : SqL w) :
    Calls Tryz.prog 3 #[.int .i64 lon, .int .i64 zone, rfV z b x y, .string s, .int .i64 many] w fun e w' => e = .returned (.bool true) ∧ Gr w w' := by
  have H := hidb hf
  have HL := hidb hl
  have HQ := hidb hq
  have H0 := hidb zonedZ
  have HZ1 := hidb (fun w => zone_any lon w)
  have HZ2 := hidb (fun w => zoneOf_any lon w)
  have HRf := hidb (fun w => refL_any z b x y w)
  have HRq := hidb (fun w => refL_any zq bq xq yq w)
  have hs' : ¬ (200 : Int) < (s.size : Int) := by omega
  have hzn := zn_bd lon
  generalize zn lon = k at *
  have HZC : Hid (zone < 1 ∨ (¬ zone < 1 ∧ 60 < zone) ∨ (1 ≤ zone ∧ zone ≤ 60)) := by show _ ∨ _ ∨ _; omega
  clear hf hl hq hs hzn
  go_enter Tryz.func3, Tryz.ntmps3
  go_wp2_with fail
  have PA : At (w.alloc (.cells #[.int .i64 z, .bool b, .int .i64 x, .int .i64 y] 23)) w.heap.size (rqL z b x y) := At.new4 w _ _ _ _ _
  have HC : Gr w (w.alloc (.cells #[.int .i64 z, .bool b, .int .i64 x, .int .i64 y] 23)) := (Gr.refl w).alloc _
  generalize w.alloc (.cells #[.int .i64 z, .bool b, .int .i64 x, .int .i64 y] 23) = w1 at *
  refine (H0.out _).mono ?_
  rintro e wz ⟨rfl, rfl⟩
  rcases HZC.out with hz | ⟨hz1, hz⟩ | ⟨hz1, hz2⟩
  · clear HZC
    have HM := hidb (fun w hl => middle_no g zone (Or.inl hz) w hl)
    go_wp2_with fail
    refine (HM.out _ (HL.out.below HC)).mono ?_
    rintro e w2 ⟨rfl, g2⟩
    replace PA := At.below g2 PA
    replace HC := HC.step g2
    clear g2
    have HC0 := hidb (fun w hl => coded_g g 3 (by decide) w hl)
    go_wp2_with fail
    refine (HC0.out _ (HL.out.below HC)).mono ?_
    rintro e w3 ⟨rfl, g3⟩
    replace PA := At.below g3 PA
    replace HC := HC.step g3
    clear g3
    clear HM HC0 hz
    go_wp2_with fail
    refine (HZ1.out _).mono ?_
    rintro e w4 ⟨rfl, rfl⟩
    go_wp2_with fail
    refine (HZ2.out _).mono ?_
    rintro e w5 ⟨rfl, rfl⟩
    clear HZ1 HZ2
    obtain ⟨c0, c1, c2, c3⟩ := PA.c4
    go_wp2_with fail
    refine (HRf.out _).mono ?_
    rintro e w6 ⟨rfl, g6⟩
    replace PA := At.below g6 PA
    replace HC := HC.step g6
    clear g6
    clear c0 c1 c2 c3
    obtain ⟨c0, c1, c2, c3⟩ := PA.c4
    go_wp2_with fail
    refine (H.out.text _ (HL.out.below HC) (HQ.out.gr HC)).mono ?_
    rintro e w7 ⟨rfl, g7⟩
    replace PA := At.below g7 PA
    replace HC := HC.step g7
    clear g7
    clear c0 c1 c2 c3
    obtain ⟨c0, c1, c2, c3⟩ := PA.c4
    go_wp2_with fail
    refine (H.out.rtext _).mono ?_
    rintro e w8 ⟨rfl, g8⟩
    replace PA := At.below g8 PA
    replace HC := HC.step g8
    clear g8
    clear c0 c1 c2 c3
    obtain ⟨c0, c1, c2, c3⟩ := PA.c4
    go_wp2_with fail
    refine (H.out.cod1 _ (HL.out.below HC)).mono ?_
    rintro e w9 ⟨rfl, g9⟩
    replace PA := At.below g9 PA
    replace HC := HC.step g9
    clear g9
    clear c0 c1 c2 c3
    obtain ⟨c0, c1, c2, c3⟩ := PA.c4
    go_wp2_with fail
    refine (HRf.out _).mono ?_
    rintro e w10 ⟨rfl, g10⟩
    replace PA := At.below g10 PA
    replace HC := HC.step g10
    clear g10
    clear c0 c1 c2 c3
    obtain ⟨c0, c1, c2, c3⟩ := PA.c4
    go_wp2_with fail
    refine (H.out.valid _ (HL.out.below HC)).mono ?_
    rintro e w11 ⟨rfl, g11⟩
    replace PA := At.below g11 PA
    replace HC := HC.step g11
    clear g11
    clear c0 c1 c2 c3
    obtain ⟨c0, c1, c2, c3⟩ := PA.c4
    go_wp2_with fail
    refine (H.out.cod1 _ (HL.out.below HC)).mono ?_
    rintro e w12 ⟨rfl, g12⟩
    replace PA := At.below g12 PA
    replace HC := HC.step g12
    clear g12
    clear c0 c1 c2 c3
    obtain ⟨c0, c1, c2, c3⟩ := PA.c4
    go_wp2_with fail
    refine (H.out.read _ (HL.out.below HC)).mono ?_
    rintro e w13 ⟨E2, rfl, g13, HF⟩
    replace PA := At.below g13 PA
    replace HC := HC.step g13
    clear g13 c0 c1 c2 c3
    have hQ : w.heap.size < w13.heap.size := PA.lt
    go_wp2_with fail
    have QA : At (w13.alloc (.cells #[.int .i64 zq, .bool bq, .int .i64 xq, .int .i64 yq] 32)) w13.heap.size (rqL zq bq xq yq) := At.new4 w13 _ _ _ _ _
    have HG : Gr w13 (w13.alloc (.cells #[.int .i64 zq, .bool bq, .int .i64 xq, .int .i64 yq] 32)) := (Gr.refl _).alloc _
    replace PA := PA.alloc (.cells #[.int .i64 zq, .bool bq, .int .i64 xq, .int .i64 yq] 32)
    replace HC := HC.alloc (.cells #[.int .i64 zq, .bool bq, .int .i64 xq, .int .i64 yq] 32)
    generalize w13.heap.size = NQ at QA hQ ⊢
    generalize w13.alloc (.cells #[.int .i64 zq, .bool bq, .int .i64 xq, .int .i64 yq] 32) = w14 at *
    refine (H.out.rread _).mono ?_
    rintro e w15 ⟨rfl, g15⟩
    replace PA := At.below g15 PA
    replace QA := At.below g15 QA
    replace HC := HC.step g15
    replace HG := HG.step g15
    clear g15
    go_wp2_with fail
    have BA : At ((w15.alloc (.cells #[.int .i64 zq, .bool bq, .int .i64 xq, .int .i64 yq] 23)).alloc (.cells #[.int .i64 fc, .int .i64 fp] 41)) w15.heap.size (rqL zq bq xq yq) := (At.new4 w15 _ _ _ _ _).alloc _
    replace PA := (PA.alloc (.cells #[.int .i64 zq, .bool bq, .int .i64 xq, .int .i64 yq] 23)).alloc (.cells #[.int .i64 fc, .int .i64 fp] 41)
    replace QA := (QA.alloc (.cells #[.int .i64 zq, .bool bq, .int .i64 xq, .int .i64 yq] 23)).alloc (.cells #[.int .i64 fc, .int .i64 fp] 41)
    replace HC := (HC.alloc (.cells #[.int .i64 zq, .bool bq, .int .i64 xq, .int .i64 yq] 23)).alloc (.cells #[.int .i64 fc, .int .i64 fp] 41)
    replace HG := (HG.alloc (.cells #[.int .i64 zq, .bool bq, .int .i64 xq, .int .i64 yq] 23)).alloc (.cells #[.int .i64 fc, .int .i64 fp] 41)
    generalize w15.heap.size = NB at BA ⊢
    generalize (w15.alloc (.cells #[.int .i64 zq, .bool bq, .int .i64 xq, .int .i64 yq] 23)).alloc (.cells #[.int .i64 fc, .int .i64 fp] 41) = w16 at *
    refine (HF.out _ HG (HL.out.below HC)).mono ?_
    rintro e w17 ⟨rfl, g17⟩
    replace PA := At.below g17 PA
    replace QA := At.below g17 QA
    replace BA := At.below g17 BA
    replace HC := HC.step g17
    clear g17 HF HG
    go_upto_region 17 with fail
    go_region_held (fun w' => w'.cell? ⟨NQ, 0, none⟩ = some (.int .i64 zq) ∧ w'.cell? ⟨NQ, 1, none⟩ = some (.bool bq) ∧ w'.cell? ⟨NQ, 2, none⟩ = some (.int .i64 xq) ∧ w'.cell? ⟨NQ, 3, none⟩ = some (.int .i64 yq) ∧ w'.cell? ⟨NB, 0, none⟩ = some (.int .i64 zq) ∧ w'.cell? ⟨NB, 1, none⟩ = some (.bool bq) ∧ w'.cell? ⟨NB, 2, none⟩ = some (.int .i64 xq) ∧ w'.cell? ⟨NB, 3, none⟩ = some (.int .i64 yq))
      (exact cc44 QA BA)
      ((go_at_call 9; refine (HRq.out _).mono ?_; rintro e w18 ⟨rfl, hB8⟩; replace HC : Gr w w18 := Gr.step (by ((with_reducible repeat' (first | assumption | refine Gr.drewN ?_ _ | refine Gr.drew ?_ | refine Gr.alloc ?_ _ | exact Gr.refl _)); done)) hB8; replace PA : At w18 w.heap.size (rqL z b x y) := At.below hB8 PA; replace QA : At w18 NQ (rqL zq bq xq yq) := At.below hB8 QA; replace BA : At w18 NB (rqL zq bq xq yq) := At.below hB8 BA; clear hB8))
    clear BA HRq
    obtain ⟨c0, c1', c2, c3'⟩ := PA.c4
    go_wp2_with fail
    refine (HRf.out _).mono ?_
    rintro e w19 ⟨rfl, g19⟩
    replace PA := At.below g19 PA
    replace QA := At.below g19 QA
    replace HC := HC.step g19
    clear g19
    clear c0 c1' c2 c3'
    obtain ⟨c0, c1', c2, c3'⟩ := PA.c4
    go_wp2_with fail
    refine (H.out.square _ (HL.out.below HC) (HQ.out.gr HC)).mono ?_
    rintro e w20 ⟨rfl, g20⟩
    replace PA := At.below g20 PA
    replace QA := At.below g20 QA
    replace HC := HC.step g20
    clear g20
    clear c0 c1' c2 c3'
    obtain ⟨c0, c1', c2, c3'⟩ := PA.c4
    go_wp2_with fail
    refine (H.out.rsquare _).mono ?_
    rintro e w21 ⟨rfl, g21⟩
    replace PA := At.below g21 PA
    replace QA := At.below g21 QA
    replace HC := HC.step g21
    clear g21
    clear c0 c1' c2 c3'
    obtain ⟨c0, c1', c2, c3'⟩ := PA.c4
    go_wp2_with fail
    refine (H.out.cod3 _ (HL.out.below HC)).mono ?_
    rintro e w22 ⟨rfl, g22⟩
    replace PA := At.below g22 PA
    replace QA := At.below g22 QA
    replace HC := HC.step g22
    clear g22
    clear c0 c1' c2 c3'
    obtain ⟨c0, c1', c2, c3'⟩ := PA.c4
    rcases H.out.inn with hc | ⟨hc, hin⟩
    · rcases H.out.back with hb | ⟨hb, hbk⟩
      · go_wp2_with fail
        go_ret
        exact ⟨rfl, HC⟩
      · have HBK := hidb hbk
        clear hbk
        go_wp2_with fail
        refine (HBK.out _ (HL.out.below HC)).mono ?_
        rintro e w25 ⟨rfl, g25⟩
        replace PA := At.below g25 PA
        replace QA := At.below g25 QA
        replace HC := HC.step g25
        clear g25 c0 c1' c2 c3' HBK
        obtain ⟨q0, q1, q2, q3⟩ := QA.c4
        obtain ⟨f0, f1, f2, f3⟩ := QA.f4
        have QS : At ((((w25.setCell ⟨NQ, 0, none⟩ (.int .i64 z)).setCell ⟨NQ, 1, none⟩ (.bool b)).setCell ⟨NQ, 2, none⟩ (.int .i64 x)).setCell ⟨NQ, 3, none⟩ (.int .i64 y)) NQ (rqL z b x y) := At.fill4 (QA.has rfl) _ _ _ _
        replace PA : At ((((w25.setCell ⟨NQ, 0, none⟩ (.int .i64 z)).setCell ⟨NQ, 1, none⟩ (.bool b)).setCell ⟨NQ, 2, none⟩ (.int .i64 x)).setCell ⟨NQ, 3, none⟩ (.int .i64 y)) w.heap.size (rqL z b x y) := (((PA.skip (by omega) _ _).skip (by omega) _ _).skip (by omega) _ _).skip (by omega) _ _
        replace HC : Gr w ((((w25.setCell ⟨NQ, 0, none⟩ (.int .i64 z)).setCell ⟨NQ, 1, none⟩ (.bool b)).setCell ⟨NQ, 2, none⟩ (.int .i64 x)).setCell ⟨NQ, 3, none⟩ (.int .i64 y)) := (((HC.set (by omega) _ _).set (by omega) _ _).set (by omega) _ _).set (by omega) _ _
        go_upto_region 31 with fail
        generalize World.setCell _ ⟨NQ, 3, none⟩ _ = w26 at PA QS HC ⊢
        clear q0 q1 q2 q3 f0 f1 f2 f3 QA
        go_region_held (fun w' => w'.cell? ⟨NQ, 0, none⟩ = some (.int .i64 z) ∧ w'.cell? ⟨NQ, 1, none⟩ = some (.bool b) ∧ w'.cell? ⟨NQ, 2, none⟩ = some (.int .i64 x) ∧ w'.cell? ⟨NQ, 3, none⟩ = some (.int .i64 y) ∧ w'.cell? ⟨w.heap.size, 0, none⟩ = some (.int .i64 z) ∧ w'.cell? ⟨w.heap.size, 1, none⟩ = some (.bool b) ∧ w'.cell? ⟨w.heap.size, 2, none⟩ = some (.int .i64 x) ∧ w'.cell? ⟨w.heap.size, 3, none⟩ = some (.int .i64 y))
          (exact cc44 QS PA)
          ((go_at_call 9; refine (HRf.out _).mono ?_; rintro e w27 ⟨rfl, hB8⟩; replace HC : Gr w w27 := Gr.step (by ((with_reducible repeat' (first | assumption | refine Gr.drewN ?_ _ | refine Gr.drew ?_ | refine Gr.alloc ?_ _ | exact Gr.refl _)); done)) hB8; replace PA : At w27 w.heap.size (rqL z b x y) := At.below hB8 PA; replace QS : At w27 NQ (rqL z b x y) := At.below hB8 QS; clear hB8))
        all_goals
          go_wp2_with fail
          go_ret
          exact ⟨by simp, by ((with_reducible repeat' (first | assumption | refine Gr.drewN ?_ _ | refine Gr.drew ?_ | refine Gr.alloc ?_ _ | exact Gr.refl _)); done)⟩
    · have HIN := hidb hin
      clear hin
      go_wp2_with fail
      refine (HRf.out _).mono ?_
      rintro e w23 ⟨rfl, g23⟩
      replace PA := At.below g23 PA
      replace QA := At.below g23 QA
      replace HC := HC.step g23
      clear g23
      clear c0 c1' c2 c3'
      obtain ⟨c0, c1', c2, c3'⟩ := PA.c4
      go_wp2_with fail
      refine (HIN.out _ (HQ.out.gr HC)).mono ?_
      rintro e w24 ⟨rfl, g24⟩
      replace PA := At.below g24 PA
      replace QA := At.below g24 QA
      replace HC := HC.step g24
      clear g24
      clear c0 c1' c2 c3'
      obtain ⟨c0, c1', c2, c3'⟩ := PA.c4
      clear HIN
      rcases H.out.back with hb | ⟨hb, hbk⟩
      · go_wp2_with fail
        go_ret
        exact ⟨rfl, HC⟩
      · have HBK := hidb hbk
        clear hbk
        go_wp2_with fail
        refine (HBK.out _ (HL.out.below HC)).mono ?_
        rintro e w25 ⟨rfl, g25⟩
        replace PA := At.below g25 PA
        replace QA := At.below g25 QA
        replace HC := HC.step g25
        clear g25 c0 c1' c2 c3' HBK
        obtain ⟨q0, q1, q2, q3⟩ := QA.c4
        obtain ⟨f0, f1, f2, f3⟩ := QA.f4
        have QS : At ((((w25.setCell ⟨NQ, 0, none⟩ (.int .i64 z)).setCell ⟨NQ, 1, none⟩ (.bool b)).setCell ⟨NQ, 2, none⟩ (.int .i64 x)).setCell ⟨NQ, 3, none⟩ (.int .i64 y)) NQ (rqL z b x y) := At.fill4 (QA.has rfl) _ _ _ _
        replace PA : At ((((w25.setCell ⟨NQ, 0, none⟩ (.int .i64 z)).setCell ⟨NQ, 1, none⟩ (.bool b)).setCell ⟨NQ, 2, none⟩ (.int .i64 x)).setCell ⟨NQ, 3, none⟩ (.int .i64 y)) w.heap.size (rqL z b x y) := (((PA.skip (by omega) _ _).skip (by omega) _ _).skip (by omega) _ _).skip (by omega) _ _
        replace HC : Gr w ((((w25.setCell ⟨NQ, 0, none⟩ (.int .i64 z)).setCell ⟨NQ, 1, none⟩ (.bool b)).setCell ⟨NQ, 2, none⟩ (.int .i64 x)).setCell ⟨NQ, 3, none⟩ (.int .i64 y)) := (((HC.set (by omega) _ _).set (by omega) _ _).set (by omega) _ _).set (by omega) _ _
        go_upto_region 31 with fail
        generalize World.setCell _ ⟨NQ, 3, none⟩ _ = w26 at PA QS HC ⊢
        clear q0 q1 q2 q3 f0 f1 f2 f3 QA
        go_region_held (fun w' => w'.cell? ⟨NQ, 0, none⟩ = some (.int .i64 z) ∧ w'.cell? ⟨NQ, 1, none⟩ = some (.bool b) ∧ w'.cell? ⟨NQ, 2, none⟩ = some (.int .i64 x) ∧ w'.cell? ⟨NQ, 3, none⟩ = some (.int .i64 y) ∧ w'.cell? ⟨w.heap.size, 0, none⟩ = some (.int .i64 z) ∧ w'.cell? ⟨w.heap.size, 1, none⟩ = some (.bool b) ∧ w'.cell? ⟨w.heap.size, 2, none⟩ = some (.int .i64 x) ∧ w'.cell? ⟨w.heap.size, 3, none⟩ = some (.int .i64 y))
          (exact cc44 QS PA)
          ((go_at_call 9; refine (HRf.out _).mono ?_; rintro e w27 ⟨rfl, hB8⟩; replace HC : Gr w w27 := Gr.step (by ((with_reducible repeat' (first | assumption | refine Gr.drewN ?_ _ | refine Gr.drew ?_ | refine Gr.alloc ?_ _ | exact Gr.refl _)); done)) hB8; replace PA : At w27 w.heap.size (rqL z b x y) := At.below hB8 PA; replace QS : At w27 NQ (rqL z b x y) := At.below hB8 QS; clear hB8))
        all_goals
          go_wp2_with fail
          go_ret
          exact ⟨by simp, by ((with_reducible repeat' (first | assumption | refine Gr.drewN ?_ _ | refine Gr.drew ?_ | refine Gr.alloc ?_ _ | exact Gr.refl _)); done)⟩
  · clear HZC
    have HM := hidb (fun w hl => middle_no g zone (Or.inr hz) w hl)
    go_wp2_with fail
    refine (HM.out _ (HL.out.below HC)).mono ?_
    rintro e w2 ⟨rfl, g2⟩
    replace PA := At.below g2 PA
    replace HC := HC.step g2
    clear g2
    have HC0 := hidb (fun w hl => coded_g g 3 (by decide) w hl)
    go_wp2_with fail
    refine (HC0.out _ (HL.out.below HC)).mono ?_
    rintro e w3 ⟨rfl, g3⟩
    replace PA := At.below g3 PA
    replace HC := HC.step g3
    clear g3
    clear HM HC0 hz hz1
    go_wp2_with fail
    refine (HZ1.out _).mono ?_
    rintro e w4 ⟨rfl, rfl⟩
    go_wp2_with fail
    refine (HZ2.out _).mono ?_
    rintro e w5 ⟨rfl, rfl⟩
    clear HZ1 HZ2
    obtain ⟨c0, c1, c2, c3⟩ := PA.c4
    go_wp2_with fail
    refine (HRf.out _).mono ?_
    rintro e w6 ⟨rfl, g6⟩
    replace PA := At.below g6 PA
    replace HC := HC.step g6
    clear g6
    clear c0 c1 c2 c3
    obtain ⟨c0, c1, c2, c3⟩ := PA.c4
    go_wp2_with fail
    refine (H.out.text _ (HL.out.below HC) (HQ.out.gr HC)).mono ?_
    rintro e w7 ⟨rfl, g7⟩
    replace PA := At.below g7 PA
    replace HC := HC.step g7
    clear g7
    clear c0 c1 c2 c3
    obtain ⟨c0, c1, c2, c3⟩ := PA.c4
    go_wp2_with fail
    refine (H.out.rtext _).mono ?_
    rintro e w8 ⟨rfl, g8⟩
    replace PA := At.below g8 PA
    replace HC := HC.step g8
    clear g8
    clear c0 c1 c2 c3
    obtain ⟨c0, c1, c2, c3⟩ := PA.c4
    go_wp2_with fail
    refine (H.out.cod1 _ (HL.out.below HC)).mono ?_
    rintro e w9 ⟨rfl, g9⟩
    replace PA := At.below g9 PA
    replace HC := HC.step g9
    clear g9
    clear c0 c1 c2 c3
    obtain ⟨c0, c1, c2, c3⟩ := PA.c4
    go_wp2_with fail
    refine (HRf.out _).mono ?_
    rintro e w10 ⟨rfl, g10⟩
    replace PA := At.below g10 PA
    replace HC := HC.step g10
    clear g10
    clear c0 c1 c2 c3
    obtain ⟨c0, c1, c2, c3⟩ := PA.c4
    go_wp2_with fail
    refine (H.out.valid _ (HL.out.below HC)).mono ?_
    rintro e w11 ⟨rfl, g11⟩
    replace PA := At.below g11 PA
    replace HC := HC.step g11
    clear g11
    clear c0 c1 c2 c3
    obtain ⟨c0, c1, c2, c3⟩ := PA.c4
    go_wp2_with fail
    refine (H.out.cod1 _ (HL.out.below HC)).mono ?_
    rintro e w12 ⟨rfl, g12⟩
    replace PA := At.below g12 PA
    replace HC := HC.step g12
    clear g12
    clear c0 c1 c2 c3
    obtain ⟨c0, c1, c2, c3⟩ := PA.c4
    go_wp2_with fail
    refine (H.out.read _ (HL.out.below HC)).mono ?_
    rintro e w13 ⟨E2, rfl, g13, HF⟩
    replace PA := At.below g13 PA
    replace HC := HC.step g13
    clear g13 c0 c1 c2 c3
    have hQ : w.heap.size < w13.heap.size := PA.lt
    go_wp2_with fail
    have QA : At (w13.alloc (.cells #[.int .i64 zq, .bool bq, .int .i64 xq, .int .i64 yq] 32)) w13.heap.size (rqL zq bq xq yq) := At.new4 w13 _ _ _ _ _
    have HG : Gr w13 (w13.alloc (.cells #[.int .i64 zq, .bool bq, .int .i64 xq, .int .i64 yq] 32)) := (Gr.refl _).alloc _
    replace PA := PA.alloc (.cells #[.int .i64 zq, .bool bq, .int .i64 xq, .int .i64 yq] 32)
    replace HC := HC.alloc (.cells #[.int .i64 zq, .bool bq, .int .i64 xq, .int .i64 yq] 32)
    generalize w13.heap.size = NQ at QA hQ ⊢
    generalize w13.alloc (.cells #[.int .i64 zq, .bool bq, .int .i64 xq, .int .i64 yq] 32) = w14 at *
    refine (H.out.rread _).mono ?_
    rintro e w15 ⟨rfl, g15⟩
    replace PA := At.below g15 PA
    replace QA := At.below g15 QA
    replace HC := HC.step g15
    replace HG := HG.step g15
    clear g15
    go_wp2_with fail
    have BA : At ((w15.alloc (.cells #[.int .i64 zq, .bool bq, .int .i64 xq, .int .i64 yq] 23)).alloc (.cells #[.int .i64 fc, .int .i64 fp] 41)) w15.heap.size (rqL zq bq xq yq) := (At.new4 w15 _ _ _ _ _).alloc _
    replace PA := (PA.alloc (.cells #[.int .i64 zq, .bool bq, .int .i64 xq, .int .i64 yq] 23)).alloc (.cells #[.int .i64 fc, .int .i64 fp] 41)
    replace QA := (QA.alloc (.cells #[.int .i64 zq, .bool bq, .int .i64 xq, .int .i64 yq] 23)).alloc (.cells #[.int .i64 fc, .int .i64 fp] 41)
    replace HC := (HC.alloc (.cells #[.int .i64 zq, .bool bq, .int .i64 xq, .int .i64 yq] 23)).alloc (.cells #[.int .i64 fc, .int .i64 fp] 41)
    replace HG := (HG.alloc (.cells #[.int .i64 zq, .bool bq, .int .i64 xq, .int .i64 yq] 23)).alloc (.cells #[.int .i64 fc, .int .i64 fp] 41)
    generalize w15.heap.size = NB at BA ⊢
    generalize (w15.alloc (.cells #[.int .i64 zq, .bool bq, .int .i64 xq, .int .i64 yq] 23)).alloc (.cells #[.int .i64 fc, .int .i64 fp] 41) = w16 at *
    refine (HF.out _ HG (HL.out.below HC)).mono ?_
    rintro e w17 ⟨rfl, g17⟩
    replace PA := At.below g17 PA
    replace QA := At.below g17 QA
    replace BA := At.below g17 BA
    replace HC := HC.step g17
    clear g17 HF HG
    go_upto_region 17 with fail
    go_region_held (fun w' => w'.cell? ⟨NQ, 0, none⟩ = some (.int .i64 zq) ∧ w'.cell? ⟨NQ, 1, none⟩ = some (.bool bq) ∧ w'.cell? ⟨NQ, 2, none⟩ = some (.int .i64 xq) ∧ w'.cell? ⟨NQ, 3, none⟩ = some (.int .i64 yq) ∧ w'.cell? ⟨NB, 0, none⟩ = some (.int .i64 zq) ∧ w'.cell? ⟨NB, 1, none⟩ = some (.bool bq) ∧ w'.cell? ⟨NB, 2, none⟩ = some (.int .i64 xq) ∧ w'.cell? ⟨NB, 3, none⟩ = some (.int .i64 yq))
      (exact cc44 QA BA)
      ((go_at_call 9; refine (HRq.out _).mono ?_; rintro e w18 ⟨rfl, hB8⟩; replace HC : Gr w w18 := Gr.step (by ((with_reducible repeat' (first | assumption | refine Gr.drewN ?_ _ | refine Gr.drew ?_ | refine Gr.alloc ?_ _ | exact Gr.refl _)); done)) hB8; replace PA : At w18 w.heap.size (rqL z b x y) := At.below hB8 PA; replace QA : At w18 NQ (rqL zq bq xq yq) := At.below hB8 QA; replace BA : At w18 NB (rqL zq bq xq yq) := At.below hB8 BA; clear hB8))
    clear BA HRq
    obtain ⟨c0, c1', c2, c3'⟩ := PA.c4
    go_wp2_with fail
    refine (HRf.out _).mono ?_
    rintro e w19 ⟨rfl, g19⟩
    replace PA := At.below g19 PA
    replace QA := At.below g19 QA
    replace HC := HC.step g19
    clear g19
    clear c0 c1' c2 c3'
    obtain ⟨c0, c1', c2, c3'⟩ := PA.c4
    go_wp2_with fail
    refine (H.out.square _ (HL.out.below HC) (HQ.out.gr HC)).mono ?_
    rintro e w20 ⟨rfl, g20⟩
    replace PA := At.below g20 PA
    replace QA := At.below g20 QA
    replace HC := HC.step g20
    clear g20
    clear c0 c1' c2 c3'
    obtain ⟨c0, c1', c2, c3'⟩ := PA.c4
    go_wp2_with fail
    refine (H.out.rsquare _).mono ?_
    rintro e w21 ⟨rfl, g21⟩
    replace PA := At.below g21 PA
    replace QA := At.below g21 QA
    replace HC := HC.step g21
    clear g21
    clear c0 c1' c2 c3'
    obtain ⟨c0, c1', c2, c3'⟩ := PA.c4
    go_wp2_with fail
    refine (H.out.cod3 _ (HL.out.below HC)).mono ?_
    rintro e w22 ⟨rfl, g22⟩
    replace PA := At.below g22 PA
    replace QA := At.below g22 QA
    replace HC := HC.step g22
    clear g22
    clear c0 c1' c2 c3'
    obtain ⟨c0, c1', c2, c3'⟩ := PA.c4
    rcases H.out.inn with hc | ⟨hc, hin⟩
    · rcases H.out.back with hb | ⟨hb, hbk⟩
      · go_wp2_with fail
        go_ret
        exact ⟨rfl, HC⟩
      · have HBK := hidb hbk
        clear hbk
        go_wp2_with fail
        refine (HBK.out _ (HL.out.below HC)).mono ?_
        rintro e w25 ⟨rfl, g25⟩
        replace PA := At.below g25 PA
        replace QA := At.below g25 QA
        replace HC := HC.step g25
        clear g25 c0 c1' c2 c3' HBK
        obtain ⟨q0, q1, q2, q3⟩ := QA.c4
        obtain ⟨f0, f1, f2, f3⟩ := QA.f4
        have QS : At ((((w25.setCell ⟨NQ, 0, none⟩ (.int .i64 z)).setCell ⟨NQ, 1, none⟩ (.bool b)).setCell ⟨NQ, 2, none⟩ (.int .i64 x)).setCell ⟨NQ, 3, none⟩ (.int .i64 y)) NQ (rqL z b x y) := At.fill4 (QA.has rfl) _ _ _ _
        replace PA : At ((((w25.setCell ⟨NQ, 0, none⟩ (.int .i64 z)).setCell ⟨NQ, 1, none⟩ (.bool b)).setCell ⟨NQ, 2, none⟩ (.int .i64 x)).setCell ⟨NQ, 3, none⟩ (.int .i64 y)) w.heap.size (rqL z b x y) := (((PA.skip (by omega) _ _).skip (by omega) _ _).skip (by omega) _ _).skip (by omega) _ _
        replace HC : Gr w ((((w25.setCell ⟨NQ, 0, none⟩ (.int .i64 z)).setCell ⟨NQ, 1, none⟩ (.bool b)).setCell ⟨NQ, 2, none⟩ (.int .i64 x)).setCell ⟨NQ, 3, none⟩ (.int .i64 y)) := (((HC.set (by omega) _ _).set (by omega) _ _).set (by omega) _ _).set (by omega) _ _
        go_upto_region 31 with fail
        generalize World.setCell _ ⟨NQ, 3, none⟩ _ = w26 at PA QS HC ⊢
        clear q0 q1 q2 q3 f0 f1 f2 f3 QA
        go_region_held (fun w' => w'.cell? ⟨NQ, 0, none⟩ = some (.int .i64 z) ∧ w'.cell? ⟨NQ, 1, none⟩ = some (.bool b) ∧ w'.cell? ⟨NQ, 2, none⟩ = some (.int .i64 x) ∧ w'.cell? ⟨NQ, 3, none⟩ = some (.int .i64 y) ∧ w'.cell? ⟨w.heap.size, 0, none⟩ = some (.int .i64 z) ∧ w'.cell? ⟨w.heap.size, 1, none⟩ = some (.bool b) ∧ w'.cell? ⟨w.heap.size, 2, none⟩ = some (.int .i64 x) ∧ w'.cell? ⟨w.heap.size, 3, none⟩ = some (.int .i64 y))
          (exact cc44 QS PA)
          ((go_at_call 9; refine (HRf.out _).mono ?_; rintro e w27 ⟨rfl, hB8⟩; replace HC : Gr w w27 := Gr.step (by ((with_reducible repeat' (first | assumption | refine Gr.drewN ?_ _ | refine Gr.drew ?_ | refine Gr.alloc ?_ _ | exact Gr.refl _)); done)) hB8; replace PA : At w27 w.heap.size (rqL z b x y) := At.below hB8 PA; replace QS : At w27 NQ (rqL z b x y) := At.below hB8 QS; clear hB8))
        all_goals
          go_wp2_with fail
          go_ret
          exact ⟨by simp, by ((with_reducible repeat' (first | assumption | refine Gr.drewN ?_ _ | refine Gr.drew ?_ | refine Gr.alloc ?_ _ | exact Gr.refl _)); done)⟩
    · have HIN := hidb hin
      clear hin
      go_wp2_with fail
      refine (HRf.out _).mono ?_
      rintro e w23 ⟨rfl, g23⟩
      replace PA := At.below g23 PA
      replace QA := At.below g23 QA
      replace HC := HC.step g23
      clear g23
      clear c0 c1' c2 c3'
      obtain ⟨c0, c1', c2, c3'⟩ := PA.c4
      go_wp2_with fail
      refine (HIN.out _ (HQ.out.gr HC)).mono ?_
      rintro e w24 ⟨rfl, g24⟩
      replace PA := At.below g24 PA
      replace QA := At.below g24 QA
      replace HC := HC.step g24
      clear g24
      clear c0 c1' c2 c3'
      obtain ⟨c0, c1', c2, c3'⟩ := PA.c4
      clear HIN
      rcases H.out.back with hb | ⟨hb, hbk⟩
      · go_wp2_with fail
        go_ret
        exact ⟨rfl, HC⟩
      · have HBK := hidb hbk
        clear hbk
        go_wp2_with fail
        refine (HBK.out _ (HL.out.below HC)).mono ?_
        rintro e w25 ⟨rfl, g25⟩
        replace PA := At.below g25 PA
        replace QA := At.below g25 QA
        replace HC := HC.step g25
        clear g25 c0 c1' c2 c3' HBK
        obtain ⟨q0, q1, q2, q3⟩ := QA.c4
        obtain ⟨f0, f1, f2, f3⟩ := QA.f4
        have QS : At ((((w25.setCell ⟨NQ, 0, none⟩ (.int .i64 z)).setCell ⟨NQ, 1, none⟩ (.bool b)).setCell ⟨NQ, 2, none⟩ (.int .i64 x)).setCell ⟨NQ, 3, none⟩ (.int .i64 y)) NQ (rqL z b x y) := At.fill4 (QA.has rfl) _ _ _ _
        replace PA : At ((((w25.setCell ⟨NQ, 0, none⟩ (.int .i64 z)).setCell ⟨NQ, 1, none⟩ (.bool b)).setCell ⟨NQ, 2, none⟩ (.int .i64 x)).setCell ⟨NQ, 3, none⟩ (.int .i64 y)) w.heap.size (rqL z b x y) := (((PA.skip (by omega) _ _).skip (by omega) _ _).skip (by omega) _ _).skip (by omega) _ _
        replace HC : Gr w ((((w25.setCell ⟨NQ, 0, none⟩ (.int .i64 z)).setCell ⟨NQ, 1, none⟩ (.bool b)).setCell ⟨NQ, 2, none⟩ (.int .i64 x)).setCell ⟨NQ, 3, none⟩ (.int .i64 y)) := (((HC.set (by omega) _ _).set (by omega) _ _).set (by omega) _ _).set (by omega) _ _
        go_upto_region 31 with fail
        generalize World.setCell _ ⟨NQ, 3, none⟩ _ = w26 at PA QS HC ⊢
        clear q0 q1 q2 q3 f0 f1 f2 f3 QA
        go_region_held (fun w' => w'.cell? ⟨NQ, 0, none⟩ = some (.int .i64 z) ∧ w'.cell? ⟨NQ, 1, none⟩ = some (.bool b) ∧ w'.cell? ⟨NQ, 2, none⟩ = some (.int .i64 x) ∧ w'.cell? ⟨NQ, 3, none⟩ = some (.int .i64 y) ∧ w'.cell? ⟨w.heap.size, 0, none⟩ = some (.int .i64 z) ∧ w'.cell? ⟨w.heap.size, 1, none⟩ = some (.bool b) ∧ w'.cell? ⟨w.heap.size, 2, none⟩ = some (.int .i64 x) ∧ w'.cell? ⟨w.heap.size, 3, none⟩ = some (.int .i64 y))
          (exact cc44 QS PA)
          ((go_at_call 9; refine (HRf.out _).mono ?_; rintro e w27 ⟨rfl, hB8⟩; replace HC : Gr w w27 := Gr.step (by ((with_reducible repeat' (first | assumption | refine Gr.drewN ?_ _ | refine Gr.drew ?_ | refine Gr.alloc ?_ _ | exact Gr.refl _)); done)) hB8; replace PA : At w27 w.heap.size (rqL z b x y) := At.below hB8 PA; replace QS : At w27 NQ (rqL z b x y) := At.below hB8 QS; clear hB8))
        all_goals
          go_wp2_with fail
          go_ret
          exact ⟨by simp, by ((with_reducible repeat' (first | assumption | refine Gr.drewN ?_ _ | refine Gr.drew ?_ | refine Gr.alloc ?_ _ | exact Gr.refl _)); done)⟩
  · clear HZC
    have HM := hidb (fun w => middle_ok zone hz1 hz2 w)
    have z1 : ¬ zone < 1 := by omega
    have z2 : ¬ 60 < zone := by omega
    have e1 : IntKind.i64.wrap (6 * zone) = 6 * zone := wrq (by omega) (by omega)
    have e2 : IntKind.i64.wrap (6 * zone - 183) = 6 * zone - 183 := wrq (by omega) (by omega)
    have e3 : IntKind.i64.wrap ((6 * zone - 183) * 1000000000) = (6 * zone - 183) * 1000000000 := wrq (by omega) (by omega)
    clear hz1 hz2
    go_wp2_with fail
    refine (HM.out _).mono ?_
    rintro e w2 ⟨rfl, rfl⟩
    clear HM
    go_wp2_with fail
    refine (HZ1.out _).mono ?_
    rintro e w4 ⟨rfl, rfl⟩
    go_wp2_with fail
    refine (HZ2.out _).mono ?_
    rintro e w5 ⟨rfl, rfl⟩
    clear HZ1 HZ2
    obtain ⟨c0, c1, c2, c3⟩ := PA.c4
    go_wp2_with fail
    refine (HRf.out _).mono ?_
    rintro e w6 ⟨rfl, g6⟩
    replace PA := At.below g6 PA
    replace HC := HC.step g6
    clear g6
    clear c0 c1 c2 c3
    obtain ⟨c0, c1, c2, c3⟩ := PA.c4
    go_wp2_with fail
    refine (H.out.text _ (HL.out.below HC) (HQ.out.gr HC)).mono ?_
    rintro e w7 ⟨rfl, g7⟩
    replace PA := At.below g7 PA
    replace HC := HC.step g7
    clear g7
    clear c0 c1 c2 c3
    obtain ⟨c0, c1, c2, c3⟩ := PA.c4
    go_wp2_with fail
    refine (H.out.rtext _).mono ?_
    rintro e w8 ⟨rfl, g8⟩
    replace PA := At.below g8 PA
    replace HC := HC.step g8
    clear g8
    clear c0 c1 c2 c3
    obtain ⟨c0, c1, c2, c3⟩ := PA.c4
    go_wp2_with fail
    refine (H.out.cod1 _ (HL.out.below HC)).mono ?_
    rintro e w9 ⟨rfl, g9⟩
    replace PA := At.below g9 PA
    replace HC := HC.step g9
    clear g9
    clear c0 c1 c2 c3
    obtain ⟨c0, c1, c2, c3⟩ := PA.c4
    go_wp2_with fail
    refine (HRf.out _).mono ?_
    rintro e w10 ⟨rfl, g10⟩
    replace PA := At.below g10 PA
    replace HC := HC.step g10
    clear g10
    clear c0 c1 c2 c3
    obtain ⟨c0, c1, c2, c3⟩ := PA.c4
    go_wp2_with fail
    refine (H.out.valid _ (HL.out.below HC)).mono ?_
    rintro e w11 ⟨rfl, g11⟩
    replace PA := At.below g11 PA
    replace HC := HC.step g11
    clear g11
    clear c0 c1 c2 c3
    obtain ⟨c0, c1, c2, c3⟩ := PA.c4
    go_wp2_with fail
    refine (H.out.cod1 _ (HL.out.below HC)).mono ?_
    rintro e w12 ⟨rfl, g12⟩
    replace PA := At.below g12 PA
    replace HC := HC.step g12
    clear g12
    clear c0 c1 c2 c3
    obtain ⟨c0, c1, c2, c3⟩ := PA.c4
    go_wp2_with fail
    refine (H.out.read _ (HL.out.below HC)).mono ?_
    rintro e w13 ⟨E2, rfl, g13, HF⟩
    replace PA := At.below g13 PA
    replace HC := HC.step g13
    clear g13 c0 c1 c2 c3
    have hQ : w.heap.size < w13.heap.size := PA.lt
    go_wp2_with fail
    have QA : At (w13.alloc (.cells #[.int .i64 zq, .bool bq, .int .i64 xq, .int .i64 yq] 32)) w13.heap.size (rqL zq bq xq yq) := At.new4 w13 _ _ _ _ _
    have HG : Gr w13 (w13.alloc (.cells #[.int .i64 zq, .bool bq, .int .i64 xq, .int .i64 yq] 32)) := (Gr.refl _).alloc _
    replace PA := PA.alloc (.cells #[.int .i64 zq, .bool bq, .int .i64 xq, .int .i64 yq] 32)
    replace HC := HC.alloc (.cells #[.int .i64 zq, .bool bq, .int .i64 xq, .int .i64 yq] 32)
    generalize w13.heap.size = NQ at QA hQ ⊢
    generalize w13.alloc (.cells #[.int .i64 zq, .bool bq, .int .i64 xq, .int .i64 yq] 32) = w14 at *
    refine (H.out.rread _).mono ?_
    rintro e w15 ⟨rfl, g15⟩
    replace PA := At.below g15 PA
    replace QA := At.below g15 QA
    replace HC := HC.step g15
    replace HG := HG.step g15
    clear g15
    go_wp2_with fail
    have BA : At ((w15.alloc (.cells #[.int .i64 zq, .bool bq, .int .i64 xq, .int .i64 yq] 23)).alloc (.cells #[.int .i64 fc, .int .i64 fp] 41)) w15.heap.size (rqL zq bq xq yq) := (At.new4 w15 _ _ _ _ _).alloc _
    replace PA := (PA.alloc (.cells #[.int .i64 zq, .bool bq, .int .i64 xq, .int .i64 yq] 23)).alloc (.cells #[.int .i64 fc, .int .i64 fp] 41)
    replace QA := (QA.alloc (.cells #[.int .i64 zq, .bool bq, .int .i64 xq, .int .i64 yq] 23)).alloc (.cells #[.int .i64 fc, .int .i64 fp] 41)
    replace HC := (HC.alloc (.cells #[.int .i64 zq, .bool bq, .int .i64 xq, .int .i64 yq] 23)).alloc (.cells #[.int .i64 fc, .int .i64 fp] 41)
    replace HG := (HG.alloc (.cells #[.int .i64 zq, .bool bq, .int .i64 xq, .int .i64 yq] 23)).alloc (.cells #[.int .i64 fc, .int .i64 fp] 41)
    generalize w15.heap.size = NB at BA ⊢
    generalize (w15.alloc (.cells #[.int .i64 zq, .bool bq, .int .i64 xq, .int .i64 yq] 23)).alloc (.cells #[.int .i64 fc, .int .i64 fp] 41) = w16 at *
    refine (HF.out _ HG (HL.out.below HC)).mono ?_
    rintro e w17 ⟨rfl, g17⟩
    replace PA := At.below g17 PA
    replace QA := At.below g17 QA
    replace BA := At.below g17 BA
    replace HC := HC.step g17
    clear g17 HF HG
    go_upto_region 17 with fail
    go_region_held (fun w' => w'.cell? ⟨NQ, 0, none⟩ = some (.int .i64 zq) ∧ w'.cell? ⟨NQ, 1, none⟩ = some (.bool bq) ∧ w'.cell? ⟨NQ, 2, none⟩ = some (.int .i64 xq) ∧ w'.cell? ⟨NQ, 3, none⟩ = some (.int .i64 yq) ∧ w'.cell? ⟨NB, 0, none⟩ = some (.int .i64 zq) ∧ w'.cell? ⟨NB, 1, none⟩ = some (.bool bq) ∧ w'.cell? ⟨NB, 2, none⟩ = some (.int .i64 xq) ∧ w'.cell? ⟨NB, 3, none⟩ = some (.int .i64 yq))
      (exact cc44 QA BA)
      ((go_at_call 9; refine (HRq.out _).mono ?_; rintro e w18 ⟨rfl, hB8⟩; replace HC : Gr w w18 := Gr.step (by ((with_reducible repeat' (first | assumption | refine Gr.drewN ?_ _ | refine Gr.drew ?_ | refine Gr.alloc ?_ _ | exact Gr.refl _)); done)) hB8; replace PA : At w18 w.heap.size (rqL z b x y) := At.below hB8 PA; replace QA : At w18 NQ (rqL zq bq xq yq) := At.below hB8 QA; replace BA : At w18 NB (rqL zq bq xq yq) := At.below hB8 BA; clear hB8))
    clear BA HRq
    obtain ⟨c0, c1', c2, c3'⟩ := PA.c4
    go_wp2_with fail
    refine (HRf.out _).mono ?_
    rintro e w19 ⟨rfl, g19⟩
    replace PA := At.below g19 PA
    replace QA := At.below g19 QA
    replace HC := HC.step g19
    clear g19
    clear c0 c1' c2 c3'
    obtain ⟨c0, c1', c2, c3'⟩ := PA.c4
    go_wp2_with fail
    refine (H.out.square _ (HL.out.below HC) (HQ.out.gr HC)).mono ?_
    rintro e w20 ⟨rfl, g20⟩
    replace PA := At.below g20 PA
    replace QA := At.below g20 QA
    replace HC := HC.step g20
    clear g20
    clear c0 c1' c2 c3'
    obtain ⟨c0, c1', c2, c3'⟩ := PA.c4
    go_wp2_with fail
    refine (H.out.rsquare _).mono ?_
    rintro e w21 ⟨rfl, g21⟩
    replace PA := At.below g21 PA
    replace QA := At.below g21 QA
    replace HC := HC.step g21
    clear g21
    clear c0 c1' c2 c3'
    obtain ⟨c0, c1', c2, c3'⟩ := PA.c4
    go_wp2_with fail
    refine (H.out.cod3 _ (HL.out.below HC)).mono ?_
    rintro e w22 ⟨rfl, g22⟩
    replace PA := At.below g22 PA
    replace QA := At.below g22 QA
    replace HC := HC.step g22
    clear g22
    clear c0 c1' c2 c3'
    obtain ⟨c0, c1', c2, c3'⟩ := PA.c4
    rcases H.out.inn with hc | ⟨hc, hin⟩
    · rcases H.out.back with hb | ⟨hb, hbk⟩
      · go_wp2_with fail
        go_ret
        exact ⟨rfl, HC⟩
      · have HBK := hidb hbk
        clear hbk
        go_wp2_with fail
        refine (HBK.out _ (HL.out.below HC)).mono ?_
        rintro e w25 ⟨rfl, g25⟩
        replace PA := At.below g25 PA
        replace QA := At.below g25 QA
        replace HC := HC.step g25
        clear g25 c0 c1' c2 c3' HBK
        obtain ⟨q0, q1, q2, q3⟩ := QA.c4
        obtain ⟨f0, f1, f2, f3⟩ := QA.f4
        have QS : At ((((w25.setCell ⟨NQ, 0, none⟩ (.int .i64 z)).setCell ⟨NQ, 1, none⟩ (.bool b)).setCell ⟨NQ, 2, none⟩ (.int .i64 x)).setCell ⟨NQ, 3, none⟩ (.int .i64 y)) NQ (rqL z b x y) := At.fill4 (QA.has rfl) _ _ _ _
        replace PA : At ((((w25.setCell ⟨NQ, 0, none⟩ (.int .i64 z)).setCell ⟨NQ, 1, none⟩ (.bool b)).setCell ⟨NQ, 2, none⟩ (.int .i64 x)).setCell ⟨NQ, 3, none⟩ (.int .i64 y)) w.heap.size (rqL z b x y) := (((PA.skip (by omega) _ _).skip (by omega) _ _).skip (by omega) _ _).skip (by omega) _ _
        replace HC : Gr w ((((w25.setCell ⟨NQ, 0, none⟩ (.int .i64 z)).setCell ⟨NQ, 1, none⟩ (.bool b)).setCell ⟨NQ, 2, none⟩ (.int .i64 x)).setCell ⟨NQ, 3, none⟩ (.int .i64 y)) := (((HC.set (by omega) _ _).set (by omega) _ _).set (by omega) _ _).set (by omega) _ _
        go_upto_region 31 with fail
        generalize World.setCell _ ⟨NQ, 3, none⟩ _ = w26 at PA QS HC ⊢
        clear q0 q1 q2 q3 f0 f1 f2 f3 QA
        go_region_held (fun w' => w'.cell? ⟨NQ, 0, none⟩ = some (.int .i64 z) ∧ w'.cell? ⟨NQ, 1, none⟩ = some (.bool b) ∧ w'.cell? ⟨NQ, 2, none⟩ = some (.int .i64 x) ∧ w'.cell? ⟨NQ, 3, none⟩ = some (.int .i64 y) ∧ w'.cell? ⟨w.heap.size, 0, none⟩ = some (.int .i64 z) ∧ w'.cell? ⟨w.heap.size, 1, none⟩ = some (.bool b) ∧ w'.cell? ⟨w.heap.size, 2, none⟩ = some (.int .i64 x) ∧ w'.cell? ⟨w.heap.size, 3, none⟩ = some (.int .i64 y))
          (exact cc44 QS PA)
          ((go_at_call 9; refine (HRf.out _).mono ?_; rintro e w27 ⟨rfl, hB8⟩; replace HC : Gr w w27 := Gr.step (by ((with_reducible repeat' (first | assumption | refine Gr.drewN ?_ _ | refine Gr.drew ?_ | refine Gr.alloc ?_ _ | exact Gr.refl _)); done)) hB8; replace PA : At w27 w.heap.size (rqL z b x y) := At.below hB8 PA; replace QS : At w27 NQ (rqL z b x y) := At.below hB8 QS; clear hB8))
        all_goals
          go_wp2_with fail
          go_ret
          exact ⟨by simp, by ((with_reducible repeat' (first | assumption | refine Gr.drewN ?_ _ | refine Gr.drew ?_ | refine Gr.alloc ?_ _ | exact Gr.refl _)); done)⟩
    · have HIN := hidb hin
      clear hin
      go_wp2_with fail
      refine (HRf.out _).mono ?_
      rintro e w23 ⟨rfl, g23⟩
      replace PA := At.below g23 PA
      replace QA := At.below g23 QA
      replace HC := HC.step g23
      clear g23
      clear c0 c1' c2 c3'
      obtain ⟨c0, c1', c2, c3'⟩ := PA.c4
      go_wp2_with fail
      refine (HIN.out _ (HQ.out.gr HC)).mono ?_
      rintro e w24 ⟨rfl, g24⟩
      replace PA := At.below g24 PA
      replace QA := At.below g24 QA
      replace HC := HC.step g24
      clear g24
      clear c0 c1' c2 c3'
      obtain ⟨c0, c1', c2, c3'⟩ := PA.c4
      clear HIN
      rcases H.out.back with hb | ⟨hb, hbk⟩
      · go_wp2_with fail
        go_ret
        exact ⟨rfl, HC⟩
      · have HBK := hidb hbk
        clear hbk
        go_wp2_with fail
        refine (HBK.out _ (HL.out.below HC)).mono ?_
        rintro e w25 ⟨rfl, g25⟩
        replace PA := At.below g25 PA
        replace QA := At.below g25 QA
        replace HC := HC.step g25
        clear g25 c0 c1' c2 c3' HBK
        obtain ⟨q0, q1, q2, q3⟩ := QA.c4
        obtain ⟨f0, f1, f2, f3⟩ := QA.f4
        have QS : At ((((w25.setCell ⟨NQ, 0, none⟩ (.int .i64 z)).setCell ⟨NQ, 1, none⟩ (.bool b)).setCell ⟨NQ, 2, none⟩ (.int .i64 x)).setCell ⟨NQ, 3, none⟩ (.int .i64 y)) NQ (rqL z b x y) := At.fill4 (QA.has rfl) _ _ _ _
        replace PA : At ((((w25.setCell ⟨NQ, 0, none⟩ (.int .i64 z)).setCell ⟨NQ, 1, none⟩ (.bool b)).setCell ⟨NQ, 2, none⟩ (.int .i64 x)).setCell ⟨NQ, 3, none⟩ (.int .i64 y)) w.heap.size (rqL z b x y) := (((PA.skip (by omega) _ _).skip (by omega) _ _).skip (by omega) _ _).skip (by omega) _ _
        replace HC : Gr w ((((w25.setCell ⟨NQ, 0, none⟩ (.int .i64 z)).setCell ⟨NQ, 1, none⟩ (.bool b)).setCell ⟨NQ, 2, none⟩ (.int .i64 x)).setCell ⟨NQ, 3, none⟩ (.int .i64 y)) := (((HC.set (by omega) _ _).set (by omega) _ _).set (by omega) _ _).set (by omega) _ _
        go_upto_region 31 with fail
        generalize World.setCell _ ⟨NQ, 3, none⟩ _ = w26 at PA QS HC ⊢
        clear q0 q1 q2 q3 f0 f1 f2 f3 QA
        go_region_held (fun w' => w'.cell? ⟨NQ, 0, none⟩ = some (.int .i64 z) ∧ w'.cell? ⟨NQ, 1, none⟩ = some (.bool b) ∧ w'.cell? ⟨NQ, 2, none⟩ = some (.int .i64 x) ∧ w'.cell? ⟨NQ, 3, none⟩ = some (.int .i64 y) ∧ w'.cell? ⟨w.heap.size, 0, none⟩ = some (.int .i64 z) ∧ w'.cell? ⟨w.heap.size, 1, none⟩ = some (.bool b) ∧ w'.cell? ⟨w.heap.size, 2, none⟩ = some (.int .i64 x) ∧ w'.cell? ⟨w.heap.size, 3, none⟩ = some (.int .i64 y))
          (exact cc44 QS PA)
          ((go_at_call 9; refine (HRf.out _).mono ?_; rintro e w27 ⟨rfl, hB8⟩; replace HC : Gr w w27 := Gr.step (by ((with_reducible repeat' (first | assumption | refine Gr.drewN ?_ _ | refine Gr.drew ?_ | refine Gr.alloc ?_ _ | exact Gr.refl _)); done)) hB8; replace PA : At w27 w.heap.size (rqL z b x y) := At.below hB8 PA; replace QS : At w27 NQ (rqL z b x y) := At.below hB8 QS; clear hB8))
        all_goals
          go_wp2_with fail
          go_ret
          exact ⟨by simp, by ((with_reducible repeat' (first | assumption | refine Gr.drewN ?_ _ | refine Gr.drew ?_ | refine Gr.alloc ?_ _ | exact Gr.refl _)); done)⟩
end Go.Proofs.YtfahmaapodoaaaaGreatDoor
