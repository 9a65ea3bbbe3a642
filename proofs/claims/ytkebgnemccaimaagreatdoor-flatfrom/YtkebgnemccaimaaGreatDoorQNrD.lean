/-
  grain.Nearest and mercatorref1.NearestTo: their walks.
-/
import Derived.Test.YtkebgnemccaimaaGreatDoorQNrC
import Derived.Test.YtkebgnemccaimaaGreatDoorQWth
namespace Go.Proofs.YtkebgnemccaimaaGreatDoor
open Go.RowKit FB
attribute [local go_sem] run_store_float

theorem nan_order {a : Nat} (h : Nan a) (b : Nat) : Ieee.double.order a b = none := by obtain ⟨s, f, h⟩ := h; exact order_nan h
theorem nan_of_ne {x : Nat} (h : Ieee.double.order x x ≠ some .eq) : Nan x := by
  cases hr : Ieee.double.read x with
  | nan s t => exact ⟨s, t, hr⟩
  | infinity s => exact absurd (order_inf hr).2 h
  | number s m e => exact absurd (order_self ⟨s, m, e, hr⟩) h
theorem whole_nan {x : Nat} (h : Nan x) : whole x = 0 := by obtain ⟨s, t, h⟩ := h; unfold whole; rw [h]
theorem whole_inf {x : Nat} {s : Bool} (h : Ieee.double.read x = .infinity s) : whole x = 0 := by unfold whole; rw [h]
theorem whole_small {x : Nat} {s : Bool} {m : Nat} {e : Int} (h : Ieee.double.read x = .number s m e) (he : e < 0) : whole x = Ieee.signed s (Ieee.Toward.even.cut s m (-e).toNat) 0 := by unfold whole; rw [h]; simp only; rw [if_pos he]
theorem whole_great {x : Nat} {s : Bool} {m : Nat} {e : Int} (h : Ieee.double.read x = .number s m e) (he : 0 ≤ e) : whole x = if farW x = true then 0 else Ieee.signed s m e.toNat := by unfold whole; rw [h]; simp only; rw [if_neg (by omega)]
theorem cut_small {m k : Nat} (way : Ieee.Toward) (s : Bool) (hm : m ≤ 9007199254740991) (hk : 1 ≤ k) (hw : way = .even ∨ way = .down) : way.cut s m k < 9007199254740992 := by
  have hg2 : 2 ≤ 2 ^ k := by
    have : 2 ^ 1 ≤ 2 ^ k := Nat.pow_le_pow_right (by decide) hk
    omega
  have hq : m / 2 ^ k ≤ m / 2 := Nat.div_le_div_left hg2 (by decide)
  rcases hw with rfl | rfl
  · rw [cut_even_parts]
    have : (if 2 ^ k < 2 * (m % 2 ^ k) ∨ (2 ^ k = 2 * (m % 2 ^ k) ∧ m / 2 ^ k % 2 = 1) then 1 else 0) ≤ 1 := by split <;> omega
    omega
  · rw [cut_down_parts]
    have : (if s = true ∧ m % 2 ^ k ≠ 0 then 1 else 0) ≤ 1 := by split <;> omega
    omega
theorem small_integral {x : Nat} {s : Bool} {m : Nat} {e : Int} (h : Ieee.double.read x = .number s m e) (he : e < 0) (way : Ieee.Toward) : Ieee.double.write ((Ieee.double.read x).integral way) = Ieee.double.nearest s (way.cut s m (-e).toNat) 0 := by
  rw [h]
  show Ieee.double.nearest s (way.cut s (m <<< e.toNat) (-e).toNat) 0 = _
  rw [show e.toNat = 0 by omega, Nat.shiftLeft_zero]
theorem near_le {s : Bool} {N : Nat} (h : N < 9007199254740992) : Le 1080 (Ieee.double.nearest s N 0) := by
  have h1 := nearest_le s N 0 53 1076 (by have : (2 : Nat) ^ 53 = 9007199254740992 := by decide
                                          omega) (by decide) (by decide)
  exact (h1.resolve_right (by decide)).mono (by decide)
theorem order_num {x y : Nat} (hx : Num x) (hy : Num y) : ∃ o, Ieee.double.order x y = some o := by
  obtain ⟨s, m, i, hx⟩ := hx
  obtain ⟨t, n, j, hy⟩ := hy
  unfold Ieee.Format.order
  rw [hx, hy]
  exact ⟨_, rfl⟩
theorem big_num : Num bigW ∧ Num bigN := ⟨⟨_, _, _, (by decide +kernel : Ieee.double.read bigW = .number false 8789062500000000 10)⟩, ⟨_, _, _, (by decide +kernel : Ieee.double.read bigN = .number true 8789062500000000 10)⟩⟩
theorem inf_order {s : Bool} : (Ieee.double.order (Ieee.double.write (.infinity s)) bigN = some (if s then .lt else .gt)) ∧ (Ieee.double.order (Ieee.double.write (.infinity s)) bigW = some (if s then .lt else .gt)) := by
  cases s <;> exact ⟨by decide +kernel, by decide +kernel⟩

/-- How the program comes to it. -/
theorem nr_prog {x a : Nat} (hx : x < 18446744073709551616) (ha1 : Nan x → Nan a) (ha2 : ¬ Nan x → a = Ieee.double.write ((Ieee.double.read x).integral .even)) :
    (geB a bigN = false ∧ whole x = 0) ∨ (geB a bigN = true ∧ leB a bigW = false ∧ whole x = 0) ∨ (geB a bigN = true ∧ leB a bigW = true ∧ floatToIntVal .f64 a .i64 = some (whole x)) := by
  by_cases hn : Nan x
  · refine .inl ⟨?_, whole_nan hn⟩
    show ((Ieee.double.order a bigN == _) || (Ieee.double.order a bigN == _)) = _
    rw [show Ieee.double.order a bigN = none from nan_order (ha1 hn) _]; rfl
  · have ha := ha2 hn
    clear ha1 ha2
    cases hr : Ieee.double.read x with
    | nan s t => exact absurd ⟨s, t, hr⟩ hn
    | infinity s =>
      rw [hr] at ha
      obtain ⟨o1, o2⟩ := inf_order (s := s)
      have ha' : a = Ieee.double.write (.infinity s) := ha
      rw [← ha'] at o1 o2
      cases s
      · refine .inr (.inl ⟨?_, ?_, whole_inf hr⟩)
        · show ((Ieee.double.order a bigN == _) || (Ieee.double.order a bigN == _)) = _
          rw [o1]; rfl
        · show ((Ieee.double.order a bigW == _) || (Ieee.double.order a bigW == _)) = _
          rw [o2]; rfl
      · refine .inl ⟨?_, whole_inf hr⟩
        show ((Ieee.double.order a bigN == _) || (Ieee.double.order a bigN == _)) = _
        rw [o1]; rfl
    | number s m e =>
      by_cases he : e < 0
      · rw [small_integral hr he] at ha
        have hc := cut_small (m := m) (k := (-e).toNat) .even s (num_bd hr).1 (by omega) (.inl rfl)
        have hs := near_small (near_le (s := s) hc)
        rw [← ha] at hs
        refine .inr (.inr ⟨?_, ?_, ?_⟩)
        · show ((Ieee.double.order a bigN == _) || (Ieee.double.order a bigN == _)) = _
          rw [hs.2]; rfl
        · show ((Ieee.double.order a bigW == _) || (Ieee.double.order a bigW == _)) = _
          rw [hs.1]; rfl
        · rw [ha, whole_small hr he]; exact toInt_small hc
      · rw [great_self hx hr (by omega)] at ha
        subst ha
        have hw := whole_great hr (by omega : 0 ≤ e)
        obtain ⟨o1, h1⟩ := order_num ⟨s, m, e, hr⟩ big_num.1
        obtain ⟨o2, h2⟩ := order_num ⟨s, m, e, hr⟩ big_num.2
        cases hf : farW a with
        | false =>
          rw [hf, if_neg (by decide)] at hw
          refine .inr (.inr ⟨?_, ?_, by rw [hw]; exact toInt_great hr (by omega) hf⟩)
          · unfold farW at hf
            rw [h1, h2] at hf
            show ((Ieee.double.order a bigN == _) || (Ieee.double.order a bigN == _)) = _
            rw [h2]
            cases o1 <;> cases o2 <;> first | rfl | (exact absurd hf (by decide))
          · unfold farW at hf
            rw [h1, h2] at hf
            show ((Ieee.double.order a bigW == _) || (Ieee.double.order a bigW == _)) = _
            rw [h1]
            cases o1 <;> cases o2 <;> first | rfl | (exact absurd hf (by decide))
        | true =>
          rw [hf, if_pos rfl] at hw
          unfold farW at hf
          rw [h1, h2] at hf
          cases hg : geB a bigN with
          | false => exact .inl ⟨rfl, hw⟩
          | true =>
            refine .inr (.inl ⟨rfl, ?_, hw⟩)
            have hg' : ((Ieee.double.order a bigN == some Ordering.gt) || (Ieee.double.order a bigN == some Ordering.eq)) = true := hg
            rw [h2] at hg'
            show ((Ieee.double.order a bigW == _) || (Ieee.double.order a bigW == _)) = _
            rw [h1]
            cases o1 <;> cases o2 <;> first | rfl | (exact absurd hf (by decide)) | (exact absurd hg' (by decide))

/-- How the document comes to it. -/
theorem nr_ref {x : Nat} (hx : x < 18446744073709551616) :
    ((FloatKind.f64.format.order x x != some Ordering.eq) = true ∧ whole x = 0) ∨
    ((FloatKind.f64.format.order x x != some Ordering.eq) = false ∧ (FloatKind.f64.format.order x bigW == some Ordering.gt) = true ∧ whole x = 0) ∨
    ((FloatKind.f64.format.order x x != some Ordering.eq) = false ∧ (FloatKind.f64.format.order x bigW == some Ordering.gt) = false ∧ (FloatKind.f64.format.order x bigN == some Ordering.lt) = true ∧ whole x = 0) ∨
    ((FloatKind.f64.format.order x x != some Ordering.eq) = false ∧ (FloatKind.f64.format.order x bigW == some Ordering.gt) = false ∧ (FloatKind.f64.format.order x bigN == some Ordering.lt) = false ∧ Num x ∧
      ∃ n d, floatToIntVal .f64 (Ieee.double.write ((Ieee.double.read x).integral .down)) .i64 = some n ∧ -9100000000000000000 ≤ n ∧ n ≤ 9100000000000000000 ∧ Ieee.double.sub x (Ieee.double.write ((Ieee.double.read x).integral .down)) = some d ∧ whole x = (if addOne d n = true then n + 1 else n)) := by
  cases hr : Ieee.double.read x with
  | nan s t =>
    refine .inl ⟨?_, whole_nan ⟨s, t, hr⟩⟩
    show (Ieee.double.order x x != _) = _
    rw [order_nan hr]; rfl
  | infinity s =>
    have h1 : (FloatKind.f64.format.order x x != some Ordering.eq) = false := by show (Ieee.double.order x x != _) = _; rw [(order_inf hr).2]; rfl
    have hb1 : Ieee.double.order x bigW = some (if s then .lt else .gt) := by unfold Ieee.Format.order; rw [hr, show Ieee.double.read bigW = .number false 8789062500000000 10 by decide +kernel]; rfl
    have hb2 : Ieee.double.order x bigN = some (if s then .lt else .gt) := by unfold Ieee.Format.order; rw [hr, show Ieee.double.read bigN = .number true 8789062500000000 10 by decide +kernel]; rfl
    cases s
    · refine .inr (.inl ⟨h1, ?_, whole_inf hr⟩)
      show (Ieee.double.order x bigW == _) = _
      rw [hb1]; rfl
    · refine .inr (.inr (.inl ⟨h1, ?_, ?_, whole_inf hr⟩))
      · show (Ieee.double.order x bigW == _) = _
        rw [hb1]; rfl
      · show (Ieee.double.order x bigN == _) = _
        rw [hb2]; rfl
  | number s m e =>
    have h1 : (FloatKind.f64.format.order x x != some Ordering.eq) = false := by show (Ieee.double.order x x != _) = _; rw [order_self ⟨s, m, e, hr⟩]; rfl
    by_cases he : e < 0
    · have hs := near_small (small_le hx hr he)
      refine .inr (.inr (.inr ⟨h1, ?_, ?_, ⟨s, m, e, hr⟩, ?_⟩))
      · show (Ieee.double.order x bigW == _) = _
        rw [hs.1]; rfl
      · show (Ieee.double.order x bigN == _) = _
        rw [hs.2]; rfl
      · have hc := cut_small (m := m) (k := (-e).toNat) .down s (num_bd hr).1 (by omega) (.inr rfl)
        have hre : Ieee.double.read x = .number s m (-((-e).toNat : Int)) := by rw [hr]; congr 1; omega
        obtain ⟨d, hd, hw⟩ := near_core hre (by omega)
        have hsm := small_integral hr he .down
        rw [hr] at hsm
        rw [hsm]
        refine ⟨_, d, toInt_small hc, ?_, ?_, hd, by rw [whole_small hr he]; exact hw⟩
        · rw [signed_zero_up]; split <;> omega
        · rw [signed_zero_up]; split <;> omega
    · have hw := whole_great hr (by omega : 0 ≤ e)
      have hgs := great_self hx hr (by omega : 0 ≤ e) .down
      rw [hr] at hgs
      rw [hgs]
      cases hf : farW x with
      | true =>
        rw [hf, if_pos rfl] at hw
        unfold farW at hf
        cases hg : (Ieee.double.order x bigW == some Ordering.gt) with
        | true => exact .inr (.inl ⟨h1, hg, hw⟩)
        | false =>
          rw [hg, Bool.false_or] at hf
          exact .inr (.inr (.inl ⟨h1, hg, hf, hw⟩))
      | false =>
        rw [hf, if_neg (by decide)] at hw
        have hf' := hf
        unfold farW at hf'
        rw [Bool.or_eq_false_iff] at hf'
        obtain ⟨b1, b2⟩ := order_far hr (by omega) hf
        refine .inr (.inr (.inr ⟨h1, hf'.1, hf'.2, ⟨s, m, e, hr⟩, _, 0, toInt_great hr (by omega) hf, by omega, by omega, sub_self ⟨s, m, e, hr⟩, ?_⟩))
        rw [hw]
        have h0 : Ieee.double.order 0 halfW = some .lt := by decide +kernel
        unfold addOne
        rw [h0, if_neg (by simp)]

def radW : Nat := 4445950764994258515
set_option maxHeartbeats 1000000 in
theorem nearest_any (o : Option Nat) (r : Nat) (h : Got o r) (w : World) : Calls Tryz.prog 57 #[.float .f64 r] w fun e w' => e = .returned (.int .i64 (nrI (oD o (some radW)))) ∧ Gr w w' := by
  obtain ⟨mF, aF, sF, qF, mD, aD, sD, qD, hm, ha, hss, hq, gm, ga, gs, gq⟩ := ops
  obtain ⟨rF, rD, hR, r1, r2⟩ := rteA
  have hx := gq o (some radW) r radW w h rfl
  have HW : Hid (nrI (oD o (some radW)) = whole (qF r radW w)) := by
    show _ = _
    cases ho : oD o (some radW) with
    | none =>
      rw [ho] at hx
      exact (whole_nan hx.1).symm
    | some q =>
      rw [ho] at hx
      obtain rfl : qF r radW w = q := hx.1
      rfl
  have H := nr_prog hx.2 (fun hn => r1 (qF r radW w) (w.drewN (qD r radW)) hn) (fun hn => r2 (qF r radW w) (w.drewN (qD r radW)) hn)
  rw [HW.out]
  clear hx h gm ga gs gq hm ha hss HW r1 r2
  unfold radW at H ⊢
  generalize hxx : qF r 4445950764994258515 w = x at H ⊢
  generalize haa : rF x (w.drewN (qD r 4445950764994258515)) = a at H ⊢
  unfold geB leB bigW bigN at H
  rcases H with ⟨t1, hw⟩ | ⟨t1, t2, hw⟩ | ⟨t1, t2, hc⟩
  · rw [hw]
    clear hw
    go_enter Tryz.func57, Tryz.ntmps57
    go_wp2
    go_ret
    exact ⟨rfl, by ((with_reducible repeat' (first | assumption | refine Gr.drewN ?_ _ | refine Gr.drew ?_ | refine Gr.alloc ?_ _ | exact Gr.refl _)); done)⟩
  · rw [hw]
    clear hw
    go_enter Tryz.func57, Tryz.ntmps57
    go_wp2
    go_ret
    exact ⟨rfl, by ((with_reducible repeat' (first | assumption | refine Gr.drewN ?_ _ | refine Gr.drew ?_ | refine Gr.alloc ?_ _ | exact Gr.refl _)); done)⟩
  · have hcv := conv_int a _ hc
    clear hc
    generalize whole x = n at *
    go_enter Tryz.func57, Tryz.ntmps57
    go_wp2
    go_ret
    exact ⟨rfl, by ((with_reducible repeat' (first | assumption | refine Gr.drewN ?_ _ | refine Gr.drew ?_ | refine Gr.alloc ?_ _ | exact Gr.refl _)); done)⟩
set_option maxHeartbeats 2000000 in
theorem nearestTo_any (o : Option Nat) (r : Nat) (h : Got o r) (w : World) : Calls Tryz.prog 69 #[.float .f64 r] w fun e w' => e = .returned (.int .i64 (nrI (oD o (some radW)))) ∧ Gr w w' := by
  obtain ⟨mF, aF, sF, qF, mD, aD, sD, qD, hm, ha, hss, hq, gm, ga, gs, gq⟩ := ops
  have hx := gq o (some radW) r radW w h rfl
  have HW : Hid (nrI (oD o (some radW)) = whole (qF r radW w)) := by
    show _ = _
    cases ho : oD o (some radW) with
    | none =>
      rw [ho] at hx
      exact (whole_nan hx.1).symm
    | some q =>
      rw [ho] at hx
      obtain rfl : qF r radW w = q := hx.1
      rfl
  have H := nr_ref hx.2
  rw [HW.out]
  clear hx h gm ga gs gq hm ha hss HW
  unfold radW at H ⊢
  generalize hxx : qF r 4445950764994258515 w = x at H ⊢
  unfold bigW bigN at H
  rcases H with ⟨t0, hw⟩ | ⟨t0, t1, hw⟩ | ⟨t0, t1, t2, hw⟩ | ⟨t0, t1, t2, hn, n, d, hc, b1, b2, hd, hw⟩
  · rw [hw]
    clear hw
    go_enter Tryz.func69, Tryz.ntmps69
    go_wp2
    go_ret
    exact ⟨rfl, by ((with_reducible repeat' (first | assumption | refine Gr.drewN ?_ _ | refine Gr.drew ?_ | refine Gr.alloc ?_ _ | exact Gr.refl _)); done)⟩
  · rw [hw]
    clear hw
    go_enter Tryz.func69, Tryz.ntmps69
    go_wp2
    go_ret
    exact ⟨rfl, by ((with_reducible repeat' (first | assumption | refine Gr.drewN ?_ _ | refine Gr.drew ?_ | refine Gr.alloc ?_ _ | exact Gr.refl _)); done)⟩
  · rw [hw]
    clear hw
    go_enter Tryz.func69, Tryz.ntmps69
    go_wp2
    go_ret
    exact ⟨rfl, by ((with_reducible repeat' (first | assumption | refine Gr.drewN ?_ _ | refine Gr.drew ?_ | refine Gr.alloc ?_ _ | exact Gr.refl _)); done)⟩
  · have HF := hid (fun w => floor_num x hn w)
    generalize Ieee.double.write ((Ieee.double.read x).integral .down) = f at HF hc hd
    have hcv := conv_int f _ hc
    have hsd := hsub hd
    have hwp : IntKind.i64.wrap (n + 1) = n + 1 := by simp [IntKind.wrap, IntKind.signed, IntKind.bits]; omega
    rw [hw]
    clear hc hd hw b1 b2 hn
    unfold addOne halfW
    cases g1 : (Ieee.double.order d 4602678819172646912 == some Ordering.gt) with
    | true =>
      have g1' : (FloatKind.f64.format.order d 4602678819172646912 == some Ordering.gt) = true := g1
      rw [Bool.true_or, if_pos rfl]
      clear g1
      go_enter Tryz.func69, Tryz.ntmps69
      go_wp2_with fail
      refine (HF.out _).mono ?_
      rintro e w1 ⟨rfl, rfl⟩
      go_wp2
      go_ret
      exact ⟨rfl, by ((with_reducible repeat' (first | assumption | refine Gr.drewN ?_ _ | refine Gr.drew ?_ | refine Gr.alloc ?_ _ | exact Gr.refl _)); done)⟩
    | false =>
      have g1' : (FloatKind.f64.format.order d 4602678819172646912 == some Ordering.gt) = false := g1
      rw [Bool.false_or]
      clear g1
      cases g2 : (Ieee.double.order d 4602678819172646912 == some Ordering.eq) with
      | false =>
        have g2' : (FloatKind.f64.format.order d 4602678819172646912 == some Ordering.eq) = false := g2
        rw [Bool.false_and, if_neg (by decide)]
        clear g2
        go_enter Tryz.func69, Tryz.ntmps69
        go_wp2_with fail
        refine (HF.out _).mono ?_
        rintro e w1 ⟨rfl, rfl⟩
        go_wp2
        go_ret
        exact ⟨rfl, by ((with_reducible repeat' (first | assumption | refine Gr.drewN ?_ _ | refine Gr.drew ?_ | refine Gr.alloc ?_ _ | exact Gr.refl _)); done)⟩
      | true =>
        have g2' : (FloatKind.f64.format.order d 4602678819172646912 == some Ordering.eq) = true := g2
        rw [Bool.true_and]
        clear g2
        cases g3 : (n.tmod 2 != 0) with
        | false =>
          rw [if_neg (by decide)]
          go_enter Tryz.func69, Tryz.ntmps69
          go_wp2_with fail
          refine (HF.out _).mono ?_
          rintro e w1 ⟨rfl, rfl⟩
          go_wp2
          go_ret
          exact ⟨rfl, by ((with_reducible repeat' (first | assumption | refine Gr.drewN ?_ _ | refine Gr.drew ?_ | refine Gr.alloc ?_ _ | exact Gr.refl _)); done)⟩
        | true =>
          rw [if_pos rfl]
          go_enter Tryz.func69, Tryz.ntmps69
          go_wp2_with fail
          refine (HF.out _).mono ?_
          rintro e w1 ⟨rfl, rfl⟩
          go_wp2
          go_ret
          exact ⟨rfl, by ((with_reducible repeat' (first | assumption | refine Gr.drewN ?_ _ | refine Gr.drew ?_ | refine Gr.alloc ?_ _ | exact Gr.refl _)); done)⟩
end Go.Proofs.YtkebgnemccaimaaGreatDoor
