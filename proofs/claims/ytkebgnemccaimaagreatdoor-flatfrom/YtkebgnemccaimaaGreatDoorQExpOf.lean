/-
  mercatorref1.ExpOf; both powers, of every number.
-/
import Derived.Test.YtkebgnemccaimaaGreatDoorQExp
import Derived.Test.YtkebgnemccaimaaGreatDoorQJ2
namespace Go.Proofs.YtkebgnemccaimaaGreatDoor
open Go.RowKit FB

theorem e15_all : ((List.range 15).all fun n => Ieee.double.div oneF (facF (max 1 n)) == exp15[n]?) = true := by decide +kernel
theorem e15_step (n : Nat) (h : n ≤ 14) : ∃ c, exp15[n]? = some c ∧ Ieee.double.div oneF (facF (max 1 n)) = some c := by
  have := List.all_eq_true.1 e15_all n (List.mem_range.2 (by omega))
  have hlt : n < exp15.length := by show n < 15; omega
  rw [List.getElem?_eq_getElem hlt] at this
  exact ⟨exp15[n], List.getElem?_eq_getElem hlt, by simpa using this⟩
theorem hor14 (z c : Nat) (hz : Num z) (hc : exp15[14]? = some c) : hor (exp15.drop 14) z = c := by
  obtain rfl : 4443145680587881629 = c := Option.some.inj hc
  show FA 4443145680587881629 (FM z 0) = 4443145680587881629
  rcases FM_zero hz with h | h <;> rw [h] <;> decide +kernel

set_option maxHeartbeats 4000000 in
theorem expOf_mid (x q : Nat) (hO : ExpOk x) (hL : ∀ w, Calls Tryz.prog 119 #[.float .f64 (eP x), .int .i64 (eN x)] w fun e w' => e = .returned (.float .f64 q) ∧ w' = w)
    (h1 : (FloatKind.f64.format.order x x != some Ordering.eq) = false) (h2 : (FloatKind.f64.format.order x 4649456441864749056 == some Ordering.gt) = false) (h3 : (FloatKind.f64.format.order x 13873145138068324352 == some Ordering.lt) = false) (w : World) :
    Calls Tryz.prog 86 #[.float .f64 x] w fun e w' => e = .returned (.float .f64 q) ∧ w' = w := by
  have HL := hid hL
  have HF := hid (show ∀ w, Calls Tryz.prog 115 #[.float .f64 (eY2 x)] w fun e w' => e = .returned (.float .f64 (eK x)) ∧ w' = w from fun w => floor_num (eY2 x) hO.y2n w)
  have HO := hid hO
  have a1 := fun w => hmul hO.y1 w
  have a2 := fun w => hadd hO.y2 w
  have a3 := fun w => hmul hO.a w
  have a4 := fun w => hmul hO.b w
  have a5 := fun w => hsub hO.r1 w
  have a6 := fun w => hsub hO.r w
  have a7 := fun w => conv_int _ _ hO.n w
  unfold l2e at a1
  unfold halfF at a2
  unfold lnG at a3
  unfold lnS at a4
  clear hL hO
  go_enter Tryz.func86, Tryz.ntmps86
  go_wp2_with fail
  refine (HF.out _).mono ?_
  rintro e w2 ⟨rfl, rfl⟩
  go_wp2_with fail
  clear a1 a2 a3 a4 a5 a6 h1 h2 h3
  go_loop [7, 8] (fun p n => ∃ j : Nat, j ≤ 15 ∧ n = .int .i64 ((j : Int) - 1) ∧ p = .float .f64 (hor (exp15.drop j) (eR x))) (fun _ n => (intOf n + 1).toNat)
  case atStart => exact ⟨15, by omega, rfl, rfl⟩
  case round =>
    obtain ⟨j, hj, rfl, rfl⟩ := hrel
    by_cases h0 : j = 0
    · have hp : hor (exp15.drop j) (eR x) = eP x := by rw [h0]; rfl
      have hneg : (j : Int) - 1 = -1 := by omega
      rw [hneg]
      clear h0 hj hneg
      go_wp2_with fail
      refine (HL.out _).mono ?_
      rintro e w3 ⟨rfl, rfl⟩
      go_wp2
      go_ret
      exact ⟨rfl, rfl⟩
    · obtain ⟨i, rfl⟩ : ∃ i, j = i + 1 := ⟨j - 1, by omega⟩
      have ej : ((i + 1 : Nat) : Int) - 1 = (i : Int) := by omega
      rw [ej]
      obtain ⟨c, hc, hd⟩ := e15_step i (by omega)
      have hm := fun w => hmul (HO.out.p.m (i + 1)) w
      have ha := fun w => hadd (HO.out.p.a i c hc) w
      have hq := fun w => hquo hd w
      unfold oneF at hq
      have H8 : Hid (i = 14 → hor (exp15.drop 14) (eR x) = c) := fun e => by subst e; exact hor14 _ c HO.out.rn hc
      generalize hor (List.drop (i + 1) exp15) (eR x) = s1 at *
      generalize FM (eR x) s1 = m1 at *
      clear hd hc h0 ej
      go_wp2
      go_loop [9, 10] (fun f t => ∃ k : Nat, 2 ≤ k ∧ (k ≤ i + 1 ∨ k = 2) ∧ t = .int .i64 k ∧ f = .float .f64 (facF (k - 1))) (fun _ t => ((i : Int) + 3 - intOf t).toNat)
      case atStart => exact ⟨2, by omega, .inr rfl, rfl, by rw [show 2 - 1 = 1 from rfl, facF_one]; rfl⟩
      case round =>
        obtain ⟨k, hk2, hk, rfl, rfl⟩ := hrel
        by_cases hle : k ≤ i
        · have hf := fun w => hmul (facF_step k hk2 (by omega)) w
          clear hq ha hm
          go_wp2
          go_round
          case rel => exact ⟨k + 1, by omega, .inl (by omega), by go_num, by simp⟩
          case measure => simp [intOf]; omega
        · have hke : k - 1 = max 1 i := by omega
          rw [hke]
          generalize facF (max 1 i) = f1 at *
          have hgt : (i : Int) < k := by omega
          by_cases hi14 : i = 14
          · have hb14 : ((i : Int) == 14) = true := by simp; omega
            have H14 := hid hi14
            clear hi14
            go_wp2
            go_round
            case rel => exact ⟨i, by omega, rfl, by rw [show exp15.drop i = exp15.drop 14 by rw [H14.out], H8.out H14.out]⟩
            case measure => simp [intOf]
          · have hb14 : ((i : Int) == 14) = false := by simp; omega
            go_wp2
            go_round
            case rel => exact ⟨i, by omega, rfl, rfl⟩
            case measure => simp [intOf]

theorem exp_nan (x : Nat) (h : (FloatKind.f64.format.order x x != some Ordering.eq) = true) (w : World) : Calls Tryz.prog 98 #[.float .f64 x] w fun e w' => e = .returned (.float .f64 x) ∧ w' = w := by
  have HJ := hid (fun w => isNaN_any x true h w)
  clear h
  go_enter Tryz.func98, Tryz.ntmps98
  go_wp2_with (go_at_call 107; refine (HJ.out _).mono ?_; rintro e w1 ⟨rfl, rfl⟩)
  go_ret
  exact ⟨rfl, rfl⟩
theorem exp_big (x : Nat) (h : (FloatKind.f64.format.order x x != some Ordering.eq) = false) (h2 : (FloatKind.f64.format.order x 4649456441864749056 == some Ordering.gt) = true) (w : World) : Calls Tryz.prog 98 #[.float .f64 x] w fun e w' => e = .returned (.float .f64 9218868437227405312) ∧ w' = w := by
  have HJ := hid (fun w => isNaN_any x false h w)
  clear h
  go_enter Tryz.func98, Tryz.ntmps98
  go_wp2_with (first | (go_at_call 107; refine (HJ.out _).mono ?_; rintro e w1 ⟨rfl, rfl⟩) | (go_at_call 109; refine (inf_pos _).mono ?_; rintro e w2 ⟨rfl, rfl⟩))
  go_ret
  exact ⟨rfl, rfl⟩
theorem exp_low (x : Nat) (h : (FloatKind.f64.format.order x x != some Ordering.eq) = false) (h2 : (FloatKind.f64.format.order x 4649456441864749056 == some Ordering.gt) = false) (h3 : (FloatKind.f64.format.order x 13873145138068324352 == some Ordering.lt) = true) (w : World) : Calls Tryz.prog 98 #[.float .f64 x] w fun e w' => e = .returned (.float .f64 0) ∧ w' = w := by
  have HJ := hid (fun w => isNaN_any x false h w)
  clear h
  go_enter Tryz.func98, Tryz.ntmps98
  go_wp2_with (go_at_call 107; refine (HJ.out _).mono ?_; rintro e w1 ⟨rfl, rfl⟩)
  go_ret
  exact ⟨rfl, rfl⟩
theorem expOf_nan (x : Nat) (h : (FloatKind.f64.format.order x x != some Ordering.eq) = true) (w : World) : Calls Tryz.prog 86 #[.float .f64 x] w fun e w' => e = .returned (.float .f64 x) ∧ w' = w := by
  go_enter Tryz.func86, Tryz.ntmps86
  go_wp2
  go_ret
  exact ⟨rfl, rfl⟩
theorem expOf_big (x : Nat) (h : (FloatKind.f64.format.order x x != some Ordering.eq) = false) (h2 : (FloatKind.f64.format.order x 4649456441864749056 == some Ordering.gt) = true) (w : World) : Calls Tryz.prog 86 #[.float .f64 x] w fun e w' => e = .returned (.float .f64 9218868437227405312) ∧ w' = w := by
  go_enter Tryz.func86, Tryz.ntmps86
  go_wp2_with (go_at_call 109; refine (inf_pos _).mono ?_; rintro e w2 ⟨rfl, rfl⟩)
  go_ret
  exact ⟨rfl, rfl⟩
theorem expOf_low (x : Nat) (h : (FloatKind.f64.format.order x x != some Ordering.eq) = false) (h2 : (FloatKind.f64.format.order x 4649456441864749056 == some Ordering.gt) = false) (h3 : (FloatKind.f64.format.order x 13873145138068324352 == some Ordering.lt) = true) (w : World) : Calls Tryz.prog 86 #[.float .f64 x] w fun e w' => e = .returned (.float .f64 0) ∧ w' = w := by
  go_enter Tryz.func86, Tryz.ntmps86
  go_wp2
  go_ret
  exact ⟨rfl, rfl⟩

theorem exp_any (x : Nat) (hx : x < 18446744073709551616) : ∃ o, ∀ w,
    (Calls Tryz.prog 98 #[.float .f64 x] w fun e w' => ∃ r, e = .returned (.float .f64 r) ∧ Got o r ∧ Below w.heap.size w w') ∧
    (Calls Tryz.prog 86 #[.float .f64 x] w fun e w' => ∃ r, e = .returned (.float .f64 r) ∧ Got o r ∧ Below w.heap.size w w') := by
  have one : ∀ (r : Nat) {w : World} {f : FuncId}, Calls Tryz.prog f #[.float .f64 x] w (fun e w' => e = .returned (.float .f64 r) ∧ w' = w) → (Calls Tryz.prog f #[.float .f64 x] w fun e w' => ∃ s, e = .returned (.float .f64 s) ∧ Got (some r) s ∧ Below w.heap.size w w') := fun r w f h => h.mono fun e w' hh => ⟨r, hh.1, rfl, by rw [hh.2]; exact Below.refl _ _⟩
  cases hnn : (FloatKind.f64.format.order x x != some Ordering.eq) with
  | true => exact ⟨some x, fun w => ⟨one x (exp_nan x hnn w), one x (expOf_nan x hnn w)⟩⟩
  | false =>
    cases hg : (FloatKind.f64.format.order x 4649456441864749056 == some Ordering.gt) with
    | true => exact ⟨some 9218868437227405312, fun w => ⟨one _ (exp_big x hnn hg w), one _ (expOf_big x hnn hg w)⟩⟩
    | false =>
      cases hl : (FloatKind.f64.format.order x 13873145138068324352 == some Ordering.lt) with
      | true => exact ⟨some 0, fun w => ⟨one _ (exp_low x hnn hg hl w), one _ (expOf_low x hnn hg hl w)⟩⟩
      | false =>
        have hg' : Ieee.double.order x 4649456441864749056 ≠ some .gt := by
          intro h; have : (FloatKind.f64.format.order x 4649456441864749056 == some Ordering.gt) = true := by show (Ieee.double.order x _ == _) = _; rw [h]; rfl
          rw [this] at hg; cases hg
        have hl' : Ieee.double.order x 13873145138068324352 ≠ some .lt := by
          intro h; have : (FloatKind.f64.format.order x 13873145138068324352 == some Ordering.lt) = true := by show (Ieee.double.order x _ == _) = _; rw [h]; rfl
          rw [this] at hl; cases hl
        have hn : Num x := by
          cases hr : Ieee.double.read x with
          | number s m e => exact ⟨s, m, e, hr⟩
          | nan s f =>
            exfalso
            have : (FloatKind.f64.format.order x x != some Ordering.eq) = true := by show (Ieee.double.order x x != _) = _; rw [order_nan hr]; rfl
            rw [this] at hnn; cases hnn
          | infinity s =>
            exfalso
            cases s with
            | true => apply hl'; unfold Ieee.Format.order; rw [hr, show Ieee.double.read 13873145138068324352 = .number true 6561885394567168 (-43) by decide +kernel]; rfl
            | false => apply hg'; unfold Ieee.Format.order; rw [hr, show Ieee.double.read 4649456441864749056 = .number false 6245226045767680 (-43) by decide +kernel]; rfl
        have hO := exp_ok x (exp_dom hx hn hg' hl')
        obtain ⟨q, hq⟩ := ldexp_any (eP x) hO.plt hO.pn (eN x) hO.nb.1 hO.nb.2
        exact ⟨some q, fun w => ⟨(exp_mid x q hO hq hnn hg hl w).mono fun e w' h => ⟨q, h.1, rfl, h.2⟩, one q (expOf_mid x q hO hq hnn hg hl w)⟩⟩
end Go.Proofs.YtkebgnemccaimaaGreatDoor
