/-
  wave.Series: the numbers of a globe's series.
-/
import Derived.Test.YtinopkmcddjgdaaGreatDoorQWvB
namespace Go.Proofs.YtinopkmcddjgdaaGreatDoor
open Go.RowKit FB
attribute [local go_sem] run_store_float

theorem At.newRow (W : World) (l : List Value) (t : Nat) : At (W.alloc (.cells l.toArray t)) W.heap.size l := by
  refine ⟨fun i hi => ?_, by simp⟩
  constructor
  · rw [World.cell?_alloc_at _ _ _ _ rfl]
    simp [hi]
  · exact World.frozen?_alloc_at _ _ _ _ rfl
/-- 2 less a flattening is at least 1. -/
theorem two_less {f : Nat} (hf : Le 1021 f) : 4607182418800017408 ≤ FS 4611686018427387904 f ∧ FS 4611686018427387904 f < 9218868437227405312 := by
  have h2 : Le 1024 4611686018427387904 := ⟨by decide, by decide⟩
  have hle : Le 1026 (FS 4611686018427387904 f) := FS_le h2 (hf.mono (by decide)) (by decide) (by decide)
  obtain ⟨s, m, e, hr, hm, he, he2⟩ := read_le hf (by decide) (by decide)
  have key : ∃ mag : Nat, FS 4611686018427387904 f = Ieee.double.nearest false mag e ∧ 2 ^ (-e).toNat ≤ mag := by
    unfold FS Ieee.Format.sub
    rw [hr, show Ieee.double.read 4611686018427387904 = .number false 4503599627370496 (-51) by decide +kernel]
    simp only [Ieee.Datum.opposite, Ieee.Datum.sum]
    rw [show min (-51) e = e by omega, signed_false]
    have e1 : 4503599627370496 * 2 ^ (-51 - e).toNat = 2 * 2 ^ (-e).toNat := by
      rw [show (4503599627370496 : Nat) = 2 ^ 52 by decide, ← Nat.pow_add, ← Nat.pow_succ']
      congr 1
      omega
    have e2 : (2 : Nat) ^ 53 ≤ 2 ^ (-e).toNat := Nat.pow_le_pow_right (by decide) (by omega)
    rw [e1]
    generalize (2 : Nat) ^ (-e).toNat = P at e2 ⊢
    have e3 : (2 : Nat) ^ 53 = 9007199254740992 := by decide
    have hm' : m < 9007199254740992 := by omega
    rw [show (e - e).toNat = 0 by omega]
    have hsg : Ieee.signed (!s) m 0 = (m : Int) ∨ Ieee.signed (!s) m 0 = -(m : Int) := by
      cases s
      · right; rw [Bool.not_false, signed_true]; simp
      · left; rw [Bool.not_true, signed_false]; simp
    generalize Ieee.signed (!s) m 0 = z at hsg ⊢
    refine ⟨(((2 * P : Nat) : Int) + z).natAbs, ?_, by omega⟩
    rw [Option.map_some, Option.getD_some]
    show Ieee.double.nearest _ _ _ = _
    congr 1
    rw [if_neg (by omega)]
    exact decide_eq_false (by omega)
  obtain ⟨mag, h1, h3⟩ := key
  have hp := Nat.two_pow_pos (-e).toNat
  have hlog : (-e).toNat ≤ mag.log2 := (Nat.le_log2 (by omega)).2 h3
  have hge := nearest_ge mag e 1023 (by omega) (by decide) (by decide) (by omega)
  rw [← h1] at hge
  have hsm : FS 4611686018427387904 f < 9223372036854775808 := by
    rw [h1]
    unfold Ieee.Format.nearest
    rw [if_neg (by omega)]
    have hw : ∀ r, Ieee.double.word false r = r := fun r => rfl
    simp only [hw]
    rw [ir]
    exact Nat.lt_of_le_of_lt (Nat.min_le_right _ _) (by decide)
  have hle2 := hle.2
  rw [Nat.mod_eq_of_lt hsm] at hle2
  clear h1 hlog h3
  generalize FS 4611686018427387904 f = y at *
  omega
/-- The third flattening. -/
def nO (f : Nat) : Option Nat := oD (some f) (oS (some 4611686018427387904) (some f))
theorem n_num {f : Nat} (hf : Le 1021 f) : ∃ n, nO f = some n ∧ Num n ∧ n < 18446744073709551616 := by
  obtain ⟨h1, h2⟩ := two_less hf
  have hs : Ieee.double.sub 4611686018427387904 f = some (FS 4611686018427387904 f) := sub_num ((show Le 1024 4611686018427387904 from ⟨by decide, by decide⟩).num (by decide) (by decide)) (hf.num (by decide) (by decide))
  obtain ⟨r, hr, hle⟩ := div_le hf (by decide) (by decide) h1 h2
  refine ⟨r, ?_, hle.num (by decide) (by decide), hle.1⟩
  show (Ieee.double.sub 4611686018427387904 f).bind (fun b => Ieee.double.div f b) = some r
  rw [hs]; exact hr
def n2O (n : Nat) : Option Nat := oM (some n) (some n)
def n3O (n : Nat) : Option Nat := oM (n2O n) (some n)
def n4O (n : Nat) : Option Nat := oM (n2O n) (n2O n)
def raS (a n : Nat) : Option Nat := oM (oD (some a) (oA (some oneW) (some n))) (oA (oA (some oneW) (oD (n2O n) (some 4616189618054758400))) (oD (n4O n) (some 4634204016564240384)))
def lA1 : List Nat := [4602678819172646912, 13827552055903212885, 4599301119452119040, 4597374579611521661]
def lA2 : List Nat := [4598550519514223957, 13826951575952896819, 4600639689341365271]
def lA3 : List Nat := [4598250279539065924, 13828173981566040240]
def lA4 : List Nat := [4599207406156301484]
def lB1 : List Nat := [4602678819172646912, 13827552055903212885, 4600614669343435435, 13791923578851126295]
def lB2 : List Nat := [4581662020911584597, 4589468260265693457, 13822510526320350913]
def lB3 : List Nat := [4585264900613480994, 13809880788793911511]
def lB4 : List Nat := [4583515287901101742]
/-- Four chains. -/
structure Four where
  a : Option Nat
  b : Option Nat
  c : Option Nat
  d : Option Nat
def aS (n : Nat) : Four := ⟨oM (some n) (horO lA1 (some n)), oM (n2O n) (horO lA2 (some n)), oM (n3O n) (horO lA3 (some n)), oM (n4O n) (horO lA4 (some n))⟩
def bS (n : Nat) : Four := ⟨oM (some n) (horO lB1 (some n)), oM (n2O n) (horO lB2 (some n)), oM (n3O n) (horO lB3 (some n)), oM (n4O n) (horO lB4 (some n))⟩
def GF (s : Four) (a b c d : Nat) : Prop := GW s.a a ∧ GW s.b b ∧ GW s.c c ∧ GW s.d d
abbrev rV (a b c d : Nat) : Value := .agg #[.float .f64 a, .float .f64 b, .float .f64 c, .float .f64 d]
abbrev rL (a b c d : Nat) : List Value := [.float .f64 a, .float .f64 b, .float .f64 c, .float .f64 d]
theorem At.c4 {W : World} {B : Nat} {a b c d : Value} (h : At W B [a, b, c, d]) : W.cell? ⟨B, 0, none⟩ = some a ∧ W.cell? ⟨B, 1, none⟩ = some b ∧ W.cell? ⟨B, 2, none⟩ = some c ∧ W.cell? ⟨B, 3, none⟩ = some d := ⟨(h.1 0 (by simp)).1, (h.1 1 (by simp)).1, (h.1 2 (by simp)).1, (h.1 3 (by simp)).1⟩
theorem At.f4 {W : World} {B : Nat} {a b c d : Value} (h : At W B [a, b, c, d]) : W.frozen? ⟨B, 0, none⟩ = false ∧ W.frozen? ⟨B, 1, none⟩ = false ∧ W.frozen? ⟨B, 2, none⟩ = false ∧ W.frozen? ⟨B, 3, none⟩ = false := ⟨(h.1 0 (by simp)).2, (h.1 1 (by simp)).2, (h.1 2 (by simp)).2, (h.1 3 (by simp)).2⟩
theorem At.fill4 {W : World} {B : Nat} (h : Has W B 4) (x y z u : Value) : At ((((W.setCell ⟨B, 0, none⟩ x).setCell ⟨B, 1, none⟩ y).setCell ⟨B, 2, none⟩ z).setCell ⟨B, 3, none⟩ u) B [x, y, z, u] := by
  obtain ⟨l, h1, h2⟩ := h
  have := (((h2.put 0 x).put 1 y).put 2 z).put 3 u
  match l, h1 with
  | [_, _, _, _], _ => exact this
theorem c44 {W : World} {B C : Nat} {a b c d x y z u : Value} (h : At W B [a, b, c, d]) (k : At W C [x, y, z, u]) : W.cell? ⟨B, 0, none⟩ = some a ∧ W.cell? ⟨B, 1, none⟩ = some b ∧ W.cell? ⟨B, 2, none⟩ = some c ∧ W.cell? ⟨B, 3, none⟩ = some d ∧ W.cell? ⟨C, 0, none⟩ = some x ∧ W.cell? ⟨C, 1, none⟩ = some y ∧ W.cell? ⟨C, 2, none⟩ = some z ∧ W.cell? ⟨C, 3, none⟩ = some u :=
  ⟨h.c4.1, h.c4.2.1, h.c4.2.2.1, h.c4.2.2.2, k.c4.1, k.c4.2.1, k.c4.2.2.1, k.c4.2.2.2⟩
set_option maxHeartbeats 8000000 in
theorem series_ok (a f n : Nat) (hn : nO f = some n) (hg : okG a f = true) (w : World) : Calls Tryz.prog 61 #[.agg #[.float .f64 a, .float .f64 f]] w fun e w' => ∃ r a0 a1 a2 a3 b0 b1 b2 b3, e = .returned (.tuple #[.float .f64 r, rV a0 a1 a2 a3, rV b0 b1 b2 b3, .nilIface]) ∧ GW (raS a (uz n)) r ∧ GF (aS (uz n)) a0 a1 a2 a3 ∧ GF (bS (uz n)) b0 b1 b2 b3 ∧ Gr w w' := by
  obtain ⟨mF, aF, sF, qF, mD, aD, sD, qD, hm, ha, hss, hq, gm, ga, gs, gq⟩ := ops
  go_enter Tryz.func61, Tryz.ntmps61
  go_wp2_with fail
  refine (valid_ok a f hg _).mono ?_
  rintro e w1 ⟨rfl, hB⟩
  have GA : At w1 w.heap.size [.float .f64 a, .float .f64 f] := At.below hB (by ((with_reducible repeat' (first | assumption | exact At.new1 _ _ _ | exact At.new2 _ _ _ _ | exact At.new3 _ _ _ _ _ | exact At.new5 _ _ _ _ _ _ _ | exact At.nx1 _ _ _ | exact At.nx2 _ _ _ _ | exact At.nx3 _ _ _ _ _ | exact At.ny1 _ _ _ _ | exact At.ny2 _ _ _ _ _ | exact At.ny3 _ _ _ _ _ _ | exact At.nz1 _ _ _ _ _ | exact At.nz2 _ _ _ _ _ _ | exact At.nz3 _ _ _ _ _ _ _ | exact Has.new1 _ _ _ | exact Has.new2 _ _ _ _ | exact Has.new3 _ _ _ _ _ | exact Has.nx1 _ _ _ | exact Has.nx2 _ _ _ _ | exact Has.nx3 _ _ _ _ _ | exact Has.ny1 _ _ _ _ | exact Has.ny2 _ _ _ _ _ | exact Has.ny3 _ _ _ _ _ _ | exact Has.nz1 _ _ _ _ _ | exact Has.nz2 _ _ _ _ _ _ | exact Has.nz3 _ _ _ _ _ _ _ | refine At.fill1 ?_ _ | refine At.fill2 ?_ _ _ | refine At.fill3 ?_ _ _ _ | refine At.swap ?_ (by first | omega | (simp; omega)) _ _ | refine At.alloc ?_ _ | refine At.drew ?_ | refine At.drewN ?_ _ | refine At.skip ?_ (by first | omega | (simp; omega)) _ _ | refine At.below (by assumption) ?_ | refine Has.alloc ?_ _ | refine Has.drew ?_ | refine Has.drewN ?_ _ | refine Has.set ?_ _ _ _ | refine Has.below (by assumption) ?_)); done))
  have RA : At w1 (w.heap.size + 1) (rL 0 0 0 0) := At.below hB ((At.newRow (w.alloc (.cells #[.float .f64 a, .float .f64 f] 33)) (rL 0 0 0 0) 69).alloc _ |> fun h => by simpa using h)
  have TA : At w1 (w.heap.size + 1 + 1) (rL 0 0 0 0) := At.below hB (At.newRow ((w.alloc (.cells #[.float .f64 a, .float .f64 f] 33)).alloc (.cells #[.float .f64 0, .float .f64 0, .float .f64 0, .float .f64 0] 69)) (rL 0 0 0 0) 69 |> fun h => by simpa using h)
  have HC : Gr w w1 := Gr.step (by ((with_reducible repeat' (first | assumption | refine Gr.drew ?_ | refine Gr.drewN ?_ _ | refine Gr.alloc ?_ _ | refine Gr.set ?_ (by first | omega | (simp; omega)) _ _ | exact Gr.refl _)); done)) hB
  clear hB
  obtain ⟨c0, c1⟩ := GA.c2
  go_wp2_with fail
  refine (uz_any _ _).mono ?_
  rintro e w2 ⟨rfl, rfl⟩
  have hgn := gq _ _ _ _ (w1.drewN (sD 4611686018427387904 f)) (gsm f) (gs _ _ _ _ w1 (gsm 4611686018427387904) (gsm f)).1
  rw [show oD (some f) (oS (some 4611686018427387904) (some f)) = some n from hn] at hgn
  generalize sF 4611686018427387904 f w1 = d1 at hgn ⊢
  generalize qF f d1 (w1.drewN (sD 4611686018427387904 f)) = n' at hgn ⊢
  obtain rfl : n' = n := hgn.1
  obtain ⟨v, hv⟩ : ∃ v, uz n' = v := ⟨_, rfl⟩
  rw [hv]
  have HV := hid hv
  clear hgn hn hv hg c0 c1
  go_upto_region 5 with fail
  generalize hw : World.drewN w1 _ = w3
  replace GA : At w3 w.heap.size [.float .f64 a, .float .f64 f] := by rw [← hw]; exact GA.drewN _
  replace RA : At w3 (w.heap.size + 1) (rL 0 0 0 0) := by rw [← hw]; exact RA.drewN _
  replace TA : At w3 (w.heap.size + 1 + 1) (rL 0 0 0 0) := by rw [← hw]; exact TA.drewN _
  replace HC : Gr w w3 := by rw [← hw]; exact HC.drewN _
  clear hw
  go_upto_region 6 with fail
  have g2 : GW (n2O v) (mF v v w3) := gm _ _ _ _ w3 (gsm v) (gsm v)
  generalize mF v v w3 = n2 at g2 ⊢
  generalize hw : World.drewN w3 _ = w4
  replace GA : At w4 w.heap.size [.float .f64 a, .float .f64 f] := by rw [← hw]; exact GA.drewN _
  replace RA : At w4 (w.heap.size + 1) (rL 0 0 0 0) := by rw [← hw]; exact RA.drewN _
  replace TA : At w4 (w.heap.size + 1 + 1) (rL 0 0 0 0) := by rw [← hw]; exact TA.drewN _
  replace HC : Gr w w4 := by rw [← hw]; exact HC.drewN _
  clear hw
  go_upto_region 7 with fail
  have g3 : GW (n3O v) (mF n2 v w4) := gm _ _ _ _ w4 g2.1 (gsm v)
  have g4 : GW (n4O v) (mF n2 n2 (w4.drewN (mD n2 v))) := gm _ _ _ _ (w4.drewN (mD n2 v)) g2.1 g2.1
  generalize mF n2 v w4 = n3 at g3 ⊢
  generalize mF n2 n2 (w4.drewN (mD n2 v)) = n4 at g4 ⊢
  generalize hw : World.drewN w4 _ = w5
  replace GA : At w5 w.heap.size [.float .f64 a, .float .f64 f] := by rw [← hw]; exact GA.drewN _
  replace RA : At w5 (w.heap.size + 1) (rL 0 0 0 0) := by rw [← hw]; exact RA.drewN _
  replace TA : At w5 (w.heap.size + 1 + 1) (rL 0 0 0 0) := by rw [← hw]; exact TA.drewN _
  replace HC : Gr w w5 := by rw [← hw]; exact HC.drewN _
  clear hw
  obtain ⟨c0, c1⟩ := GA.c2
  go_upto_region 8 with fail
  generalize hx1 : aF 4607182418800017408 v _ = x1
  have gx1 : GW (oA (some oneW) (some v)) x1 := by rw [← hx1]; exact ga _ _ _ _ _ (gsm _) (gsm _)
  clear hx1
  generalize hx2 : qF a x1 _ = x2
  have gx2 : GW (oD (some a) (oA (some oneW) (some v))) x2 := by rw [← hx2]; exact gq _ _ _ _ _ (gsm _) gx1.1
  clear hx2
  generalize hx3 : qF n2 4616189618054758400 _ = x3
  have gx3 : GW (oD (n2O v) (some 4616189618054758400)) x3 := by rw [← hx3]; exact gq _ _ _ _ _ g2.1 (gsm _)
  clear hx3
  generalize hx4 : aF 4607182418800017408 x3 _ = x4
  have gx4 : GW (oA (some oneW) (oD (n2O v) (some 4616189618054758400))) x4 := by rw [← hx4]; exact ga _ _ _ _ _ (gsm _) gx3.1
  clear hx4
  generalize hx5 : qF n4 4634204016564240384 _ = x5
  have gx5 : GW (oD (n4O v) (some 4634204016564240384)) x5 := by rw [← hx5]; exact gq _ _ _ _ _ g4.1 (gsm _)
  clear hx5
  generalize hx6 : aF x4 x5 _ = x6
  have gx6 : GW (oA (oA (some oneW) (oD (n2O v) (some 4616189618054758400))) (oD (n4O v) (some 4634204016564240384))) x6 := by rw [← hx6]; exact ga _ _ _ _ _ gx4.1 gx5.1
  clear hx6
  generalize hr : mF x2 x6 _ = r
  have gr : GW (raS a v) r := by rw [← hr]; exact gm _ _ _ _ _ gx2.1 gx6.1
  clear hr
  clear c0 c1 GA
  generalize hw : World.drewN w5 _ = w6
  replace RA : At w6 (w.heap.size + 1) (rL 0 0 0 0) := by rw [← hw]; exact RA.drewN _
  replace TA : At w6 (w.heap.size + 1 + 1) (rL 0 0 0 0) := by rw [← hw]; exact TA.drewN _
  replace HC : Gr w w6 := by rw [← hw]; exact HC.drewN _
  clear hw
  go_wp2_with fail
  refine (polyO _ 4 v lA1 (some v) (gsm v) rfl (by decide) _ (At.newRow _ (fRow lA1) _)).mono ?_
  rintro e w7 ⟨p0, rfl, hp0, hB3⟩
  replace RA : At w7 (w.heap.size + 1) (rL 0 0 0 0) := At.below hB3 (by ((with_reducible repeat' (first | assumption | exact At.new1 _ _ _ | exact At.new2 _ _ _ _ | exact At.new3 _ _ _ _ _ | exact At.new5 _ _ _ _ _ _ _ | exact At.nx1 _ _ _ | exact At.nx2 _ _ _ _ | exact At.nx3 _ _ _ _ _ | exact At.ny1 _ _ _ _ | exact At.ny2 _ _ _ _ _ | exact At.ny3 _ _ _ _ _ _ | exact At.nz1 _ _ _ _ _ | exact At.nz2 _ _ _ _ _ _ | exact At.nz3 _ _ _ _ _ _ _ | exact Has.new1 _ _ _ | exact Has.new2 _ _ _ _ | exact Has.new3 _ _ _ _ _ | exact Has.nx1 _ _ _ | exact Has.nx2 _ _ _ _ | exact Has.nx3 _ _ _ _ _ | exact Has.ny1 _ _ _ _ | exact Has.ny2 _ _ _ _ _ | exact Has.ny3 _ _ _ _ _ _ | exact Has.nz1 _ _ _ _ _ | exact Has.nz2 _ _ _ _ _ _ | exact Has.nz3 _ _ _ _ _ _ _ | refine At.fill1 ?_ _ | refine At.fill2 ?_ _ _ | refine At.fill3 ?_ _ _ _ | refine At.swap ?_ (by first | omega | (simp; omega)) _ _ | refine At.alloc ?_ _ | refine At.drew ?_ | refine At.drewN ?_ _ | refine At.skip ?_ (by first | omega | (simp; omega)) _ _ | refine At.below (by assumption) ?_ | refine Has.alloc ?_ _ | refine Has.drew ?_ | refine Has.drewN ?_ _ | refine Has.set ?_ _ _ _ | refine Has.below (by assumption) ?_)); done))
  replace TA : At w7 (w.heap.size + 1 + 1) (rL 0 0 0 0) := At.below hB3 (by ((with_reducible repeat' (first | assumption | exact At.new1 _ _ _ | exact At.new2 _ _ _ _ | exact At.new3 _ _ _ _ _ | exact At.new5 _ _ _ _ _ _ _ | exact At.nx1 _ _ _ | exact At.nx2 _ _ _ _ | exact At.nx3 _ _ _ _ _ | exact At.ny1 _ _ _ _ | exact At.ny2 _ _ _ _ _ | exact At.ny3 _ _ _ _ _ _ | exact At.nz1 _ _ _ _ _ | exact At.nz2 _ _ _ _ _ _ | exact At.nz3 _ _ _ _ _ _ _ | exact Has.new1 _ _ _ | exact Has.new2 _ _ _ _ | exact Has.new3 _ _ _ _ _ | exact Has.nx1 _ _ _ | exact Has.nx2 _ _ _ _ | exact Has.nx3 _ _ _ _ _ | exact Has.ny1 _ _ _ _ | exact Has.ny2 _ _ _ _ _ | exact Has.ny3 _ _ _ _ _ _ | exact Has.nz1 _ _ _ _ _ | exact Has.nz2 _ _ _ _ _ _ | exact Has.nz3 _ _ _ _ _ _ _ | refine At.fill1 ?_ _ | refine At.fill2 ?_ _ _ | refine At.fill3 ?_ _ _ _ | refine At.swap ?_ (by first | omega | (simp; omega)) _ _ | refine At.alloc ?_ _ | refine At.drew ?_ | refine At.drewN ?_ _ | refine At.skip ?_ (by first | omega | (simp; omega)) _ _ | refine At.below (by assumption) ?_ | refine Has.alloc ?_ _ | refine Has.drew ?_ | refine Has.drewN ?_ _ | refine Has.set ?_ _ _ _ | refine Has.below (by assumption) ?_)); done))
  replace HC : Gr w w7 := Gr.step (by ((with_reducible repeat' (first | assumption | refine Gr.drew ?_ | refine Gr.drewN ?_ _ | refine Gr.alloc ?_ _ | refine Gr.set ?_ (by first | omega | (simp; omega)) _ _ | exact Gr.refl _)); done)) hB3
  clear hB3
  go_wp2_with fail
  generalize ha0 : mF v p0 _ = a0
  have ga0 : GW ((aS v).a) a0 := by rw [← ha0]; exact gm _ _ _ _ _ (gsm v) hp0
  clear ha0
  refine (polyO _ 3 v lA2 (some v) (gsm v) rfl (by decide) _ (At.newRow _ (fRow lA2) _)).mono ?_
  rintro e w8 ⟨p1, rfl, hp1, hB3⟩
  replace RA : At w8 (w.heap.size + 1) (rL 0 0 0 0) := At.below hB3 (by ((with_reducible repeat' (first | assumption | exact At.new1 _ _ _ | exact At.new2 _ _ _ _ | exact At.new3 _ _ _ _ _ | exact At.new5 _ _ _ _ _ _ _ | exact At.nx1 _ _ _ | exact At.nx2 _ _ _ _ | exact At.nx3 _ _ _ _ _ | exact At.ny1 _ _ _ _ | exact At.ny2 _ _ _ _ _ | exact At.ny3 _ _ _ _ _ _ | exact At.nz1 _ _ _ _ _ | exact At.nz2 _ _ _ _ _ _ | exact At.nz3 _ _ _ _ _ _ _ | exact Has.new1 _ _ _ | exact Has.new2 _ _ _ _ | exact Has.new3 _ _ _ _ _ | exact Has.nx1 _ _ _ | exact Has.nx2 _ _ _ _ | exact Has.nx3 _ _ _ _ _ | exact Has.ny1 _ _ _ _ | exact Has.ny2 _ _ _ _ _ | exact Has.ny3 _ _ _ _ _ _ | exact Has.nz1 _ _ _ _ _ | exact Has.nz2 _ _ _ _ _ _ | exact Has.nz3 _ _ _ _ _ _ _ | refine At.fill1 ?_ _ | refine At.fill2 ?_ _ _ | refine At.fill3 ?_ _ _ _ | refine At.swap ?_ (by first | omega | (simp; omega)) _ _ | refine At.alloc ?_ _ | refine At.drew ?_ | refine At.drewN ?_ _ | refine At.skip ?_ (by first | omega | (simp; omega)) _ _ | refine At.below (by assumption) ?_ | refine Has.alloc ?_ _ | refine Has.drew ?_ | refine Has.drewN ?_ _ | refine Has.set ?_ _ _ _ | refine Has.below (by assumption) ?_)); done))
  replace TA : At w8 (w.heap.size + 1 + 1) (rL 0 0 0 0) := At.below hB3 (by ((with_reducible repeat' (first | assumption | exact At.new1 _ _ _ | exact At.new2 _ _ _ _ | exact At.new3 _ _ _ _ _ | exact At.new5 _ _ _ _ _ _ _ | exact At.nx1 _ _ _ | exact At.nx2 _ _ _ _ | exact At.nx3 _ _ _ _ _ | exact At.ny1 _ _ _ _ | exact At.ny2 _ _ _ _ _ | exact At.ny3 _ _ _ _ _ _ | exact At.nz1 _ _ _ _ _ | exact At.nz2 _ _ _ _ _ _ | exact At.nz3 _ _ _ _ _ _ _ | exact Has.new1 _ _ _ | exact Has.new2 _ _ _ _ | exact Has.new3 _ _ _ _ _ | exact Has.nx1 _ _ _ | exact Has.nx2 _ _ _ _ | exact Has.nx3 _ _ _ _ _ | exact Has.ny1 _ _ _ _ | exact Has.ny2 _ _ _ _ _ | exact Has.ny3 _ _ _ _ _ _ | exact Has.nz1 _ _ _ _ _ | exact Has.nz2 _ _ _ _ _ _ | exact Has.nz3 _ _ _ _ _ _ _ | refine At.fill1 ?_ _ | refine At.fill2 ?_ _ _ | refine At.fill3 ?_ _ _ _ | refine At.swap ?_ (by first | omega | (simp; omega)) _ _ | refine At.alloc ?_ _ | refine At.drew ?_ | refine At.drewN ?_ _ | refine At.skip ?_ (by first | omega | (simp; omega)) _ _ | refine At.below (by assumption) ?_ | refine Has.alloc ?_ _ | refine Has.drew ?_ | refine Has.drewN ?_ _ | refine Has.set ?_ _ _ _ | refine Has.below (by assumption) ?_)); done))
  replace HC : Gr w w8 := Gr.step (by ((with_reducible repeat' (first | assumption | refine Gr.drew ?_ | refine Gr.drewN ?_ _ | refine Gr.alloc ?_ _ | refine Gr.set ?_ (by first | omega | (simp; omega)) _ _ | exact Gr.refl _)); done)) hB3
  clear hB3
  go_wp2_with fail
  generalize ha1 : mF n2 p1 _ = a1
  have ga1 : GW ((aS v).b) a1 := by rw [← ha1]; exact gm _ _ _ _ _ g2.1 hp1
  clear ha1
  refine (polyO _ 2 v lA3 (some v) (gsm v) rfl (by decide) _ (At.newRow _ (fRow lA3) _)).mono ?_
  rintro e w9 ⟨p2, rfl, hp2, hB3⟩
  replace RA : At w9 (w.heap.size + 1) (rL 0 0 0 0) := At.below hB3 (by ((with_reducible repeat' (first | assumption | exact At.new1 _ _ _ | exact At.new2 _ _ _ _ | exact At.new3 _ _ _ _ _ | exact At.new5 _ _ _ _ _ _ _ | exact At.nx1 _ _ _ | exact At.nx2 _ _ _ _ | exact At.nx3 _ _ _ _ _ | exact At.ny1 _ _ _ _ | exact At.ny2 _ _ _ _ _ | exact At.ny3 _ _ _ _ _ _ | exact At.nz1 _ _ _ _ _ | exact At.nz2 _ _ _ _ _ _ | exact At.nz3 _ _ _ _ _ _ _ | exact Has.new1 _ _ _ | exact Has.new2 _ _ _ _ | exact Has.new3 _ _ _ _ _ | exact Has.nx1 _ _ _ | exact Has.nx2 _ _ _ _ | exact Has.nx3 _ _ _ _ _ | exact Has.ny1 _ _ _ _ | exact Has.ny2 _ _ _ _ _ | exact Has.ny3 _ _ _ _ _ _ | exact Has.nz1 _ _ _ _ _ | exact Has.nz2 _ _ _ _ _ _ | exact Has.nz3 _ _ _ _ _ _ _ | refine At.fill1 ?_ _ | refine At.fill2 ?_ _ _ | refine At.fill3 ?_ _ _ _ | refine At.swap ?_ (by first | omega | (simp; omega)) _ _ | refine At.alloc ?_ _ | refine At.drew ?_ | refine At.drewN ?_ _ | refine At.skip ?_ (by first | omega | (simp; omega)) _ _ | refine At.below (by assumption) ?_ | refine Has.alloc ?_ _ | refine Has.drew ?_ | refine Has.drewN ?_ _ | refine Has.set ?_ _ _ _ | refine Has.below (by assumption) ?_)); done))
  replace TA : At w9 (w.heap.size + 1 + 1) (rL 0 0 0 0) := At.below hB3 (by ((with_reducible repeat' (first | assumption | exact At.new1 _ _ _ | exact At.new2 _ _ _ _ | exact At.new3 _ _ _ _ _ | exact At.new5 _ _ _ _ _ _ _ | exact At.nx1 _ _ _ | exact At.nx2 _ _ _ _ | exact At.nx3 _ _ _ _ _ | exact At.ny1 _ _ _ _ | exact At.ny2 _ _ _ _ _ | exact At.ny3 _ _ _ _ _ _ | exact At.nz1 _ _ _ _ _ | exact At.nz2 _ _ _ _ _ _ | exact At.nz3 _ _ _ _ _ _ _ | exact Has.new1 _ _ _ | exact Has.new2 _ _ _ _ | exact Has.new3 _ _ _ _ _ | exact Has.nx1 _ _ _ | exact Has.nx2 _ _ _ _ | exact Has.nx3 _ _ _ _ _ | exact Has.ny1 _ _ _ _ | exact Has.ny2 _ _ _ _ _ | exact Has.ny3 _ _ _ _ _ _ | exact Has.nz1 _ _ _ _ _ | exact Has.nz2 _ _ _ _ _ _ | exact Has.nz3 _ _ _ _ _ _ _ | refine At.fill1 ?_ _ | refine At.fill2 ?_ _ _ | refine At.fill3 ?_ _ _ _ | refine At.swap ?_ (by first | omega | (simp; omega)) _ _ | refine At.alloc ?_ _ | refine At.drew ?_ | refine At.drewN ?_ _ | refine At.skip ?_ (by first | omega | (simp; omega)) _ _ | refine At.below (by assumption) ?_ | refine Has.alloc ?_ _ | refine Has.drew ?_ | refine Has.drewN ?_ _ | refine Has.set ?_ _ _ _ | refine Has.below (by assumption) ?_)); done))
  replace HC : Gr w w9 := Gr.step (by ((with_reducible repeat' (first | assumption | refine Gr.drew ?_ | refine Gr.drewN ?_ _ | refine Gr.alloc ?_ _ | refine Gr.set ?_ (by first | omega | (simp; omega)) _ _ | exact Gr.refl _)); done)) hB3
  clear hB3
  go_wp2_with fail
  generalize ha2 : mF n3 p2 _ = a2
  have ga2 : GW ((aS v).c) a2 := by rw [← ha2]; exact gm _ _ _ _ _ g3.1 hp2
  clear ha2
  refine (polyO _ 1 v lA4 (some v) (gsm v) rfl (by decide) _ (At.newRow _ (fRow lA4) _)).mono ?_
  rintro e w10 ⟨p3, rfl, hp3, hB3⟩
  replace RA : At w10 (w.heap.size + 1) (rL 0 0 0 0) := At.below hB3 (by ((with_reducible repeat' (first | assumption | exact At.new1 _ _ _ | exact At.new2 _ _ _ _ | exact At.new3 _ _ _ _ _ | exact At.new5 _ _ _ _ _ _ _ | exact At.nx1 _ _ _ | exact At.nx2 _ _ _ _ | exact At.nx3 _ _ _ _ _ | exact At.ny1 _ _ _ _ | exact At.ny2 _ _ _ _ _ | exact At.ny3 _ _ _ _ _ _ | exact At.nz1 _ _ _ _ _ | exact At.nz2 _ _ _ _ _ _ | exact At.nz3 _ _ _ _ _ _ _ | exact Has.new1 _ _ _ | exact Has.new2 _ _ _ _ | exact Has.new3 _ _ _ _ _ | exact Has.nx1 _ _ _ | exact Has.nx2 _ _ _ _ | exact Has.nx3 _ _ _ _ _ | exact Has.ny1 _ _ _ _ | exact Has.ny2 _ _ _ _ _ | exact Has.ny3 _ _ _ _ _ _ | exact Has.nz1 _ _ _ _ _ | exact Has.nz2 _ _ _ _ _ _ | exact Has.nz3 _ _ _ _ _ _ _ | refine At.fill1 ?_ _ | refine At.fill2 ?_ _ _ | refine At.fill3 ?_ _ _ _ | refine At.swap ?_ (by first | omega | (simp; omega)) _ _ | refine At.alloc ?_ _ | refine At.drew ?_ | refine At.drewN ?_ _ | refine At.skip ?_ (by first | omega | (simp; omega)) _ _ | refine At.below (by assumption) ?_ | refine Has.alloc ?_ _ | refine Has.drew ?_ | refine Has.drewN ?_ _ | refine Has.set ?_ _ _ _ | refine Has.below (by assumption) ?_)); done))
  replace TA : At w10 (w.heap.size + 1 + 1) (rL 0 0 0 0) := At.below hB3 (by ((with_reducible repeat' (first | assumption | exact At.new1 _ _ _ | exact At.new2 _ _ _ _ | exact At.new3 _ _ _ _ _ | exact At.new5 _ _ _ _ _ _ _ | exact At.nx1 _ _ _ | exact At.nx2 _ _ _ _ | exact At.nx3 _ _ _ _ _ | exact At.ny1 _ _ _ _ | exact At.ny2 _ _ _ _ _ | exact At.ny3 _ _ _ _ _ _ | exact At.nz1 _ _ _ _ _ | exact At.nz2 _ _ _ _ _ _ | exact At.nz3 _ _ _ _ _ _ _ | exact Has.new1 _ _ _ | exact Has.new2 _ _ _ _ | exact Has.new3 _ _ _ _ _ | exact Has.nx1 _ _ _ | exact Has.nx2 _ _ _ _ | exact Has.nx3 _ _ _ _ _ | exact Has.ny1 _ _ _ _ | exact Has.ny2 _ _ _ _ _ | exact Has.ny3 _ _ _ _ _ _ | exact Has.nz1 _ _ _ _ _ | exact Has.nz2 _ _ _ _ _ _ | exact Has.nz3 _ _ _ _ _ _ _ | refine At.fill1 ?_ _ | refine At.fill2 ?_ _ _ | refine At.fill3 ?_ _ _ _ | refine At.swap ?_ (by first | omega | (simp; omega)) _ _ | refine At.alloc ?_ _ | refine At.drew ?_ | refine At.drewN ?_ _ | refine At.skip ?_ (by first | omega | (simp; omega)) _ _ | refine At.below (by assumption) ?_ | refine Has.alloc ?_ _ | refine Has.drew ?_ | refine Has.drewN ?_ _ | refine Has.set ?_ _ _ _ | refine Has.below (by assumption) ?_)); done))
  replace HC : Gr w w10 := Gr.step (by ((with_reducible repeat' (first | assumption | refine Gr.drew ?_ | refine Gr.drewN ?_ _ | refine Gr.alloc ?_ _ | refine Gr.set ?_ (by first | omega | (simp; omega)) _ _ | exact Gr.refl _)); done)) hB3
  clear hB3
  obtain ⟨r0, r1, r2, r3⟩ := RA.c4
  obtain ⟨f0, f1, f2, f3⟩ := RA.f4
  go_upto_region 9 with fail
  generalize ha3 : mF n4 p3 _ = a3
  have ga3 : GW ((aS v).d) a3 := by rw [← ha3]; exact gm _ _ _ _ _ g4.1 hp3
  clear ha3
  clear r0 r1 r2 r3 f0 f1 f2 f3
  generalize hw : World.setCell (World.setCell (World.setCell (World.setCell _ _ _) _ _) _ _) _ _ = w20
  replace RA : At w20 (w.heap.size + 1) (rL a0 a1 a2 a3) := by rw [← hw]; exact At.fill4 ((RA.drewN _).has rfl) _ _ _ _
  replace TA : At w20 (w.heap.size + 1 + 1) (rL 0 0 0 0) := by rw [← hw]; ((with_reducible repeat' (first | assumption | exact At.new1 _ _ _ | exact At.new2 _ _ _ _ | exact At.new3 _ _ _ _ _ | exact At.new5 _ _ _ _ _ _ _ | exact At.nx1 _ _ _ | exact At.nx2 _ _ _ _ | exact At.nx3 _ _ _ _ _ | exact At.ny1 _ _ _ _ | exact At.ny2 _ _ _ _ _ | exact At.ny3 _ _ _ _ _ _ | exact At.nz1 _ _ _ _ _ | exact At.nz2 _ _ _ _ _ _ | exact At.nz3 _ _ _ _ _ _ _ | exact Has.new1 _ _ _ | exact Has.new2 _ _ _ _ | exact Has.new3 _ _ _ _ _ | exact Has.nx1 _ _ _ | exact Has.nx2 _ _ _ _ | exact Has.nx3 _ _ _ _ _ | exact Has.ny1 _ _ _ _ | exact Has.ny2 _ _ _ _ _ | exact Has.ny3 _ _ _ _ _ _ | exact Has.nz1 _ _ _ _ _ | exact Has.nz2 _ _ _ _ _ _ | exact Has.nz3 _ _ _ _ _ _ _ | refine At.fill1 ?_ _ | refine At.fill2 ?_ _ _ | refine At.fill3 ?_ _ _ _ | refine At.swap ?_ (by first | omega | (simp; omega)) _ _ | refine At.alloc ?_ _ | refine At.drew ?_ | refine At.drewN ?_ _ | refine At.skip ?_ (by first | omega | (simp; omega)) _ _ | refine At.below (by assumption) ?_ | refine Has.alloc ?_ _ | refine Has.drew ?_ | refine Has.drewN ?_ _ | refine Has.set ?_ _ _ _ | refine Has.below (by assumption) ?_)); done)
  replace HC : Gr w w20 := by rw [← hw]; ((with_reducible repeat' (first | assumption | refine Gr.drew ?_ | refine Gr.drewN ?_ _ | refine Gr.alloc ?_ _ | refine Gr.set ?_ (by first | omega | (simp; omega)) _ _ | exact Gr.refl _)); done)
  clear hw hp0 hp1 hp2 hp3
  go_wp2_with fail
  refine (polyO _ 4 v lB1 (some v) (gsm v) rfl (by decide) _ (At.newRow _ (fRow lB1) _)).mono ?_
  rintro e w21 ⟨p0, rfl, hp0, hB3⟩
  replace RA : At w21 (w.heap.size + 1) (rL a0 a1 a2 a3) := At.below hB3 (by ((with_reducible repeat' (first | assumption | exact At.new1 _ _ _ | exact At.new2 _ _ _ _ | exact At.new3 _ _ _ _ _ | exact At.new5 _ _ _ _ _ _ _ | exact At.nx1 _ _ _ | exact At.nx2 _ _ _ _ | exact At.nx3 _ _ _ _ _ | exact At.ny1 _ _ _ _ | exact At.ny2 _ _ _ _ _ | exact At.ny3 _ _ _ _ _ _ | exact At.nz1 _ _ _ _ _ | exact At.nz2 _ _ _ _ _ _ | exact At.nz3 _ _ _ _ _ _ _ | exact Has.new1 _ _ _ | exact Has.new2 _ _ _ _ | exact Has.new3 _ _ _ _ _ | exact Has.nx1 _ _ _ | exact Has.nx2 _ _ _ _ | exact Has.nx3 _ _ _ _ _ | exact Has.ny1 _ _ _ _ | exact Has.ny2 _ _ _ _ _ | exact Has.ny3 _ _ _ _ _ _ | exact Has.nz1 _ _ _ _ _ | exact Has.nz2 _ _ _ _ _ _ | exact Has.nz3 _ _ _ _ _ _ _ | refine At.fill1 ?_ _ | refine At.fill2 ?_ _ _ | refine At.fill3 ?_ _ _ _ | refine At.swap ?_ (by first | omega | (simp; omega)) _ _ | refine At.alloc ?_ _ | refine At.drew ?_ | refine At.drewN ?_ _ | refine At.skip ?_ (by first | omega | (simp; omega)) _ _ | refine At.below (by assumption) ?_ | refine Has.alloc ?_ _ | refine Has.drew ?_ | refine Has.drewN ?_ _ | refine Has.set ?_ _ _ _ | refine Has.below (by assumption) ?_)); done))
  replace TA : At w21 (w.heap.size + 1 + 1) (rL 0 0 0 0) := At.below hB3 (by ((with_reducible repeat' (first | assumption | exact At.new1 _ _ _ | exact At.new2 _ _ _ _ | exact At.new3 _ _ _ _ _ | exact At.new5 _ _ _ _ _ _ _ | exact At.nx1 _ _ _ | exact At.nx2 _ _ _ _ | exact At.nx3 _ _ _ _ _ | exact At.ny1 _ _ _ _ | exact At.ny2 _ _ _ _ _ | exact At.ny3 _ _ _ _ _ _ | exact At.nz1 _ _ _ _ _ | exact At.nz2 _ _ _ _ _ _ | exact At.nz3 _ _ _ _ _ _ _ | exact Has.new1 _ _ _ | exact Has.new2 _ _ _ _ | exact Has.new3 _ _ _ _ _ | exact Has.nx1 _ _ _ | exact Has.nx2 _ _ _ _ | exact Has.nx3 _ _ _ _ _ | exact Has.ny1 _ _ _ _ | exact Has.ny2 _ _ _ _ _ | exact Has.ny3 _ _ _ _ _ _ | exact Has.nz1 _ _ _ _ _ | exact Has.nz2 _ _ _ _ _ _ | exact Has.nz3 _ _ _ _ _ _ _ | refine At.fill1 ?_ _ | refine At.fill2 ?_ _ _ | refine At.fill3 ?_ _ _ _ | refine At.swap ?_ (by first | omega | (simp; omega)) _ _ | refine At.alloc ?_ _ | refine At.drew ?_ | refine At.drewN ?_ _ | refine At.skip ?_ (by first | omega | (simp; omega)) _ _ | refine At.below (by assumption) ?_ | refine Has.alloc ?_ _ | refine Has.drew ?_ | refine Has.drewN ?_ _ | refine Has.set ?_ _ _ _ | refine Has.below (by assumption) ?_)); done))
  replace HC : Gr w w21 := Gr.step (by ((with_reducible repeat' (first | assumption | refine Gr.drew ?_ | refine Gr.drewN ?_ _ | refine Gr.alloc ?_ _ | refine Gr.set ?_ (by first | omega | (simp; omega)) _ _ | exact Gr.refl _)); done)) hB3
  clear hB3
  go_wp2_with fail
  generalize hb0 : mF v p0 _ = b0
  have gb0 : GW ((bS v).a) b0 := by rw [← hb0]; exact gm _ _ _ _ _ (gsm v) hp0
  clear hb0
  refine (polyO _ 3 v lB2 (some v) (gsm v) rfl (by decide) _ (At.newRow _ (fRow lB2) _)).mono ?_
  rintro e w22 ⟨p1, rfl, hp1, hB3⟩
  replace RA : At w22 (w.heap.size + 1) (rL a0 a1 a2 a3) := At.below hB3 (by ((with_reducible repeat' (first | assumption | exact At.new1 _ _ _ | exact At.new2 _ _ _ _ | exact At.new3 _ _ _ _ _ | exact At.new5 _ _ _ _ _ _ _ | exact At.nx1 _ _ _ | exact At.nx2 _ _ _ _ | exact At.nx3 _ _ _ _ _ | exact At.ny1 _ _ _ _ | exact At.ny2 _ _ _ _ _ | exact At.ny3 _ _ _ _ _ _ | exact At.nz1 _ _ _ _ _ | exact At.nz2 _ _ _ _ _ _ | exact At.nz3 _ _ _ _ _ _ _ | exact Has.new1 _ _ _ | exact Has.new2 _ _ _ _ | exact Has.new3 _ _ _ _ _ | exact Has.nx1 _ _ _ | exact Has.nx2 _ _ _ _ | exact Has.nx3 _ _ _ _ _ | exact Has.ny1 _ _ _ _ | exact Has.ny2 _ _ _ _ _ | exact Has.ny3 _ _ _ _ _ _ | exact Has.nz1 _ _ _ _ _ | exact Has.nz2 _ _ _ _ _ _ | exact Has.nz3 _ _ _ _ _ _ _ | refine At.fill1 ?_ _ | refine At.fill2 ?_ _ _ | refine At.fill3 ?_ _ _ _ | refine At.swap ?_ (by first | omega | (simp; omega)) _ _ | refine At.alloc ?_ _ | refine At.drew ?_ | refine At.drewN ?_ _ | refine At.skip ?_ (by first | omega | (simp; omega)) _ _ | refine At.below (by assumption) ?_ | refine Has.alloc ?_ _ | refine Has.drew ?_ | refine Has.drewN ?_ _ | refine Has.set ?_ _ _ _ | refine Has.below (by assumption) ?_)); done))
  replace TA : At w22 (w.heap.size + 1 + 1) (rL 0 0 0 0) := At.below hB3 (by ((with_reducible repeat' (first | assumption | exact At.new1 _ _ _ | exact At.new2 _ _ _ _ | exact At.new3 _ _ _ _ _ | exact At.new5 _ _ _ _ _ _ _ | exact At.nx1 _ _ _ | exact At.nx2 _ _ _ _ | exact At.nx3 _ _ _ _ _ | exact At.ny1 _ _ _ _ | exact At.ny2 _ _ _ _ _ | exact At.ny3 _ _ _ _ _ _ | exact At.nz1 _ _ _ _ _ | exact At.nz2 _ _ _ _ _ _ | exact At.nz3 _ _ _ _ _ _ _ | exact Has.new1 _ _ _ | exact Has.new2 _ _ _ _ | exact Has.new3 _ _ _ _ _ | exact Has.nx1 _ _ _ | exact Has.nx2 _ _ _ _ | exact Has.nx3 _ _ _ _ _ | exact Has.ny1 _ _ _ _ | exact Has.ny2 _ _ _ _ _ | exact Has.ny3 _ _ _ _ _ _ | exact Has.nz1 _ _ _ _ _ | exact Has.nz2 _ _ _ _ _ _ | exact Has.nz3 _ _ _ _ _ _ _ | refine At.fill1 ?_ _ | refine At.fill2 ?_ _ _ | refine At.fill3 ?_ _ _ _ | refine At.swap ?_ (by first | omega | (simp; omega)) _ _ | refine At.alloc ?_ _ | refine At.drew ?_ | refine At.drewN ?_ _ | refine At.skip ?_ (by first | omega | (simp; omega)) _ _ | refine At.below (by assumption) ?_ | refine Has.alloc ?_ _ | refine Has.drew ?_ | refine Has.drewN ?_ _ | refine Has.set ?_ _ _ _ | refine Has.below (by assumption) ?_)); done))
  replace HC : Gr w w22 := Gr.step (by ((with_reducible repeat' (first | assumption | refine Gr.drew ?_ | refine Gr.drewN ?_ _ | refine Gr.alloc ?_ _ | refine Gr.set ?_ (by first | omega | (simp; omega)) _ _ | exact Gr.refl _)); done)) hB3
  clear hB3
  go_wp2_with fail
  generalize hb1 : mF n2 p1 _ = b1
  have gb1 : GW ((bS v).b) b1 := by rw [← hb1]; exact gm _ _ _ _ _ g2.1 hp1
  clear hb1
  refine (polyO _ 2 v lB3 (some v) (gsm v) rfl (by decide) _ (At.newRow _ (fRow lB3) _)).mono ?_
  rintro e w23 ⟨p2, rfl, hp2, hB3⟩
  replace RA : At w23 (w.heap.size + 1) (rL a0 a1 a2 a3) := At.below hB3 (by ((with_reducible repeat' (first | assumption | exact At.new1 _ _ _ | exact At.new2 _ _ _ _ | exact At.new3 _ _ _ _ _ | exact At.new5 _ _ _ _ _ _ _ | exact At.nx1 _ _ _ | exact At.nx2 _ _ _ _ | exact At.nx3 _ _ _ _ _ | exact At.ny1 _ _ _ _ | exact At.ny2 _ _ _ _ _ | exact At.ny3 _ _ _ _ _ _ | exact At.nz1 _ _ _ _ _ | exact At.nz2 _ _ _ _ _ _ | exact At.nz3 _ _ _ _ _ _ _ | exact Has.new1 _ _ _ | exact Has.new2 _ _ _ _ | exact Has.new3 _ _ _ _ _ | exact Has.nx1 _ _ _ | exact Has.nx2 _ _ _ _ | exact Has.nx3 _ _ _ _ _ | exact Has.ny1 _ _ _ _ | exact Has.ny2 _ _ _ _ _ | exact Has.ny3 _ _ _ _ _ _ | exact Has.nz1 _ _ _ _ _ | exact Has.nz2 _ _ _ _ _ _ | exact Has.nz3 _ _ _ _ _ _ _ | refine At.fill1 ?_ _ | refine At.fill2 ?_ _ _ | refine At.fill3 ?_ _ _ _ | refine At.swap ?_ (by first | omega | (simp; omega)) _ _ | refine At.alloc ?_ _ | refine At.drew ?_ | refine At.drewN ?_ _ | refine At.skip ?_ (by first | omega | (simp; omega)) _ _ | refine At.below (by assumption) ?_ | refine Has.alloc ?_ _ | refine Has.drew ?_ | refine Has.drewN ?_ _ | refine Has.set ?_ _ _ _ | refine Has.below (by assumption) ?_)); done))
  replace TA : At w23 (w.heap.size + 1 + 1) (rL 0 0 0 0) := At.below hB3 (by ((with_reducible repeat' (first | assumption | exact At.new1 _ _ _ | exact At.new2 _ _ _ _ | exact At.new3 _ _ _ _ _ | exact At.new5 _ _ _ _ _ _ _ | exact At.nx1 _ _ _ | exact At.nx2 _ _ _ _ | exact At.nx3 _ _ _ _ _ | exact At.ny1 _ _ _ _ | exact At.ny2 _ _ _ _ _ | exact At.ny3 _ _ _ _ _ _ | exact At.nz1 _ _ _ _ _ | exact At.nz2 _ _ _ _ _ _ | exact At.nz3 _ _ _ _ _ _ _ | exact Has.new1 _ _ _ | exact Has.new2 _ _ _ _ | exact Has.new3 _ _ _ _ _ | exact Has.nx1 _ _ _ | exact Has.nx2 _ _ _ _ | exact Has.nx3 _ _ _ _ _ | exact Has.ny1 _ _ _ _ | exact Has.ny2 _ _ _ _ _ | exact Has.ny3 _ _ _ _ _ _ | exact Has.nz1 _ _ _ _ _ | exact Has.nz2 _ _ _ _ _ _ | exact Has.nz3 _ _ _ _ _ _ _ | refine At.fill1 ?_ _ | refine At.fill2 ?_ _ _ | refine At.fill3 ?_ _ _ _ | refine At.swap ?_ (by first | omega | (simp; omega)) _ _ | refine At.alloc ?_ _ | refine At.drew ?_ | refine At.drewN ?_ _ | refine At.skip ?_ (by first | omega | (simp; omega)) _ _ | refine At.below (by assumption) ?_ | refine Has.alloc ?_ _ | refine Has.drew ?_ | refine Has.drewN ?_ _ | refine Has.set ?_ _ _ _ | refine Has.below (by assumption) ?_)); done))
  replace HC : Gr w w23 := Gr.step (by ((with_reducible repeat' (first | assumption | refine Gr.drew ?_ | refine Gr.drewN ?_ _ | refine Gr.alloc ?_ _ | refine Gr.set ?_ (by first | omega | (simp; omega)) _ _ | exact Gr.refl _)); done)) hB3
  clear hB3
  go_wp2_with fail
  generalize hb2 : mF n3 p2 _ = b2
  have gb2 : GW ((bS v).c) b2 := by rw [← hb2]; exact gm _ _ _ _ _ g3.1 hp2
  clear hb2
  refine (polyO _ 1 v lB4 (some v) (gsm v) rfl (by decide) _ (At.newRow _ (fRow lB4) _)).mono ?_
  rintro e w24 ⟨p3, rfl, hp3, hB3⟩
  replace RA : At w24 (w.heap.size + 1) (rL a0 a1 a2 a3) := At.below hB3 (by ((with_reducible repeat' (first | assumption | exact At.new1 _ _ _ | exact At.new2 _ _ _ _ | exact At.new3 _ _ _ _ _ | exact At.new5 _ _ _ _ _ _ _ | exact At.nx1 _ _ _ | exact At.nx2 _ _ _ _ | exact At.nx3 _ _ _ _ _ | exact At.ny1 _ _ _ _ | exact At.ny2 _ _ _ _ _ | exact At.ny3 _ _ _ _ _ _ | exact At.nz1 _ _ _ _ _ | exact At.nz2 _ _ _ _ _ _ | exact At.nz3 _ _ _ _ _ _ _ | exact Has.new1 _ _ _ | exact Has.new2 _ _ _ _ | exact Has.new3 _ _ _ _ _ | exact Has.nx1 _ _ _ | exact Has.nx2 _ _ _ _ | exact Has.nx3 _ _ _ _ _ | exact Has.ny1 _ _ _ _ | exact Has.ny2 _ _ _ _ _ | exact Has.ny3 _ _ _ _ _ _ | exact Has.nz1 _ _ _ _ _ | exact Has.nz2 _ _ _ _ _ _ | exact Has.nz3 _ _ _ _ _ _ _ | refine At.fill1 ?_ _ | refine At.fill2 ?_ _ _ | refine At.fill3 ?_ _ _ _ | refine At.swap ?_ (by first | omega | (simp; omega)) _ _ | refine At.alloc ?_ _ | refine At.drew ?_ | refine At.drewN ?_ _ | refine At.skip ?_ (by first | omega | (simp; omega)) _ _ | refine At.below (by assumption) ?_ | refine Has.alloc ?_ _ | refine Has.drew ?_ | refine Has.drewN ?_ _ | refine Has.set ?_ _ _ _ | refine Has.below (by assumption) ?_)); done))
  replace TA : At w24 (w.heap.size + 1 + 1) (rL 0 0 0 0) := At.below hB3 (by ((with_reducible repeat' (first | assumption | exact At.new1 _ _ _ | exact At.new2 _ _ _ _ | exact At.new3 _ _ _ _ _ | exact At.new5 _ _ _ _ _ _ _ | exact At.nx1 _ _ _ | exact At.nx2 _ _ _ _ | exact At.nx3 _ _ _ _ _ | exact At.ny1 _ _ _ _ | exact At.ny2 _ _ _ _ _ | exact At.ny3 _ _ _ _ _ _ | exact At.nz1 _ _ _ _ _ | exact At.nz2 _ _ _ _ _ _ | exact At.nz3 _ _ _ _ _ _ _ | exact Has.new1 _ _ _ | exact Has.new2 _ _ _ _ | exact Has.new3 _ _ _ _ _ | exact Has.nx1 _ _ _ | exact Has.nx2 _ _ _ _ | exact Has.nx3 _ _ _ _ _ | exact Has.ny1 _ _ _ _ | exact Has.ny2 _ _ _ _ _ | exact Has.ny3 _ _ _ _ _ _ | exact Has.nz1 _ _ _ _ _ | exact Has.nz2 _ _ _ _ _ _ | exact Has.nz3 _ _ _ _ _ _ _ | refine At.fill1 ?_ _ | refine At.fill2 ?_ _ _ | refine At.fill3 ?_ _ _ _ | refine At.swap ?_ (by first | omega | (simp; omega)) _ _ | refine At.alloc ?_ _ | refine At.drew ?_ | refine At.drewN ?_ _ | refine At.skip ?_ (by first | omega | (simp; omega)) _ _ | refine At.below (by assumption) ?_ | refine Has.alloc ?_ _ | refine Has.drew ?_ | refine Has.drewN ?_ _ | refine Has.set ?_ _ _ _ | refine Has.below (by assumption) ?_)); done))
  replace HC : Gr w w24 := Gr.step (by ((with_reducible repeat' (first | assumption | refine Gr.drew ?_ | refine Gr.drewN ?_ _ | refine Gr.alloc ?_ _ | refine Gr.set ?_ (by first | omega | (simp; omega)) _ _ | exact Gr.refl _)); done)) hB3
  clear hB3
  obtain ⟨r0, r1, r2, r3⟩ := TA.c4
  obtain ⟨f0, f1, f2, f3⟩ := TA.f4
  go_upto_region 10 with fail
  generalize hb3 : mF n4 p3 _ = b3
  have gb3 : GW ((bS v).d) b3 := by rw [← hb3]; exact gm _ _ _ _ _ g4.1 hp3
  clear hb3
  clear r0 r1 r2 r3 f0 f1 f2 f3
  generalize hw : World.setCell (World.setCell (World.setCell (World.setCell _ _ _) _ _) _ _) _ _ = w30
  replace TA : At w30 (w.heap.size + 1 + 1) (rL b0 b1 b2 b3) := by rw [← hw]; exact At.fill4 ((TA.drewN _).has rfl) _ _ _ _
  replace RA : At w30 (w.heap.size + 1) (rL a0 a1 a2 a3) := by rw [← hw]; ((with_reducible repeat' (first | assumption | exact At.new1 _ _ _ | exact At.new2 _ _ _ _ | exact At.new3 _ _ _ _ _ | exact At.new5 _ _ _ _ _ _ _ | exact At.nx1 _ _ _ | exact At.nx2 _ _ _ _ | exact At.nx3 _ _ _ _ _ | exact At.ny1 _ _ _ _ | exact At.ny2 _ _ _ _ _ | exact At.ny3 _ _ _ _ _ _ | exact At.nz1 _ _ _ _ _ | exact At.nz2 _ _ _ _ _ _ | exact At.nz3 _ _ _ _ _ _ _ | exact Has.new1 _ _ _ | exact Has.new2 _ _ _ _ | exact Has.new3 _ _ _ _ _ | exact Has.nx1 _ _ _ | exact Has.nx2 _ _ _ _ | exact Has.nx3 _ _ _ _ _ | exact Has.ny1 _ _ _ _ | exact Has.ny2 _ _ _ _ _ | exact Has.ny3 _ _ _ _ _ _ | exact Has.nz1 _ _ _ _ _ | exact Has.nz2 _ _ _ _ _ _ | exact Has.nz3 _ _ _ _ _ _ _ | refine At.fill1 ?_ _ | refine At.fill2 ?_ _ _ | refine At.fill3 ?_ _ _ _ | refine At.swap ?_ (by first | omega | (simp; omega)) _ _ | refine At.alloc ?_ _ | refine At.drew ?_ | refine At.drewN ?_ _ | refine At.skip ?_ (by first | omega | (simp; omega)) _ _ | refine At.below (by assumption) ?_ | refine Has.alloc ?_ _ | refine Has.drew ?_ | refine Has.drewN ?_ _ | refine Has.set ?_ _ _ _ | refine Has.below (by assumption) ?_)); done)
  replace HC : Gr w w30 := by rw [← hw]; ((with_reducible repeat' (first | assumption | refine Gr.drew ?_ | refine Gr.drewN ?_ _ | refine Gr.alloc ?_ _ | refine Gr.set ?_ (by first | omega | (simp; omega)) _ _ | exact Gr.refl _)); done)
  clear hw hp0 hp1 hp2 hp3
  have hA : GF (aS v) a0 a1 a2 a3 := ⟨ga0, ga1, ga2, ga3⟩
  have hBf : GF (bS v) b0 b1 b2 b3 := ⟨gb0, gb1, gb2, gb3⟩
  have HA := hid hA
  have HBf := hid hBf
  have HR := hid gr
  clear hA hBf ga0 ga1 ga2 ga3 gb0 gb1 gb2 gb3 gr
  obtain ⟨r0, r1, r2, r3⟩ := RA.c4
  obtain ⟨f0, f1, f2, f3⟩ := RA.f4
  obtain ⟨t0, t1, t2, t3⟩ := TA.c4
  obtain ⟨z0, z1, z2, z3⟩ := TA.f4
  go_region_held (fun w' => w'.cell? ⟨w.heap.size + 1, 0, none⟩ = some (.float .f64 a0) ∧ w'.cell? ⟨w.heap.size + 1, 1, none⟩ = some (.float .f64 a1) ∧ w'.cell? ⟨w.heap.size + 1, 2, none⟩ = some (.float .f64 a2) ∧ w'.cell? ⟨w.heap.size + 1, 3, none⟩ = some (.float .f64 a3) ∧ w'.cell? ⟨w.heap.size + 1 + 1, 0, none⟩ = some (.float .f64 b0) ∧ w'.cell? ⟨w.heap.size + 1 + 1, 1, none⟩ = some (.float .f64 b1) ∧ w'.cell? ⟨w.heap.size + 1 + 1, 2, none⟩ = some (.float .f64 b2) ∧ w'.cell? ⟨w.heap.size + 1 + 1, 3, none⟩ = some (.float .f64 b3))
    ((refine c44 (a := .float .f64 a0) (b := .float .f64 a1) (c := .float .f64 a2) (d := .float .f64 a3) (x := .float .f64 b0) (y := .float .f64 b1) (z := .float .f64 b2) (u := .float .f64 b3) ?_ ?_; all_goals ((with_reducible repeat' (first | assumption | exact At.new1 _ _ _ | exact At.new2 _ _ _ _ | exact At.new3 _ _ _ _ _ | exact At.new5 _ _ _ _ _ _ _ | exact At.nx1 _ _ _ | exact At.nx2 _ _ _ _ | exact At.nx3 _ _ _ _ _ | exact At.ny1 _ _ _ _ | exact At.ny2 _ _ _ _ _ | exact At.ny3 _ _ _ _ _ _ | exact At.nz1 _ _ _ _ _ | exact At.nz2 _ _ _ _ _ _ | exact At.nz3 _ _ _ _ _ _ _ | exact Has.new1 _ _ _ | exact Has.new2 _ _ _ _ | exact Has.new3 _ _ _ _ _ | exact Has.nx1 _ _ _ | exact Has.nx2 _ _ _ _ | exact Has.nx3 _ _ _ _ _ | exact Has.ny1 _ _ _ _ | exact Has.ny2 _ _ _ _ _ | exact Has.ny3 _ _ _ _ _ _ | exact Has.nz1 _ _ _ _ _ | exact Has.nz2 _ _ _ _ _ _ | exact Has.nz3 _ _ _ _ _ _ _ | refine At.fill4 ?_ _ _ _ _ | refine At.fill1 ?_ _ | refine At.fill2 ?_ _ _ | refine At.fill3 ?_ _ _ _ | refine At.swap ?_ (by first | omega | (simp; omega)) _ _ | refine At.alloc ?_ _ | refine At.drew ?_ | refine At.drewN ?_ _ | refine At.skip ?_ (by first | omega | (simp; omega)) _ _ | refine At.below (by assumption) ?_ | exact At.has (by assumption) rfl | refine Has.alloc ?_ _ | refine Has.drew ?_ | refine Has.drewN ?_ _ | refine Has.set ?_ _ _ _ | refine Has.below (by assumption) ?_)); done)))
    (fail)
  clear r0 r1 r2 r3 f0 f1 f2 f3 t0 t1 t2 t3 z0 z1 z2 z3
  generalize hw : World.drew _ = w31
  replace RA : At w31 (w.heap.size + 1) (rL a0 a1 a2 a3) := by rw [← hw]; ((with_reducible repeat' (first | assumption | exact At.new1 _ _ _ | exact At.new2 _ _ _ _ | exact At.new3 _ _ _ _ _ | exact At.new5 _ _ _ _ _ _ _ | exact At.nx1 _ _ _ | exact At.nx2 _ _ _ _ | exact At.nx3 _ _ _ _ _ | exact At.ny1 _ _ _ _ | exact At.ny2 _ _ _ _ _ | exact At.ny3 _ _ _ _ _ _ | exact At.nz1 _ _ _ _ _ | exact At.nz2 _ _ _ _ _ _ | exact At.nz3 _ _ _ _ _ _ _ | exact Has.new1 _ _ _ | exact Has.new2 _ _ _ _ | exact Has.new3 _ _ _ _ _ | exact Has.nx1 _ _ _ | exact Has.nx2 _ _ _ _ | exact Has.nx3 _ _ _ _ _ | exact Has.ny1 _ _ _ _ | exact Has.ny2 _ _ _ _ _ | exact Has.ny3 _ _ _ _ _ _ | exact Has.nz1 _ _ _ _ _ | exact Has.nz2 _ _ _ _ _ _ | exact Has.nz3 _ _ _ _ _ _ _ | refine At.fill4 ?_ _ _ _ _ | refine At.fill1 ?_ _ | refine At.fill2 ?_ _ _ | refine At.fill3 ?_ _ _ _ | refine At.swap ?_ (by first | omega | (simp; omega)) _ _ | refine At.alloc ?_ _ | refine At.drew ?_ | refine At.drewN ?_ _ | refine At.skip ?_ (by first | omega | (simp; omega)) _ _ | refine At.below (by assumption) ?_ | exact At.has (by assumption) rfl | refine Has.alloc ?_ _ | refine Has.drew ?_ | refine Has.drewN ?_ _ | refine Has.set ?_ _ _ _ | refine Has.below (by assumption) ?_)); done)
  replace TA : At w31 (w.heap.size + 1 + 1) (rL b0 b1 b2 b3) := by rw [← hw]; ((with_reducible repeat' (first | assumption | exact At.new1 _ _ _ | exact At.new2 _ _ _ _ | exact At.new3 _ _ _ _ _ | exact At.new5 _ _ _ _ _ _ _ | exact At.nx1 _ _ _ | exact At.nx2 _ _ _ _ | exact At.nx3 _ _ _ _ _ | exact At.ny1 _ _ _ _ | exact At.ny2 _ _ _ _ _ | exact At.ny3 _ _ _ _ _ _ | exact At.nz1 _ _ _ _ _ | exact At.nz2 _ _ _ _ _ _ | exact At.nz3 _ _ _ _ _ _ _ | exact Has.new1 _ _ _ | exact Has.new2 _ _ _ _ | exact Has.new3 _ _ _ _ _ | exact Has.nx1 _ _ _ | exact Has.nx2 _ _ _ _ | exact Has.nx3 _ _ _ _ _ | exact Has.ny1 _ _ _ _ | exact Has.ny2 _ _ _ _ _ | exact Has.ny3 _ _ _ _ _ _ | exact Has.nz1 _ _ _ _ _ | exact Has.nz2 _ _ _ _ _ _ | exact Has.nz3 _ _ _ _ _ _ _ | refine At.fill4 ?_ _ _ _ _ | refine At.fill1 ?_ _ | refine At.fill2 ?_ _ _ | refine At.fill3 ?_ _ _ _ | refine At.swap ?_ (by first | omega | (simp; omega)) _ _ | refine At.alloc ?_ _ | refine At.drew ?_ | refine At.drewN ?_ _ | refine At.skip ?_ (by first | omega | (simp; omega)) _ _ | refine At.below (by assumption) ?_ | exact At.has (by assumption) rfl | refine Has.alloc ?_ _ | refine Has.drew ?_ | refine Has.drewN ?_ _ | refine Has.set ?_ _ _ _ | refine Has.below (by assumption) ?_)); done)
  replace HC : Gr w w31 := by rw [← hw]; ((with_reducible repeat' (first | assumption | refine Gr.drew ?_ | refine Gr.drewN ?_ _ | refine Gr.alloc ?_ _ | refine Gr.set ?_ (by first | omega | (simp; omega)) _ _ | exact Gr.refl _)); done)
  clear hw
  obtain ⟨r0, r1, r2, r3⟩ := RA.c4
  obtain ⟨t0, t1, t2, t3⟩ := TA.c4
  go_wp2
  exact bodyPost_ret (v := .tuple #[.float .f64 r, rV a0 a1 a2 a3, rV b0 b1 b2 b3, .nilIface]) (by simp [results, Tryz.results61, go_sem, r0, r1, r2, r3, t0, t1, t2, t3]) rfl ⟨_, _, _, _, _, _, _, _, _, rfl, by rw [HV.out]; exact HR.out, by rw [HV.out]; exact HA.out, by rw [HV.out]; exact HBf.out, by ((with_reducible repeat' (first | assumption | refine Gr.drew ?_ | refine Gr.drewN ?_ _ | refine Gr.alloc ?_ _ | refine Gr.set ?_ (by first | omega | (simp; omega)) _ _ | exact Gr.refl _)); done)⟩
end Go.Proofs.YtinopkmcddjgdaaGreatDoor
