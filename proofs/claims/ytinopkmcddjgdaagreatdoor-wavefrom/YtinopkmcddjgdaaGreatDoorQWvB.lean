/-
  wave: unroll; grain.Polynomial of chains; mercatorref2: sinhBack, horner, SineOf, plus.
-/
import Derived.Test.YtinopkmcddjgdaaGreatDoorQWvA
namespace Go.Proofs.YtinopkmcddjgdaaGreatDoor
open Go.RowKit FB
attribute [local go_sem] run_store_float

theorem sum_comm (a b : Ieee.Datum) : a.sum b = b.sum a := by
  cases a with
  | nan s f => cases b <;> rfl
  | infinity s =>
    cases b with
    | nan t f => rfl
    | infinity t =>
      simp only [Ieee.Datum.sum]
      by_cases h : s = t
      · rw [if_pos h, if_pos h.symm, h]
      · rw [if_neg h, if_neg (fun e => h e.symm)]
    | number t n j => rfl
  | number s m i =>
    cases b with
    | nan t f => rfl
    | infinity t => rfl
    | number t n j =>
      simp only [Ieee.Datum.sum]
      rw [Int.min_comm, Int.add_comm, Bool.and_comm]
theorem add_swap (x y : Nat) : Ieee.double.add x y = Ieee.double.add y x := by unfold Ieee.Format.add; rw [sum_comm]
theorem oA_swap (o p : Option Nat) : oA o p = oA p o := by
  cases o <;> cases p <;> first | rfl | exact add_swap _ _
theorem read_neg {x : Nat} (hx : x < 18446744073709551616) : Ieee.double.read (Op.negFloat .f64 x) = (Ieee.double.read x).opposite := by
  have key : ∀ y r : Nat, y % 9223372036854775808 = r → (y / 9223372036854775808 % 2 == 1) = !(x / 9223372036854775808 % 2 == 1) → x % 9223372036854775808 = r → Ieee.double.read y = (Ieee.double.read x).opposite := by
    intro y r h1 h2 h3
    rw [read_eq, read_eq, h1, h2, h3]
    split
    · rfl
    · split
      · rfl
      · split <;> rfl
  by_cases c : x < 9223372036854775808
  · rw [neg_low c]
    refine key _ x (by omega) ?_ (by omega)
    rw [show (9223372036854775808 + x) / 9223372036854775808 = 1 by omega, show x / 9223372036854775808 = 0 by omega]; rfl
  · obtain ⟨a, rfl⟩ : ∃ a, x = 9223372036854775808 + a := ⟨x - 9223372036854775808, by omega⟩
    rw [neg_high (by omega)]
    refine key _ a (by omega) ?_ (by omega)
    rw [show (9223372036854775808 + a) / 9223372036854775808 = 1 by omega, show a / 9223372036854775808 = 0 by omega]; rfl
theorem sub_as_add (x : Nat) {y : Nat} (hy : y < 18446744073709551616) : Ieee.double.sub x y = Ieee.double.add x (Op.negFloat .f64 y) := by
  unfold Ieee.Format.sub Ieee.Format.add
  rw [read_neg hy]
theorem mul_neg2 {x : Nat} (hx : x < 18446744073709551616) : Ieee.double.mul (Op.negFloat .f64 x) (Op.negFloat .f64 x) = Ieee.double.mul x x := by
  unfold Ieee.Format.mul
  rw [read_neg hx]
  cases Ieee.double.read x with
  | nan s f => rfl
  | infinity s => cases s <;> rfl
  | number s m i => cases s <;> rfl
theorem one_one : Ieee.double.mul oneW oneW = some oneW := by decide +kernel
/-- Whose hyperbolic sine a number is. -/
def unP (o : Option Nat) : Option Nat := oL (oA o (hyO o (some oneW)))
def ltO : Option Nat → Bool | some x => FloatKind.f64.format.order x 0 == some Ordering.lt | none => false
def unO (o : Option Nat) : Option Nat := if ltO o = true then oN (unP (oN o)) else unP o
theorem ltO_got {o : Option Nat} {x : Nat} (h : Got o x) : (FloatKind.f64.format.order x 0 == some Ordering.lt) = ltO o := by
  cases o with
  | none => obtain ⟨s, f, h⟩ := h; show (Ieee.double.order x 0 == _) = false; rw [order_nan h]; rfl
  | some q => obtain rfl : x = q := h; rfl
theorem neg_not_lt {x : Nat} (hx : x < 18446744073709551616) (h : (FloatKind.f64.format.order x 0 == some Ordering.lt) = true) : (FloatKind.f64.format.order (Op.negFloat .f64 x) 0 == some Ordering.lt) = false := by
  have h' : Ieee.double.order x 0 = some .lt := by
    have : (Ieee.double.order x 0 == some Ordering.lt) = true := h
    simpa using this
  show (Ieee.double.order (Op.negFloat .f64 x) 0 == some Ordering.lt) = false
  unfold Ieee.Format.order at h' ⊢
  rw [show Ieee.double.read 0 = .number false 0 (-1074) by decide +kernel] at h' ⊢
  rw [read_neg hx]
  cases hr : Ieee.double.read x with
  | nan s f => rfl
  | infinity s =>
    rw [hr] at h'
    cases s
    · cases h'
    · rfl
  | number s m i =>
    rw [hr] at h'
    simp only [Ieee.Datum.order, Ieee.Datum.opposite] at h' ⊢
    have hz : ∀ k, Ieee.signed false 0 k = 0 := fun k => by unfold Ieee.signed; rw [Nat.zero_shiftLeft]; rfl
    rw [hz] at h' ⊢
    have h0 := Int.compare_eq_lt.1 (Option.some.inj h')
    cases s with
    | false => rw [signed_false] at h0; omega
    | true =>
      rw [signed_true] at h0
      rw [Bool.not_true, signed_false, Int.compare_eq_gt.2 (by omega)]; rfl
theorem unrollP_any (o : Option Nat) (x : Nat) (hx : GW o x) (hn : (FloatKind.f64.format.order x 0 == some Ordering.lt) = false) (w : World) : Calls Tryz.prog 51 #[.float .f64 x] w fun e w' => ∃ r, e = .returned (.float .f64 r) ∧ GW (unP o) r ∧ Gr w w' := by
  obtain ⟨mF, aF, sF, qF, mD, aD, sD, qD, hm, ha, hss, hq, gm, ga, gs, gq⟩ := ops
  go_enter Tryz.func51, Tryz.ntmps51
  go_wp2_with fail
  refine (hyp_any o (some oneW) _ _ hx.1 (gsm _) _).mono ?_
  rintro e w1 ⟨r, rfl, hr, HC⟩
  go_wp2_with fail
  refine (lnPW (oA o (hyO o (some oneW))) _ (ga _ _ _ _ _ hx.1 hr.1) _).mono ?_
  rintro e w2 ⟨l, rfl, hl, hB⟩
  replace HC : Gr w w2 := Gr.step (by ((with_reducible repeat' (first | assumption | refine Gr.drewN ?_ _ | refine Gr.drew ?_ | refine Gr.alloc ?_ _ | exact Gr.refl _)); done)) hB
  go_wp2
  go_ret
  exact ⟨l, rfl, hl, HC⟩
theorem unroll_any (o : Option Nat) (x : Nat) (hx : GW o x) (w : World) : Calls Tryz.prog 51 #[.float .f64 x] w fun e w' => ∃ r, e = .returned (.float .f64 r) ∧ GW (unO o) r ∧ Gr w w' := by
  have hlt := ltO_got hx.1
  unfold unO
  cases hc : ltO o with
  | false =>
    rw [hc] at hlt
    rw [if_neg (by decide)]
    exact unrollP_any o x hx hlt w
  | true =>
    rw [hc] at hlt
    rw [if_pos rfl]
    have hng := hnegA
    have HU := hid (fun w => unrollP_any (oN o) (Op.negFloat .f64 x) (got_neg hx) (neg_not_lt hx.2 hlt) w)
    clear hx hc
    go_enter Tryz.func51, Tryz.ntmps51
    go_wp2_with fail
    refine (HU.out _).mono ?_
    rintro e w1 ⟨r, rfl, hr, HC⟩
    go_wp2
    go_ret
    exact ⟨_, rfl, got_neg hr, HC⟩
theorem hy_one (o : Option Nat) : hyO o (some oneW) = oQ (oA (oM o o) (some oneW)) := by
  unfold hyO
  rw [show oM (some oneW) (some oneW) = some oneW from one_one]
theorem oM_neg2 {o : Option Nat} (h : ∀ r, o = some r → r < 18446744073709551616) : oM (oN o) (oN o) = oM o o := by
  cases o with
  | none => rfl
  | some r => exact mul_neg2 (h r rfl)
theorem gw_lt {o : Option Nat} {x : Nat} (h : GW o x) : ∀ r, o = some r → r < 18446744073709551616 := by
  intro r hr
  subst hr
  obtain rfl : x = r := h.1
  exact h.2
theorem oS_neg (o : Option Nat) {p : Option Nat} (h : ∀ r, p = some r → r < 18446744073709551616) : oS o p = oA o (oN p) := by
  cases o with
  | none => rfl
  | some x =>
    cases p with
    | none => rfl
    | some y => exact sub_as_add x (h y rfl)
set_option maxHeartbeats 1000000 in
theorem sinhBack_any (o : Option Nat) (x : Nat) (hx : GW o x) (w : World) : Calls Tryz.prog 43 #[.float .f64 x] w fun e w' => ∃ r, e = .returned (.float .f64 r) ∧ GW (unO o) r ∧ Gr w w' := by
  obtain ⟨mF, aF, sF, qF, mD, aD, sD, qD, hm, ha, hss, hq, gm, ga, gs, gq⟩ := ops
  have hlt := ltO_got hx.1
  have hng := hnegA
  unfold unO
  cases hc : ltO o with
  | false =>
    rw [hc] at hlt
    rw [if_neg (by decide)]
    clear hc
    go_enter Tryz.func43, Tryz.ntmps43
    go_wp2_with fail
    refine (sqrtO (oA (oM o o) (some oneW)) _ (ga _ _ _ _ _ (gm _ _ _ _ _ hx.1 hx.1).1 (gsm _)).1 _).mono ?_
    rintro e w1 ⟨r, k, rfl, hr, rfl⟩
    rw [← hy_one] at hr
    go_wp2_with fail
    refine (lnRW (oA (hyO o (some oneW)) o) _ (ga _ _ _ _ _ hr.1 hx.1) _).mono ?_
    rintro e w2 ⟨l, rfl, hl, hB⟩
    have HC : Gr w w2 := Gr.step (by ((with_reducible repeat' (first | assumption | refine Gr.drewN ?_ _ | refine Gr.drew ?_ | refine Gr.alloc ?_ _ | exact Gr.refl _)); done)) hB
    rw [oA_swap] at hl
    go_wp2
    go_ret
    exact ⟨l, rfl, hl, HC⟩
  | true =>
    rw [hc] at hlt
    rw [if_pos rfl]
    clear hc
    have HE : Hid (oS (hyO o (some oneW)) o = oA (oN o) (hyO (oN o) (some oneW))) := by
      show _ = _
      rw [oS_neg _ (gw_lt hx), oA_swap, hy_one (oN o), oM_neg2 (gw_lt hx), ← hy_one]
    go_enter Tryz.func43, Tryz.ntmps43
    go_wp2_with fail
    refine (sqrtO (oA (oM o o) (some oneW)) _ (ga _ _ _ _ _ (gm _ _ _ _ _ hx.1 hx.1).1 (gsm _)).1 _).mono ?_
    rintro e w1 ⟨r, k, rfl, hr, rfl⟩
    rw [← hy_one] at hr
    go_wp2_with fail
    refine (lnRW (oS (hyO o (some oneW)) o) _ (gs _ _ _ _ _ hr.1 hx.1) _).mono ?_
    rintro e w2 ⟨l, rfl, hl, hB⟩
    have HC : Gr w w2 := Gr.step (by ((with_reducible repeat' (first | assumption | refine Gr.drewN ?_ _ | refine Gr.drew ?_ | refine Gr.alloc ?_ _ | exact Gr.refl _)); done)) hB
    rw [HE.out] at hl
    go_wp2
    go_ret
    exact ⟨_, rfl, got_neg hl, HC⟩

/-- Horner's rule, of chains. -/
def horO : List Nat → Option Nat → Option Nat
  | [], _ => some 0
  | c :: cs, o => oA (some c) (oM o (horO cs o))
abbrev fRow (cs : List Nat) : List Value := cs.map (Value.float .f64)
theorem fRow_cell {W : World} {B : Nat} {cs : List Nat} (h : At W B (fRow cs)) {j : Nat} (hj : j < cs.length) : W.cell? ⟨B, j, none⟩ = some (.float .f64 cs[j]) := by
  have := (h.1 j (by simpa using hj)).1
  rw [this]; simp
set_option maxHeartbeats 1000000 in
theorem polyO (b n z : Nat) (cs : List Nat) (o : Option Nat) (hz : Got o z) (hn : cs.length = n) (hn2 : n ≤ 100) (w : World) (hc : At w b (fRow cs)) :
    Calls Tryz.prog 93 #[.float .f64 z, .slice (some ⟨b, 0, none⟩) n n] w fun e w' => ∃ r, e = .returned (.float .f64 r) ∧ Got (horO cs o) r ∧ Gr w w' := by
  obtain ⟨mF, aF, sF, qF, mD, aD, sD, qD, hm, ha, hss, hq, gm, ga, gs, gq⟩ := ops
  have HN : Hid (cs.length = n) := hn
  have HZ := hid hz
  have HC : Gr w w := Gr.refl w
  clear hn hz
  go_enter Tryz.func93, Tryz.ntmps93
  go_wp2
  go_loopw [5, 6] (fun p i wr => ∃ (k r : Nat), k ≤ n ∧ i = .int .i64 ((k : Int) - 1) ∧ p = .float .f64 r ∧ Got (horO (cs.drop k) o) r ∧ At wr b (fRow cs) ∧ Gr w wr) (fun _ i _ => (intOf i + 1).toNat)
  case atStart => exact ⟨n, 0, Nat.le_refl _, rfl, rfl, by rw [List.drop_of_length_le (by rw [HN.out]; omega)]; rfl, hc, HC⟩
  case round =>
    clear hc HC
    obtain ⟨k, r, hk, rfl, rfl, hr, PA, HC⟩ := hrel
    by_cases h0 : k = 0
    · subst h0
      go_wp2
      go_ret
      exact ⟨r, rfl, by simpa using hr, HC⟩
    · obtain ⟨j, rfl⟩ : ∃ j, k = j + 1 := ⟨k - 1, by omega⟩
      have hj : j < cs.length := by rw [HN.out]; omega
      have hcj := fRow_cell PA hj
      have ej : ((j + 1 : Nat) : Int) - 1 = (j : Int) := by omega
      have HE : Hid (horO (cs.drop j) o = oA (some cs[j]) (oM o (horO (cs.drop (j + 1)) o))) := by
        show _ = _
        rw [List.drop_eq_getElem_cons hj]; rfl
      rw [ej]
      obtain ⟨c, hcc⟩ : ∃ c, cs[j] = c := ⟨_, rfl⟩
      rw [hcc] at hcj HE
      clear hcc
      go_wp2
      go_roundw
      case rel => exact ⟨j, _, by omega, rfl, rfl, by rw [HE.out]; exact (ga _ _ _ _ _ (gsm c) (gm _ _ _ _ _ HZ.out hr).1).1, by ((with_reducible repeat' (first | assumption | exact At.new1 _ _ _ | exact At.new2 _ _ _ _ | exact At.new3 _ _ _ _ _ | exact At.new5 _ _ _ _ _ _ _ | exact At.nx1 _ _ _ | exact At.nx2 _ _ _ _ | exact At.nx3 _ _ _ _ _ | exact At.ny1 _ _ _ _ | exact At.ny2 _ _ _ _ _ | exact At.ny3 _ _ _ _ _ _ | exact At.nz1 _ _ _ _ _ | exact At.nz2 _ _ _ _ _ _ | exact At.nz3 _ _ _ _ _ _ _ | exact Has.new1 _ _ _ | exact Has.new2 _ _ _ _ | exact Has.new3 _ _ _ _ _ | exact Has.nx1 _ _ _ | exact Has.nx2 _ _ _ _ | exact Has.nx3 _ _ _ _ _ | exact Has.ny1 _ _ _ _ | exact Has.ny2 _ _ _ _ _ | exact Has.ny3 _ _ _ _ _ _ | exact Has.nz1 _ _ _ _ _ | exact Has.nz2 _ _ _ _ _ _ | exact Has.nz3 _ _ _ _ _ _ _ | refine At.fill1 ?_ _ | refine At.fill2 ?_ _ _ | refine At.fill3 ?_ _ _ _ | refine At.swap ?_ (by first | omega | (simp; omega)) _ _ | refine At.alloc ?_ _ | refine At.drew ?_ | refine At.drewN ?_ _ | refine At.skip ?_ (by first | omega | (simp; omega)) _ _ | refine At.below (by assumption) ?_ | refine Has.alloc ?_ _ | refine Has.drew ?_ | refine Has.drewN ?_ _ | refine Has.set ?_ _ _ _ | refine Has.below (by assumption) ?_)); done), by ((with_reducible repeat' (first | assumption | refine Gr.drewN ?_ _ | refine Gr.drew ?_ | refine Gr.alloc ?_ _ | exact Gr.refl _)); done)⟩
      case measure => simp [intOf]
set_option maxHeartbeats 1000000 in
theorem hornerO (b n z : Nat) (cs : List Nat) (o : Option Nat) (hz : Got o z) (hn : cs.length = n) (hn2 : n ≤ 100) (w : World) (hc : At w b (fRow cs)) :
    Calls Tryz.prog 79 #[.float .f64 z, .slice (some ⟨b, 0, none⟩) n n] w fun e w' => ∃ r, e = .returned (.float .f64 r) ∧ Got (horO cs.reverse o) r ∧ Gr w w' := by
  obtain ⟨mF, aF, sF, qF, mD, aD, sD, qD, hm, ha, hss, hq, gm, ga, gs, gq⟩ := ops
  have HN : Hid (cs.length = n) := hn
  have HZ := hid hz
  have HC : Gr w w := Gr.refl w
  clear hn hz
  go_enter Tryz.func79, Tryz.ntmps79
  go_wp2
  go_loopw [5, 6] (fun p i wr => ∃ (k r : Nat), k ≤ n ∧ i = .int .i64 k ∧ p = .float .f64 r ∧ Got (horO (cs.take k).reverse o) r ∧ At wr b (fRow cs) ∧ Gr w wr) (fun _ i _ => (n - intOf i).toNat)
  case atStart => exact ⟨0, 0, Nat.zero_le _, rfl, rfl, rfl, hc, HC⟩
  case round =>
    clear hc HC
    obtain ⟨k, r, hk, rfl, rfl, hr, PA, HC⟩ := hrel
    by_cases h0 : k = n
    · subst h0
      have HE : Hid (cs.take k = cs) := by
        show _ = _
        rw [List.take_of_length_le (by rw [HN.out]; omega)]
      rw [HE.out] at hr
      go_wp2
      go_ret
      exact ⟨r, rfl, hr, HC⟩
    · have hj : k < cs.length := by rw [HN.out]; omega
      have hcj := fRow_cell PA hj
      have hkn : (k : Int) < (n : Int) := by omega
      have HE : Hid (horO (cs.take (k + 1)).reverse o = oA (some cs[k]) (oM o (horO (cs.take k).reverse o))) := by
        show _ = _
        rw [List.take_succ_eq_append_getElem hj, List.reverse_append]; rfl
      obtain ⟨c, hcc⟩ : ∃ c, cs[k] = c := ⟨_, rfl⟩
      rw [hcc] at hcj HE
      clear hcc
      go_wp2
      go_roundw
      case rel => exact ⟨k + 1, _, by omega, by go_num, rfl, by rw [HE.out]; exact (ga _ _ _ _ _ (gsm c) (gm _ _ _ _ _ HZ.out hr).1).1, by ((with_reducible repeat' (first | assumption | exact At.new1 _ _ _ | exact At.new2 _ _ _ _ | exact At.new3 _ _ _ _ _ | exact At.new5 _ _ _ _ _ _ _ | exact At.nx1 _ _ _ | exact At.nx2 _ _ _ _ | exact At.nx3 _ _ _ _ _ | exact At.ny1 _ _ _ _ | exact At.ny2 _ _ _ _ _ | exact At.ny3 _ _ _ _ _ _ | exact At.nz1 _ _ _ _ _ | exact At.nz2 _ _ _ _ _ _ | exact At.nz3 _ _ _ _ _ _ _ | exact Has.new1 _ _ _ | exact Has.new2 _ _ _ _ | exact Has.new3 _ _ _ _ _ | exact Has.nx1 _ _ _ | exact Has.nx2 _ _ _ _ | exact Has.nx3 _ _ _ _ _ | exact Has.ny1 _ _ _ _ | exact Has.ny2 _ _ _ _ _ | exact Has.ny3 _ _ _ _ _ _ | exact Has.nz1 _ _ _ _ _ | exact Has.nz2 _ _ _ _ _ _ | exact Has.nz3 _ _ _ _ _ _ _ | refine At.fill1 ?_ _ | refine At.fill2 ?_ _ _ | refine At.fill3 ?_ _ _ _ | refine At.swap ?_ (by first | omega | (simp; omega)) _ _ | refine At.alloc ?_ _ | refine At.drew ?_ | refine At.drewN ?_ _ | refine At.skip ?_ (by first | omega | (simp; omega)) _ _ | refine At.below (by assumption) ?_ | refine Has.alloc ?_ _ | refine Has.drew ?_ | refine Has.drewN ?_ _ | refine Has.set ?_ _ _ _ | refine Has.below (by assumption) ?_)); done), by ((with_reducible repeat' (first | assumption | refine Gr.drewN ?_ _ | refine Gr.drew ?_ | refine Gr.alloc ?_ _ | exact Gr.refl _)); done)⟩
      case measure => simp [intOf]; omega

noncomputable def rsR (u : Int) (o : Option Nat) : Option Nat := oM (some (sinV (nrm u))) (hO o)
noncomputable def rsI (u : Int) (o : Option Nat) : Option Nat := oM (some (cosV (nrm u))) (kO o)
noncomputable def rcR (u : Int) (o : Option Nat) : Option Nat := oM (some (cosV (nrm u))) (hO o)
noncomputable def rcI (u : Int) (o : Option Nat) : Option Nat := oN (oM (some (sinV (nrm u))) (kO o))
set_option maxHeartbeats 1000000 in
theorem sineOf_any (u : Int) (o : Option Nat) (v : Nat) (hv : GW o v) (w : World) : Calls Tryz.prog 45 #[.int .i64 u, .float .f64 v] w fun e w' => ∃ a b c d, e = .returned (.tuple #[fV a b, fV c d]) ∧ GW (rsR u o) a ∧ GW (rsI u o) b ∧ GW (rcR u o) c ∧ GW (rcI u o) d ∧ Gr w w' := by
  obtain ⟨mF, aF, sF, qF, mD, aD, sD, qD, hm, ha, hss, hq, gm, ga, gs, gq⟩ := ops
  have hng := hnegA
  go_enter Tryz.func45, Tryz.ntmps45
  go_wp2_with fail
  refine (expRw o v hv _).mono ?_
  rintro e w1 ⟨p, rfl, hp, hB⟩
  have RA : At w1 w.heap.size (fL 0 0) := At.below hB (by ((with_reducible repeat' (first | assumption | exact At.new1 _ _ _ | exact At.new2 _ _ _ _ | exact At.new3 _ _ _ _ _ | exact At.new5 _ _ _ _ _ _ _ | exact At.nx1 _ _ _ | exact At.nx2 _ _ _ _ | exact At.nx3 _ _ _ _ _ | exact At.ny1 _ _ _ _ | exact At.ny2 _ _ _ _ _ | exact At.ny3 _ _ _ _ _ _ | exact At.nz1 _ _ _ _ _ | exact At.nz2 _ _ _ _ _ _ | exact At.nz3 _ _ _ _ _ _ _ | exact Has.new1 _ _ _ | exact Has.new2 _ _ _ _ | exact Has.new3 _ _ _ _ _ | exact Has.nx1 _ _ _ | exact Has.nx2 _ _ _ _ | exact Has.nx3 _ _ _ _ _ | exact Has.ny1 _ _ _ _ | exact Has.ny2 _ _ _ _ _ | exact Has.ny3 _ _ _ _ _ _ | exact Has.nz1 _ _ _ _ _ | exact Has.nz2 _ _ _ _ _ _ | exact Has.nz3 _ _ _ _ _ _ _ | refine At.fill1 ?_ _ | refine At.fill2 ?_ _ _ | refine At.fill3 ?_ _ _ _ | refine At.swap ?_ (by first | omega | (simp; omega)) _ _ | refine At.alloc ?_ _ | refine At.drew ?_ | refine At.drewN ?_ _ | refine At.skip ?_ (by first | omega | (simp; omega)) _ _ | refine At.below (by assumption) ?_ | refine Has.alloc ?_ _ | refine Has.drew ?_ | refine Has.drewN ?_ _ | refine Has.set ?_ _ _ _ | refine Has.below (by assumption) ?_)); done))
  have TA : At w1 (w.heap.size + 1) (fL 0 0) := At.below hB (by ((with_reducible repeat' (first | assumption | exact At.new1 _ _ _ | exact At.new2 _ _ _ _ | exact At.new3 _ _ _ _ _ | exact At.new5 _ _ _ _ _ _ _ | exact At.nx1 _ _ _ | exact At.nx2 _ _ _ _ | exact At.nx3 _ _ _ _ _ | exact At.ny1 _ _ _ _ | exact At.ny2 _ _ _ _ _ | exact At.ny3 _ _ _ _ _ _ | exact At.nz1 _ _ _ _ _ | exact At.nz2 _ _ _ _ _ _ | exact At.nz3 _ _ _ _ _ _ _ | exact Has.new1 _ _ _ | exact Has.new2 _ _ _ _ | exact Has.new3 _ _ _ _ _ | exact Has.nx1 _ _ _ | exact Has.nx2 _ _ _ _ | exact Has.nx3 _ _ _ _ _ | exact Has.ny1 _ _ _ _ | exact Has.ny2 _ _ _ _ _ | exact Has.ny3 _ _ _ _ _ _ | exact Has.nz1 _ _ _ _ _ | exact Has.nz2 _ _ _ _ _ _ | exact Has.nz3 _ _ _ _ _ _ _ | refine At.fill1 ?_ _ | refine At.fill2 ?_ _ _ | refine At.fill3 ?_ _ _ _ | refine At.swap ?_ (by first | omega | (simp; omega)) _ _ | refine At.alloc ?_ _ | refine At.drew ?_ | refine At.drewN ?_ _ | refine At.skip ?_ (by first | omega | (simp; omega)) _ _ | refine At.below (by assumption) ?_ | refine Has.alloc ?_ _ | refine Has.drew ?_ | refine Has.drewN ?_ _ | refine Has.set ?_ _ _ _ | refine Has.below (by assumption) ?_)); done))
  have HC : Gr w w1 := Gr.step (by ((with_reducible repeat' (first | assumption | refine Gr.drew ?_ | refine Gr.drewN ?_ _ | refine Gr.alloc ?_ _ | refine Gr.set ?_ (by first | omega | (simp; omega)) _ _ | exact Gr.refl _)); done)) hB
  clear hB
  go_upto_region 3 with fail
  have g1 := gq _ _ _ _ w1 (gsm 4607182418800017408) hp
  generalize qF 4607182418800017408 p w1 = q at g1 ⊢
  generalize hw : World.drewN w1 _ = w2
  replace RA : At w2 w.heap.size (fL 0 0) := by rw [← hw]; exact RA.drewN _
  replace TA : At w2 (w.heap.size + 1) (fL 0 0) := by rw [← hw]; exact TA.drewN _
  replace HC : Gr w w2 := by rw [← hw]; exact HC.drewN _
  clear hw
  go_upto_region 4 with fail
  have g2 := gq _ _ _ _ (w2.drewN (aD p q)) (ga _ _ _ _ w2 hp g1.1).1 (gsm 4611686018427387904)
  generalize aF p q w2 = s1 at g2 ⊢
  generalize qF s1 4611686018427387904 (w2.drewN (aD p q)) = h at g2 ⊢
  generalize hw : World.drewN w2 _ = w3
  replace RA : At w3 w.heap.size (fL 0 0) := by rw [← hw]; exact RA.drewN _
  replace TA : At w3 (w.heap.size + 1) (fL 0 0) := by rw [← hw]; exact TA.drewN _
  replace HC : Gr w w3 := by rw [← hw]; exact HC.drewN _
  clear hw
  go_upto_region 5 with fail
  have g3 := gq _ _ _ _ (w3.drewN (sD p q)) (gs _ _ _ _ w3 hp g1.1).1 (gsm 4611686018427387904)
  generalize sF p q w3 = s2 at g3 ⊢
  generalize qF s2 4611686018427387904 (w3.drewN (sD p q)) = k at g3 ⊢
  generalize hw : World.drewN w3 _ = w4
  replace RA : At w4 w.heap.size (fL 0 0) := by rw [← hw]; exact RA.drewN _
  replace TA : At w4 (w.heap.size + 1) (fL 0 0) := by rw [← hw]; exact TA.drewN _
  replace HC : Gr w w4 := by rw [← hw]; exact HC.drewN _
  clear hw
  go_wp2_with fail
  refine (sinCos_any _ _).mono ?_
  rintro e w5 ⟨rfl, rfl⟩
  obtain ⟨s, hs⟩ : ∃ s, sinV (nrm u) = s := ⟨_, rfl⟩
  obtain ⟨c, hc⟩ : ∃ c, cosV (nrm u) = c := ⟨_, rfl⟩
  rw [hs, hc]
  have HS := hid hs
  have HN := hid hc
  clear hs hc
  go_upto_region 7 with fail
  have g4 := gm _ _ _ _ w5 (gsm s) g3.1
  generalize mF s k w5 = m1 at g4 ⊢
  generalize hw : World.drewN w5 _ = w6
  replace RA : At w6 w.heap.size (fL 0 0) := by rw [← hw]; exact RA.drewN _
  replace TA : At w6 (w.heap.size + 1) (fL 0 0) := by rw [← hw]; exact TA.drewN _
  replace HC : Gr w w6 := by rw [← hw]; exact HC.drewN _
  clear hw
  have g5 := gm _ _ _ _ w6 (gsm s) g2.1
  have g6 := gm _ _ _ _ (w6.drewN (mD s h)) (gsm c) g3.1
  have g7 := gm _ _ _ _ (w6.drewN (mD s h + mD c k)) (gsm c) g2.1
  obtain ⟨r0, r1⟩ := RA.c2
  obtain ⟨f0, f1⟩ := RA.f2
  obtain ⟨t0, t1⟩ := TA.c2
  obtain ⟨z0, z1⟩ := TA.f2
  generalize hv1 : mF s h w6 = v1 at g5 ⊢
  generalize hv2 : mF c k (w6.drewN (mD s h)) = v2 at g6 ⊢
  generalize hv3 : mF c h (w6.drewN (mD s h + mD c k)) = v3 at g7 ⊢
  go_wp2
  exact bodyPost_ret (v := .tuple #[fV v1 v2, fV v3 (Op.negFloat .f64 m1)]) (by simp [results, Tryz.results45, go_sem, r0, r1, t0, t1]) rfl
    ⟨_, _, _, _, rfl, by unfold rsR; rw [HS.out]; exact g5, by unfold rsI; rw [HN.out]; exact g6, by unfold rcR; rw [HN.out]; exact g7, by unfold rcI; rw [HS.out]; exact got_neg g4, by ((with_reducible repeat' (first | assumption | refine Gr.drew ?_ | refine Gr.drewN ?_ _ | refine Gr.alloc ?_ _ | refine Gr.set ?_ (by first | omega | (simp; omega)) _ _ | exact Gr.refl _)); done)⟩
theorem c22 {W : World} {B C : Nat} {a b c d : Value} (h : At W B [a, b]) (k : At W C [c, d]) : W.cell? ⟨B, 0, none⟩ = some a ∧ W.cell? ⟨B, 1, none⟩ = some b ∧ W.cell? ⟨C, 0, none⟩ = some c ∧ W.cell? ⟨C, 1, none⟩ = some d := ⟨h.c2.1, h.c2.2, k.c2.1, k.c2.2⟩
set_option maxHeartbeats 2000000 in
theorem plusC_any (o1 o2 of p1 p2 : Option Nat) (a b f c d : Nat) (h1 : Got o1 a) (h2 : Got o2 b) (hf : Got of f) (h3 : Got p1 c) (h4 : Got p2 d) (w : World) : Calls Tryz.prog 46 #[fV a b, .float .f64 f, fV c d] w fun e w' => ∃ x y, e = .returned (fV x y) ∧ GW (oA o1 (oM of p1)) x ∧ GW (oA o2 (oM of p2)) y ∧ Gr w w' := by
  go_enter Tryz.func46, Tryz.ntmps46
  go_upto_region 1 with fail
  have PA : At (((w.alloc (.cells #[.float .f64 a, .float .f64 b] 91)).alloc (.cells #[.float .f64 c, .float .f64 d] 91)).alloc (.cells #[.float .f64 0, .float .f64 0] 91)) w.heap.size (fL a b) := by ((with_reducible repeat' (first | assumption | exact At.new1 _ _ _ | exact At.new2 _ _ _ _ | exact At.new3 _ _ _ _ _ | exact At.new5 _ _ _ _ _ _ _ | exact At.nx1 _ _ _ | exact At.nx2 _ _ _ _ | exact At.nx3 _ _ _ _ _ | exact At.ny1 _ _ _ _ | exact At.ny2 _ _ _ _ _ | exact At.ny3 _ _ _ _ _ _ | exact At.nz1 _ _ _ _ _ | exact At.nz2 _ _ _ _ _ _ | exact At.nz3 _ _ _ _ _ _ _ | exact Has.new1 _ _ _ | exact Has.new2 _ _ _ _ | exact Has.new3 _ _ _ _ _ | exact Has.nx1 _ _ _ | exact Has.nx2 _ _ _ _ | exact Has.nx3 _ _ _ _ _ | exact Has.ny1 _ _ _ _ | exact Has.ny2 _ _ _ _ _ | exact Has.ny3 _ _ _ _ _ _ | exact Has.nz1 _ _ _ _ _ | exact Has.nz2 _ _ _ _ _ _ | exact Has.nz3 _ _ _ _ _ _ _ | refine At.fill1 ?_ _ | refine At.fill2 ?_ _ _ | refine At.fill3 ?_ _ _ _ | refine At.swap ?_ (by first | omega | (simp; omega)) _ _ | refine At.alloc ?_ _ | refine At.drew ?_ | refine At.drewN ?_ _ | refine At.skip ?_ (by first | omega | (simp; omega)) _ _ | refine At.below (by assumption) ?_ | refine Has.alloc ?_ _ | refine Has.drew ?_ | refine Has.drewN ?_ _ | refine Has.set ?_ _ _ _ | refine Has.below (by assumption) ?_)); done)
  have QA : At (((w.alloc (.cells #[.float .f64 a, .float .f64 b] 91)).alloc (.cells #[.float .f64 c, .float .f64 d] 91)).alloc (.cells #[.float .f64 0, .float .f64 0] 91)) (w.heap.size + 1) (fL c d) := by ((with_reducible repeat' (first | assumption | exact At.new1 _ _ _ | exact At.new2 _ _ _ _ | exact At.new3 _ _ _ _ _ | exact At.new5 _ _ _ _ _ _ _ | exact At.nx1 _ _ _ | exact At.nx2 _ _ _ _ | exact At.nx3 _ _ _ _ _ | exact At.ny1 _ _ _ _ | exact At.ny2 _ _ _ _ _ | exact At.ny3 _ _ _ _ _ _ | exact At.nz1 _ _ _ _ _ | exact At.nz2 _ _ _ _ _ _ | exact At.nz3 _ _ _ _ _ _ _ | exact Has.new1 _ _ _ | exact Has.new2 _ _ _ _ | exact Has.new3 _ _ _ _ _ | exact Has.nx1 _ _ _ | exact Has.nx2 _ _ _ _ | exact Has.nx3 _ _ _ _ _ | exact Has.ny1 _ _ _ _ | exact Has.ny2 _ _ _ _ _ | exact Has.ny3 _ _ _ _ _ _ | exact Has.nz1 _ _ _ _ _ | exact Has.nz2 _ _ _ _ _ _ | exact Has.nz3 _ _ _ _ _ _ _ | refine At.fill1 ?_ _ | refine At.fill2 ?_ _ _ | refine At.fill3 ?_ _ _ _ | refine At.swap ?_ (by first | omega | (simp; omega)) _ _ | refine At.alloc ?_ _ | refine At.drew ?_ | refine At.drewN ?_ _ | refine At.skip ?_ (by first | omega | (simp; omega)) _ _ | refine At.below (by assumption) ?_ | refine Has.alloc ?_ _ | refine Has.drew ?_ | refine Has.drewN ?_ _ | refine Has.set ?_ _ _ _ | refine Has.below (by assumption) ?_)); done)
  have RA : At (((w.alloc (.cells #[.float .f64 a, .float .f64 b] 91)).alloc (.cells #[.float .f64 c, .float .f64 d] 91)).alloc (.cells #[.float .f64 0, .float .f64 0] 91)) (w.heap.size + 1 + 1) (fL 0 0) := by ((with_reducible repeat' (first | assumption | exact At.new1 _ _ _ | exact At.new2 _ _ _ _ | exact At.new3 _ _ _ _ _ | exact At.new5 _ _ _ _ _ _ _ | exact At.nx1 _ _ _ | exact At.nx2 _ _ _ _ | exact At.nx3 _ _ _ _ _ | exact At.ny1 _ _ _ _ | exact At.ny2 _ _ _ _ _ | exact At.ny3 _ _ _ _ _ _ | exact At.nz1 _ _ _ _ _ | exact At.nz2 _ _ _ _ _ _ | exact At.nz3 _ _ _ _ _ _ _ | exact Has.new1 _ _ _ | exact Has.new2 _ _ _ _ | exact Has.new3 _ _ _ _ _ | exact Has.nx1 _ _ _ | exact Has.nx2 _ _ _ _ | exact Has.nx3 _ _ _ _ _ | exact Has.ny1 _ _ _ _ | exact Has.ny2 _ _ _ _ _ | exact Has.ny3 _ _ _ _ _ _ | exact Has.nz1 _ _ _ _ _ | exact Has.nz2 _ _ _ _ _ _ | exact Has.nz3 _ _ _ _ _ _ _ | refine At.fill1 ?_ _ | refine At.fill2 ?_ _ _ | refine At.fill3 ?_ _ _ _ | refine At.swap ?_ (by first | omega | (simp; omega)) _ _ | refine At.alloc ?_ _ | refine At.drew ?_ | refine At.drewN ?_ _ | refine At.skip ?_ (by first | omega | (simp; omega)) _ _ | refine At.below (by assumption) ?_ | refine Has.alloc ?_ _ | refine Has.drew ?_ | refine Has.drewN ?_ _ | refine Has.set ?_ _ _ _ | refine Has.below (by assumption) ?_)); done)
  have HC : Gr w (((w.alloc (.cells #[.float .f64 a, .float .f64 b] 91)).alloc (.cells #[.float .f64 c, .float .f64 d] 91)).alloc (.cells #[.float .f64 0, .float .f64 0] 91)) := by ((with_reducible repeat' (first | assumption | refine Gr.drew ?_ | refine Gr.drewN ?_ _ | refine Gr.alloc ?_ _ | refine Gr.set ?_ (by first | omega | (simp; omega)) _ _ | exact Gr.refl _)); done)
  generalize ((w.alloc (.cells #[.float .f64 a, .float .f64 b] 91)).alloc (.cells #[.float .f64 c, .float .f64 d] 91)).alloc (.cells #[.float .f64 0, .float .f64 0] 91) = w1 at *
  obtain ⟨r0, r1⟩ := RA.c2
  obtain ⟨f0, f1⟩ := RA.f2
  go_region_held (fun w' => w'.cell? ⟨w.heap.size, 0, none⟩ = some (.float .f64 a) ∧ w'.cell? ⟨w.heap.size, 1, none⟩ = some (.float .f64 b) ∧ w'.cell? ⟨w.heap.size + 1, 0, none⟩ = some (.float .f64 c) ∧ w'.cell? ⟨w.heap.size + 1, 1, none⟩ = some (.float .f64 d))
    ((refine c22 (a := .float .f64 a) (b := .float .f64 b) (c := .float .f64 c) (d := .float .f64 d) ?_ ?_; all_goals ((with_reducible repeat' (first | assumption | exact At.new1 _ _ _ | exact At.new2 _ _ _ _ | exact At.new3 _ _ _ _ _ | exact At.new5 _ _ _ _ _ _ _ | exact At.nx1 _ _ _ | exact At.nx2 _ _ _ _ | exact At.nx3 _ _ _ _ _ | exact At.ny1 _ _ _ _ | exact At.ny2 _ _ _ _ _ | exact At.ny3 _ _ _ _ _ _ | exact At.nz1 _ _ _ _ _ | exact At.nz2 _ _ _ _ _ _ | exact At.nz3 _ _ _ _ _ _ _ | exact Has.new1 _ _ _ | exact Has.new2 _ _ _ _ | exact Has.new3 _ _ _ _ _ | exact Has.nx1 _ _ _ | exact Has.nx2 _ _ _ _ | exact Has.nx3 _ _ _ _ _ | exact Has.ny1 _ _ _ _ | exact Has.ny2 _ _ _ _ _ | exact Has.ny3 _ _ _ _ _ _ | exact Has.nz1 _ _ _ _ _ | exact Has.nz2 _ _ _ _ _ _ | exact Has.nz3 _ _ _ _ _ _ _ | refine At.fill1 ?_ _ | refine At.fill2 ?_ _ _ | refine At.fill3 ?_ _ _ _ | refine At.swap ?_ (by first | omega | (simp; omega)) _ _ | refine At.alloc ?_ _ | refine At.drew ?_ | refine At.drewN ?_ _ | refine At.skip ?_ (by first | omega | (simp; omega)) _ _ | refine At.below (by assumption) ?_ | refine Has.alloc ?_ _ | refine Has.drew ?_ | refine Has.drewN ?_ _ | refine Has.set ?_ _ _ _ | refine Has.below (by assumption) ?_)); done)))
    ((first
      | (go_at_call_of 41 (Value.float FloatKind.f64 c); refine (plusO o1 of p1 _ _ _ h1 hf h3 _).mono ?_; rintro e w3 ⟨x, rfl, hx, hB3⟩; replace HC : Gr w w3 := Gr.step (by ((with_reducible repeat' (first | assumption | refine Gr.drew ?_ | refine Gr.drewN ?_ _ | refine Gr.alloc ?_ _ | refine Gr.set ?_ (by first | omega | (simp; omega)) _ _ | exact Gr.refl _)); done)) hB3; replace PA : At w3 w.heap.size (fL a b) := At.below hB3 (by ((with_reducible repeat' (first | assumption | exact At.new1 _ _ _ | exact At.new2 _ _ _ _ | exact At.new3 _ _ _ _ _ | exact At.new5 _ _ _ _ _ _ _ | exact At.nx1 _ _ _ | exact At.nx2 _ _ _ _ | exact At.nx3 _ _ _ _ _ | exact At.ny1 _ _ _ _ | exact At.ny2 _ _ _ _ _ | exact At.ny3 _ _ _ _ _ _ | exact At.nz1 _ _ _ _ _ | exact At.nz2 _ _ _ _ _ _ | exact At.nz3 _ _ _ _ _ _ _ | exact Has.new1 _ _ _ | exact Has.new2 _ _ _ _ | exact Has.new3 _ _ _ _ _ | exact Has.nx1 _ _ _ | exact Has.nx2 _ _ _ _ | exact Has.nx3 _ _ _ _ _ | exact Has.ny1 _ _ _ _ | exact Has.ny2 _ _ _ _ _ | exact Has.ny3 _ _ _ _ _ _ | exact Has.nz1 _ _ _ _ _ | exact Has.nz2 _ _ _ _ _ _ | exact Has.nz3 _ _ _ _ _ _ _ | refine At.fill1 ?_ _ | refine At.fill2 ?_ _ _ | refine At.fill3 ?_ _ _ _ | refine At.swap ?_ (by first | omega | (simp; omega)) _ _ | refine At.alloc ?_ _ | refine At.drew ?_ | refine At.drewN ?_ _ | refine At.skip ?_ (by first | omega | (simp; omega)) _ _ | refine At.below (by assumption) ?_ | refine Has.alloc ?_ _ | refine Has.drew ?_ | refine Has.drewN ?_ _ | refine Has.set ?_ _ _ _ | refine Has.below (by assumption) ?_)); done)); replace QA : At w3 (w.heap.size + 1) (fL c d) := At.below hB3 (by ((with_reducible repeat' (first | assumption | exact At.new1 _ _ _ | exact At.new2 _ _ _ _ | exact At.new3 _ _ _ _ _ | exact At.new5 _ _ _ _ _ _ _ | exact At.nx1 _ _ _ | exact At.nx2 _ _ _ _ | exact At.nx3 _ _ _ _ _ | exact At.ny1 _ _ _ _ | exact At.ny2 _ _ _ _ _ | exact At.ny3 _ _ _ _ _ _ | exact At.nz1 _ _ _ _ _ | exact At.nz2 _ _ _ _ _ _ | exact At.nz3 _ _ _ _ _ _ _ | exact Has.new1 _ _ _ | exact Has.new2 _ _ _ _ | exact Has.new3 _ _ _ _ _ | exact Has.nx1 _ _ _ | exact Has.nx2 _ _ _ _ | exact Has.nx3 _ _ _ _ _ | exact Has.ny1 _ _ _ _ | exact Has.ny2 _ _ _ _ _ | exact Has.ny3 _ _ _ _ _ _ | exact Has.nz1 _ _ _ _ _ | exact Has.nz2 _ _ _ _ _ _ | exact Has.nz3 _ _ _ _ _ _ _ | refine At.fill1 ?_ _ | refine At.fill2 ?_ _ _ | refine At.fill3 ?_ _ _ _ | refine At.swap ?_ (by first | omega | (simp; omega)) _ _ | refine At.alloc ?_ _ | refine At.drew ?_ | refine At.drewN ?_ _ | refine At.skip ?_ (by first | omega | (simp; omega)) _ _ | refine At.below (by assumption) ?_ | refine Has.alloc ?_ _ | refine Has.drew ?_ | refine Has.drewN ?_ _ | refine Has.set ?_ _ _ _ | refine Has.below (by assumption) ?_)); done)); replace RA : At w3 (w.heap.size + 1 + 1) (fL 0 0) := At.below hB3 (by ((with_reducible repeat' (first | assumption | exact At.new1 _ _ _ | exact At.new2 _ _ _ _ | exact At.new3 _ _ _ _ _ | exact At.new5 _ _ _ _ _ _ _ | exact At.nx1 _ _ _ | exact At.nx2 _ _ _ _ | exact At.nx3 _ _ _ _ _ | exact At.ny1 _ _ _ _ | exact At.ny2 _ _ _ _ _ | exact At.ny3 _ _ _ _ _ _ | exact At.nz1 _ _ _ _ _ | exact At.nz2 _ _ _ _ _ _ | exact At.nz3 _ _ _ _ _ _ _ | exact Has.new1 _ _ _ | exact Has.new2 _ _ _ _ | exact Has.new3 _ _ _ _ _ | exact Has.nx1 _ _ _ | exact Has.nx2 _ _ _ _ | exact Has.nx3 _ _ _ _ _ | exact Has.ny1 _ _ _ _ | exact Has.ny2 _ _ _ _ _ | exact Has.ny3 _ _ _ _ _ _ | exact Has.nz1 _ _ _ _ _ | exact Has.nz2 _ _ _ _ _ _ | exact Has.nz3 _ _ _ _ _ _ _ | refine At.fill1 ?_ _ | refine At.fill2 ?_ _ _ | refine At.fill3 ?_ _ _ _ | refine At.swap ?_ (by first | omega | (simp; omega)) _ _ | refine At.alloc ?_ _ | refine At.drew ?_ | refine At.drewN ?_ _ | refine At.skip ?_ (by first | omega | (simp; omega)) _ _ | refine At.below (by assumption) ?_ | refine Has.alloc ?_ _ | refine Has.drew ?_ | refine Has.drewN ?_ _ | refine Has.set ?_ _ _ _ | refine Has.below (by assumption) ?_)); done)); clear hB3 r0 r1 f0 f1; obtain ⟨r0, r1⟩ := RA.c2; obtain ⟨f0, f1⟩ := RA.f2)
      | (go_at_call 41; refine (plusO o2 of p2 _ _ _ h2 hf h4 _).mono ?_; rintro e w4 ⟨y, rfl, hy, hB3⟩; replace HC : Gr w w4 := Gr.step (by ((with_reducible repeat' (first | assumption | refine Gr.drew ?_ | refine Gr.drewN ?_ _ | refine Gr.alloc ?_ _ | refine Gr.set ?_ (by first | omega | (simp; omega)) _ _ | exact Gr.refl _)); done)) hB3; replace PA : At w4 w.heap.size (fL a b) := At.below hB3 (by ((with_reducible repeat' (first | assumption | exact At.new1 _ _ _ | exact At.new2 _ _ _ _ | exact At.new3 _ _ _ _ _ | exact At.new5 _ _ _ _ _ _ _ | exact At.nx1 _ _ _ | exact At.nx2 _ _ _ _ | exact At.nx3 _ _ _ _ _ | exact At.ny1 _ _ _ _ | exact At.ny2 _ _ _ _ _ | exact At.ny3 _ _ _ _ _ _ | exact At.nz1 _ _ _ _ _ | exact At.nz2 _ _ _ _ _ _ | exact At.nz3 _ _ _ _ _ _ _ | exact Has.new1 _ _ _ | exact Has.new2 _ _ _ _ | exact Has.new3 _ _ _ _ _ | exact Has.nx1 _ _ _ | exact Has.nx2 _ _ _ _ | exact Has.nx3 _ _ _ _ _ | exact Has.ny1 _ _ _ _ | exact Has.ny2 _ _ _ _ _ | exact Has.ny3 _ _ _ _ _ _ | exact Has.nz1 _ _ _ _ _ | exact Has.nz2 _ _ _ _ _ _ | exact Has.nz3 _ _ _ _ _ _ _ | refine At.fill1 ?_ _ | refine At.fill2 ?_ _ _ | refine At.fill3 ?_ _ _ _ | refine At.swap ?_ (by first | omega | (simp; omega)) _ _ | refine At.alloc ?_ _ | refine At.drew ?_ | refine At.drewN ?_ _ | refine At.skip ?_ (by first | omega | (simp; omega)) _ _ | refine At.below (by assumption) ?_ | refine Has.alloc ?_ _ | refine Has.drew ?_ | refine Has.drewN ?_ _ | refine Has.set ?_ _ _ _ | refine Has.below (by assumption) ?_)); done)); replace QA : At w4 (w.heap.size + 1) (fL c d) := At.below hB3 (by ((with_reducible repeat' (first | assumption | exact At.new1 _ _ _ | exact At.new2 _ _ _ _ | exact At.new3 _ _ _ _ _ | exact At.new5 _ _ _ _ _ _ _ | exact At.nx1 _ _ _ | exact At.nx2 _ _ _ _ | exact At.nx3 _ _ _ _ _ | exact At.ny1 _ _ _ _ | exact At.ny2 _ _ _ _ _ | exact At.ny3 _ _ _ _ _ _ | exact At.nz1 _ _ _ _ _ | exact At.nz2 _ _ _ _ _ _ | exact At.nz3 _ _ _ _ _ _ _ | exact Has.new1 _ _ _ | exact Has.new2 _ _ _ _ | exact Has.new3 _ _ _ _ _ | exact Has.nx1 _ _ _ | exact Has.nx2 _ _ _ _ | exact Has.nx3 _ _ _ _ _ | exact Has.ny1 _ _ _ _ | exact Has.ny2 _ _ _ _ _ | exact Has.ny3 _ _ _ _ _ _ | exact Has.nz1 _ _ _ _ _ | exact Has.nz2 _ _ _ _ _ _ | exact Has.nz3 _ _ _ _ _ _ _ | refine At.fill1 ?_ _ | refine At.fill2 ?_ _ _ | refine At.fill3 ?_ _ _ _ | refine At.swap ?_ (by first | omega | (simp; omega)) _ _ | refine At.alloc ?_ _ | refine At.drew ?_ | refine At.drewN ?_ _ | refine At.skip ?_ (by first | omega | (simp; omega)) _ _ | refine At.below (by assumption) ?_ | refine Has.alloc ?_ _ | refine Has.drew ?_ | refine Has.drewN ?_ _ | refine Has.set ?_ _ _ _ | refine Has.below (by assumption) ?_)); done)); replace RA : At w4 (w.heap.size + 1 + 1) (fL 0 0) := At.below hB3 (by ((with_reducible repeat' (first | assumption | exact At.new1 _ _ _ | exact At.new2 _ _ _ _ | exact At.new3 _ _ _ _ _ | exact At.new5 _ _ _ _ _ _ _ | exact At.nx1 _ _ _ | exact At.nx2 _ _ _ _ | exact At.nx3 _ _ _ _ _ | exact At.ny1 _ _ _ _ | exact At.ny2 _ _ _ _ _ | exact At.ny3 _ _ _ _ _ _ | exact At.nz1 _ _ _ _ _ | exact At.nz2 _ _ _ _ _ _ | exact At.nz3 _ _ _ _ _ _ _ | exact Has.new1 _ _ _ | exact Has.new2 _ _ _ _ | exact Has.new3 _ _ _ _ _ | exact Has.nx1 _ _ _ | exact Has.nx2 _ _ _ _ | exact Has.nx3 _ _ _ _ _ | exact Has.ny1 _ _ _ _ | exact Has.ny2 _ _ _ _ _ | exact Has.ny3 _ _ _ _ _ _ | exact Has.nz1 _ _ _ _ _ | exact Has.nz2 _ _ _ _ _ _ | exact Has.nz3 _ _ _ _ _ _ _ | refine At.fill1 ?_ _ | refine At.fill2 ?_ _ _ | refine At.fill3 ?_ _ _ _ | refine At.swap ?_ (by first | omega | (simp; omega)) _ _ | refine At.alloc ?_ _ | refine At.drew ?_ | refine At.drewN ?_ _ | refine At.skip ?_ (by first | omega | (simp; omega)) _ _ | refine At.below (by assumption) ?_ | refine Has.alloc ?_ _ | refine Has.drew ?_ | refine Has.drewN ?_ _ | refine Has.set ?_ _ _ _ | refine Has.below (by assumption) ?_)); done)); clear hB3 r0 r1 f0 f1; obtain ⟨r0, r1⟩ := RA.c2; obtain ⟨f0, f1⟩ := RA.f2)))
  all_goals
    go_wp2
    exact bodyPost_ret (v := fV x y) (by simp [results, Tryz.results46, go_sem, r0, r1]) rfl ⟨_, _, rfl, hx, hy, by ((with_reducible repeat' (first | assumption | refine Gr.drew ?_ | refine Gr.drewN ?_ _ | refine Gr.alloc ?_ _ | refine Gr.set ?_ (by first | omega | (simp; omega)) _ _ | exact Gr.refl _)); done)⟩
end Go.Proofs.YtinopkmcddjgdaaGreatDoor
