/-
  sort.Search over a closure; the closure of basin.rise.; basin.rise: a number over another one in its lowest terms; slices.Sort of a list that a call owns.
-/
import Derived.Test.YtddnebgnohlchaaGreatDoorQRiD
import Derived.Lib.SliceRun
import Derived.Test.YtddnebgnohlchaaGreatDoorQJ22
import Derived.Test.YtddnebgnohlchaaGreatDoorQRiX
import Derived.Sort.OwnSortedInts
namespace Go.Proofs.YtddnebgnohlchaaGreatDoor
open Go.RowKit
attribute [local go_sem ↓] Go.wp_at_zero Go.wp_at_succ

set_option maxRecDepth 4000 in
set_option maxHeartbeats 4000000 in
/-- Where the closure answers what holds (P) at a number, Search answers one with which it holds, just ahead of which it doesn't, or an end. -/
theorem search_any (K : Nat) (hK : K ≤ 4194304) (P : Nat → Prop) (caps : Array Value) (w : World) (HF : ∀ i, i < K → ∀ W, Gr w W → Calls Tryz.prog 53 (#[.int .i64 (i : Int)] ++ caps) W fun e w' => ∃ b : Bool, e = .returned (.bool b) ∧ (b = true ↔ P i) ∧ Gr W w') : Calls Tryz.prog 52 #[.int .i64 (K : Int), .func (.func 53) #[] caps] w fun e w' => ∃ k : Nat, e = .returned (.int .i64 (k : Int)) ∧ k ≤ K ∧ (k = 0 ∨ ¬ P (k - 1)) ∧ (k = K ∨ P k) ∧ Gr w w' := by
  have HC := hidb HF
  clear HF
  go_enter Tryz.func52, Tryz.ntmps52
  go_wp2
  go_loopw [5, 6] (fun s t wr => ∃ i j : Nat, i ≤ j ∧ j ≤ K ∧ s = .int .i64 (i : Int) ∧ t = .int .i64 (j : Int) ∧ Hid (Gr w wr ∧ (i = 0 ∨ ¬ P (i - 1)) ∧ (j = K ∨ P j))) (fun s t _ => (intOf t).toNat - (intOf s).toNat)
  case atStart => exact ⟨0, K, Nat.zero_le _, Nat.le_refl _, rfl, rfl, hidb ⟨Gr.refl w, .inl rfl, .inl rfl⟩⟩
  case round =>
    obtain ⟨i, j, hij, hjK, rfl, rfl, E⟩ := hrel
    by_cases h1 : ¬ i < j
    · have h1' : ¬ (i : Int) < (j : Int) := by omega
      obtain rfl : i = j := by omega
      clear h1
      go_wp2
      go_ret
      exact ⟨i, rfl, hjK, E.out.2.1, E.out.2.2, E.out.1⟩
    · have h1' : (i : Int) < (j : Int) := by omega
      obtain ⟨q, hq⟩ : ∃ q : Nat, q = (i + j) / 2 := ⟨_, rfl⟩
      have Hq := hidb (show i ≤ q ∧ q < j ∧ j ≤ K ∧ i < j by omega)
      have e1 : IntKind.i64.wrap ((i : Int) + j) = ((i + j : Nat) : Int) := by rw [← Int.natCast_add]; exact wrap_in (by omega) (by omega)
      have e2 : IntKind.u64.wrap ((i + j : Nat) : Int) = ((i + j : Nat) : Int) := by rw [IntKind.wrap_u64]; omega
      have e3 : ((i + j : Nat) : Int) / 2 = (q : Int) := by omega
      have e4 : IntKind.u64.wrap (q : Int) = (q : Int) := by rw [IntKind.wrap_u64]; omega
      have e5 : IntKind.i64.wrap (q : Int) = (q : Int) := wrap_in (by omega) (by omega)
      have e6 : IntKind.i64.wrap ((q : Int) + 1) = ((q + 1 : Nat) : Int) := by rw [show (q : Int) + 1 = ((q + 1 : Nat) : Int) by omega]; exact wrap_in (by omega) (by omega)
      have HQ := hidb (HC.out q (by omega))
      clear hq hij hjK h1
      generalize i + j = s at *
      go_wp2_with fail
      refine (HQ.out _ E.out.1).mono ?_
      rintro e w2 ⟨b, rfl, hbP, hG⟩
      have G2 := hidb (Gr.step E.out.1 hG.out)
      have HBt := hidb hbP.1
      have HBf := hidb (show b = false → ¬ P q from fun hf hp => by rw [hbP.2 hp] at hf; cases hf)
      clear hbP hG
      cases b with
      | true =>
        have HP := hidb (HBt.out rfl)
        go_wp2
        go_roundw
        case rel => exact ⟨i, q, Hq.out.1, by have := Hq.out; omega, rfl, rfl, hidb ⟨G2.out, E.out.2.1, .inr HP.out⟩⟩
        case measure => have := Hq.out; simp [intOf]; omega
      | false =>
        have HP := hidb (HBf.out rfl)
        go_wp2
        go_roundw
        case rel => exact ⟨q + 1, j, by have := Hq.out; omega, by have := Hq.out; omega, by go_num, rfl, hidb ⟨G2.out, .inr (by rw [Nat.add_sub_cancel]; exact HP.out), E.out.2.2⟩⟩
        case measure => have := Hq.out; simp [intOf]; omega
set_option maxRecDepth 4000 in
set_option maxHeartbeats 4000000 in
theorem clos_rise {m n Lb Lo Lcap T C LW WB : Nat} {l : List Int} (c : Nat) (i water : Int) (hc : c < l.length) (hi0 : 0 ≤ i) (hb : gl l c + i ≤ 1048576) (hw : 0 ≤ water ∧ water ≤ 1099511627776) (w : World) (hR : Rs w Lb Lo Lcap l) (ok : Ok l m n) (hT : At w T [.int .i64 (m : Int), .int .i64 (n : Int), .slice (some ⟨Lb, Lo, none⟩) l.length Lcap]) (hC : At w C [.int .i64 (c : Int)]) (hL : At w LW [.int .i64 (gl l c)]) (hW : At w WB [.int .i64 water]) : Calls Tryz.prog 53 #[.int .i64 i, .pointer (some ⟨T, 0, none⟩), .pointer (some ⟨C, 0, none⟩), .pointer (some ⟨LW, 0, none⟩), .pointer (some ⟨WB, 0, none⟩)] w fun e w' => ∃ b : Bool, e = .returned (.bool b) ∧ (b = true ↔ Stp m n l c water (gl l c + i)) ∧ Gr w w' := by
  have hgl := ok.hi c
  unfold hiI at hgl
  have HP : Hid (∀ W, Gr w W → Calls Tryz.prog 54 #[.agg #[.int .i64 (m : Int), .int .i64 (n : Int), .slice (some ⟨Lb, Lo, none⟩) l.length Lcap], .int .i64 (c : Int), .int .i64 (gl l c + i), .int .i64 water] W fun e w' => ∃ v, e = .returned v ∧ PAns m n l c water (gl l c + i) W w' v ∧ Gr W w') := (fun W (hG : Gr w W) => pool_any c (gl l c + i) water hc (by omega) hb hw W (hR.below hG.out) ok)
  have HS := hidb (show Gr w w from Gr.refl w)
  have e1 : IntKind.i64.wrap (gl l c + i) = gl l c + i := wrap_in (by omega) (by omega)
  obtain ⟨h, hh, e1'⟩ : ∃ h, h = gl l c + i ∧ IntKind.i64.wrap (gl l c + i) = h := ⟨_, rfl, e1⟩
  rw [← hh] at HP ⊢
  clear e1 hh
  obtain ⟨t0, t1, t2⟩ := hT.c3
  have c0 := hC.c1
  have l0 := hL.c1
  have w0 := hW.c1
  generalize gl l c = lo at *
  clear hc hi0 hb hw hR ok hT hC hL hW hgl
  have q0 : ∀ W, (binOp .eql 30 (.slice none 0 0) (.slice none 0 0)).run Tryz.prog W = .ok (.bool true) W := fun W => Lib.run_eql_slice_nil W _ _ none 0 0 0 0 undI
  have q1 : ∀ (W : World) (g n cap : Nat), (binOp .eql 30 (.slice (some ⟨g, 0, none⟩) n cap) (.slice none 0 0)).run Tryz.prog W = .ok (.bool false) W := fun W g n cap => Lib.run_eql_slice_nil W _ _ (some ⟨g, 0, none⟩) n cap 0 0 undI
  go_enter Tryz.func53, Tryz.ntmps53
  go_wp2_with fail
  refine (HP.out _ HS.out).mono ?_
  rintro e w2 ⟨v, rfl, ha, hG⟩
  have G2 := hidb hG
  clear hG
  rcases ha with ⟨rfl, hs⟩ | ⟨O, base, g, cap, rfl, -, hp, -⟩
  · have HZ := hidb hs
    clear hs
    go_wp2
    go_ret
    exact ⟨true, rfl, ⟨fun _ => HZ.out, fun _ => rfl⟩, G2.out⟩
  · have HZ := hidb hp.not
    clear hp
    go_wp2
    go_ret
    exact ⟨false, rfl, ⟨fun h => (by cases h), fun h => absurd h HZ.out⟩, G2.out⟩
end Go.Proofs.YtddnebgnohlchaaGreatDoor
namespace Go.Proofs.YtddnebgnohlchaaGreatDoor
open Go.RowKit
attribute [local go_sem ↓] Go.wp_at_zero Go.wp_at_succ

/-- A number over another one, in its lowest terms. -/
structure Low (a b P : Int) (d : Nat) : Prop where
  b1 : 1 ≤ b ∧ b ≤ d
  eq : a * d = P * b
  cop : Nat.gcd a.natAbs b.natAbs = 1
  le : a.natAbs ≤ P.natAbs
theorem make_sg (P : Int) (d : Nat) (h1 : -4611686018427387904 ≤ P ∧ P ≤ 4611686018427387904) (h2 : 1 ≤ d ∧ d ≤ 4611686018427387904) : ∃ a b : Int, Low a b P d ∧ ∀ w, Calls Tryz.prog 55 #[.int .i64 P, .int .i64 (d : Int)] w fun e w' => e = .returned (.tuple #[.agg #[.int .i64 a, .int .i64 b], .nilIface]) ∧ Gr w w' := by
  have C := fun w => make_ok P (d : Int) (by omega) (by omega) (by omega) (by omega) (by omega) ⟨by have := rn_le P.natAbs (Int.natAbs (d : Int)); omega, by have := rd_le P.natAbs (Int.natAbs (d : Int)); omega⟩ w
  rw [Int.natAbs_natCast, decide_eq_false (show ¬ (d : Int) < 0 by omega)] at C
  have hg : 0 < Nat.gcd P.natAbs d := Nat.gcd_pos_of_pos_right _ h2.1
  have hc : Nat.gcd (rn P.natAbs d) (rd P.natAbs d) = 1 := by
    unfold rn rd
    exact Nat.coprime_div_gcd_div_gcd hg
  have hrn := rn_le P.natAbs d
  have hrd := rd_le P.natAbs d
  have heq : rn P.natAbs d * d = P.natAbs * rd P.natAbs d := by
    unfold rn rd
    obtain ⟨x, hx⟩ := Nat.gcd_dvd_left P.natAbs d
    obtain ⟨y, hy⟩ := Nat.gcd_dvd_right P.natAbs d
    generalize P.natAbs = p at *
    generalize Nat.gcd p d = g at *
    have e1 : p / g = x := by rw [hx]; exact Nat.mul_div_cancel_left _ hg
    have e2 : d / g = y := by rw [hy]; exact Nat.mul_div_cancel_left _ hg
    rw [e1, e2, hx, hy, Nat.mul_comm g y, ← Nat.mul_assoc, Nat.mul_comm x y, Nat.mul_comm (y * x) g, Nat.mul_comm y x, Nat.mul_assoc]
  have hrd1 : 1 ≤ rd P.natAbs d := by
    unfold rd
    exact Nat.div_pos (Nat.le_of_dvd h2.1 (Nat.gcd_dvd_right _ _)) hg
  generalize rn P.natAbs d = p at *
  generalize rd P.natAbs d = q at *
  by_cases hn : P < 0
  · refine ⟨-(p : Int), q, ⟨by omega, ?_, by simpa using hc, by omega⟩, ?_⟩
    · have : ((p * d : Nat) : Int) = ((P.natAbs * q : Nat) : Int) := by rw [heq]
      rw [Int.natCast_mul, Int.natCast_mul] at this
      rw [Int.neg_mul, this, ← Int.neg_mul]
      congr 1
      omega
    · intro w
      have := C w
      rw [decide_eq_true hn] at this
      exact this
  · refine ⟨(p : Int), q, ⟨by omega, ?_, by simpa using hc, by omega⟩, ?_⟩
    · have : ((p * d : Nat) : Int) = ((P.natAbs * q : Nat) : Int) := by rw [heq]
      rw [Int.natCast_mul, Int.natCast_mul] at this
      rw [this]
      congr 1
      omega
    · intro w
      have := C w
      rw [decide_eq_false hn] at this
      exact this
/-- The list, rising. -/
def srI (l : List Int) : List Int := l.mergeSort fun x y => decide (x ≤ y)
theorem srI_len (l : List Int) : (srI l).length = l.length := List.length_mergeSort _
theorem sort_any {base g cap : Nat} {l : List Int} (w : World) (hO : w.ownsRow base 3 1 (.slice (some ⟨g, 0, none⟩) l.length cap) l.length (ir l)) (hl : l.length ≤ 20000) : Calls Tryz.prog 56 #[.slice (some ⟨g, 0, none⟩) l.length cap] w fun e w' => e = .returned (.tuple #[]) ∧ w'.ownsRow base 3 1 (.slice (some ⟨g, 0, none⟩) l.length cap) l.length (ir (srI l)) ∧ w.grownBy w' (some g) := by
  obtain ⟨h1, h | ⟨g', cap', cur, hv, hb, hg, hc, hm, hs, ht⟩⟩ := hO
  · exact absurd h.1 (by simp)
  · simp only [Value.slice.injEq] at hv
    obtain ⟨e1, -, rfl⟩ := hv
    have e2 : g = g' := by simpa using e1
    subst e2
    have hH := holds_of_blockI (ss := l) hg (by simpa using ht)
    refine (Go.Proofs.Tryz.slices_Sort_int g 0 cap l w hH (Array.getElem?_eq_some_iff.1 hg).1 (by omega)).mono ?_
    rintro e w' ⟨rfl, n, os, rfl⟩
    exact ⟨rfl, ownsRow_sortedI (srI_len l) hb hg hc hm (by simpa using hs), grownBy_sortedI _⟩
end Go.Proofs.YtddnebgnohlchaaGreatDoor
