/-
  flat: find, with both of its closures, Lat; mercatorref2: latAt, LatOf.
-/
import Derived.Test.YtinopkmcddjgdaaGreatDoorQFtD
import Derived.Test.YtinopkmcddjgdaaGreatDoorQJ5
namespace Go.Proofs.YtinopkmcddjgdaaGreatDoor
open Go.RowKit FB
attribute [local go_sem] run_store_float

/-- Is what a chain gives at most a goal? -/
def leO (o g : Option Nat) : Bool := match o, g with | some r, some x => leB r x | _, _ => false
theorem order_nan_r {x y : Nat} (h : Nan y) : Ieee.double.order x y = none := by
  obtain ⟨s, f, h⟩ := h
  unfold Ieee.Format.order
  rw [h]
  cases Ieee.double.read x <;> rfl
theorem leO_got {o g : Option Nat} {r x : Nat} (hr : Got o r) (hx : Got g x) : leB r x = leO o g := by
  cases o with
  | none =>
    show ((Ieee.double.order r x == _) || (Ieee.double.order r x == _)) = false
    rw [nan_order hr]; rfl
  | some p =>
    cases g with
    | none =>
      show ((Ieee.double.order r x == _) || (Ieee.double.order r x == _)) = false
      rw [order_nan_r hx]; rfl
    | some q =>
      obtain rfl : r = p := hr
      obtain rfl : x = q := hx
      rfl
theorem uz_sameZ {x : Nat} (hx : x < 18446744073709551616) : SameZ (uz x) x := by
  by_cases h : isZ x = true
  · have hu : uz x = 0 := by
      unfold uz
      have h' : (Ieee.double.order x 0 == some Ordering.eq) = true := h
      rw [if_pos (by simpa using h')]
    rw [hu]
    exact .inr ⟨.inl rfl, zr_of hx h⟩
  · refine .inl ?_
    unfold uz
    rw [if_neg]
    intro he
    apply h
    show (Ieee.double.order x 0 == some Ordering.eq) = true
    rw [he]; rfl
theorem leB_z {a b x : Nat} (h : SameZ a b) : leB a x = leB b x := cle_congr h (.inl rfl)
theorem leO_uz {o g : Option Nat} {r x : Nat} (hr : GW o r) (hx : Got g x) : leB (uz r) x = leO o g := by
  rw [leB_z (uz_sameZ hr.2)]; exact leO_got hr.1 hx
theorem leO_sim {o p g : Option Nat} (h : Sim o p) : leO o g = leO p g := by
  rcases h with ⟨rfl, rfl⟩ | ⟨r, q, rfl, rfl, h⟩
  · rfl
  · cases g with
    | none => rfl
    | some x => exact leB_z h
/-- The last latitude at which the test says yes. -/
def srch (t : Int → Bool) : Int := bis t 38 (-89000000000) 89000000001
theorem srch_bd (t : Int → Bool) : -89000000000 ≤ srch t ∧ srch t ≤ 89000000000 := by
  have := bis_bd t 38 (-89000000000) 89000000001 (by decide)
  unfold srch
  omega

theorem lat1_any (a f B : Nat) (n : Int) (hf : Le 1021 f) (w : World) (hA : At w B [.float .f64 a, .float .f64 f]) : Calls Tryz.prog 84 #[.int .i64 n, .pointer (some ⟨B, 0, none⟩)] w fun x w' => ∃ r, x = .returned (.float .f64 (uz r)) ∧ GW (isO f n) r ∧ Gr w w' := by
  obtain ⟨c0, c1⟩ := hA.c2
  go_enter Tryz.func84, Tryz.ntmps84
  go_wp2_with fail
  refine (iso_any _ _ _ hf _).mono ?_
  rintro x w1 ⟨r, rfl, hr, hB⟩
  go_wp2
  go_ret
  exact ⟨r, rfl, hr, hB⟩
set_option maxHeartbeats 2000000 in
theorem find_iso (a f B goal : Nat) (og : Option Nat) (hf : Le 1021 f) (hg : Got og goal) (w : World) (hA : At w B [.float .f64 a, .float .f64 f]) : Calls Tryz.prog 83 #[.float .f64 goal, .func (.func 84) #[] #[.pointer (some ⟨B, 0, none⟩)]] w fun e w' => e = .returned (.int .i64 (srch fun m' => leO (isO f m') og)) ∧ Gr w w' := by
  have HG := hid hg
  clear hg
  obtain ⟨t, ht⟩ : ∃ t, (fun m' => leO (isO f m') og) = t := ⟨_, rfl⟩
  have HT : Hid (∀ m' r, GW (isO f m') r → leB (uz r) goal = t m') := fun m' r h => by rw [← ht]; exact leO_uz h HG.out
  rw [ht]
  clear ht HG
  have HC : Gr w w := Gr.refl w
  go_enter Tryz.func83, Tryz.ntmps83
  go_wp2
  go_loopw [5, 6] (fun s u wr => ∃ (lo hi : Int) (n : Nat), -89000000000 ≤ lo ∧ lo < hi ∧ hi ≤ 89000000001 ∧ hi - lo ≤ 2 ^ n ∧ Hid (bis t n lo hi = srch t) ∧ s = .int .i64 lo ∧ u = .int .i64 hi ∧ At wr B [.float .f64 a, .float .f64 f] ∧ Gr w wr) (fun s u _ => (intOf u - intOf s).toNat)
  case atStart => exact ⟨-89000000000, 89000000001, 38, by decide, by decide, by decide, by decide, rfl, rfl, rfl, hA, HC⟩
  case round =>
    clear HC hA
    obtain ⟨lo, hi, n, h1, h2, h3, h4, HB, rfl, rfl, PA, HC⟩ := hrel
    have HP := hid h4
    clear h4
    by_cases hlt : 1 < hi - lo
    · obtain ⟨n', rfl⟩ : ∃ n', n = n' + 1 := by
        rcases n with _ | n'
        · exfalso; have := HP.out; simp at this; omega
        · exact ⟨n', rfl⟩
      have hp : ∀ a : Int, a * 2 ≤ hi - lo + 1 → a ≤ 2 ^ n' := by
        intro a ha
        have := HP.out
        rw [Int.pow_succ] at this
        generalize (2 : Int) ^ n' = P at this ⊢
        omega
      have HQ := hid hp
      clear hp
      have HT4 := hid (show bis t (n' + 1) lo hi = if t ((lo + hi) / 2) then bis t n' ((lo + hi) / 2) hi else bis t n' lo ((lo + hi) / 2) by
        show (if 1 < hi - lo then _ else _) = _
        rw [if_pos hlt])
      go_wp2_with fail
      refine (lat1_any a f B _ hf _ PA).mono ?_
      rintro x w1 ⟨r, rfl, hr, hB⟩
      have ht := HT.out _ _ hr
      clear hr
      replace HC : Gr w w1 := Gr.step HC hB
      replace PA : At w1 B [.float .f64 a, .float .f64 f] := At.below hB PA
      clear hB HT
      generalize t ((lo + hi) / 2) = tt at ht HT4
      generalize uz r = ur at ht ⊢
      unfold leB at ht
      cases tt with
      | true =>
        go_wp2
        go_roundw
        case rel => exact ⟨(lo + hi) / 2, hi, n', by omega, by omega, by omega, HQ.out _ (by omega), by rw [← HB.out, HT4.out]; rfl, rfl, rfl, PA, HC⟩
        case measure => simp [intOf]; omega
      | false =>
        go_wp2
        go_roundw
        case rel => exact ⟨lo, (lo + hi) / 2, n', by omega, by omega, by omega, HQ.out _ (by omega), by rw [← HB.out, HT4.out]; rfl, rfl, rfl, PA, HC⟩
        case measure => simp [intOf]; omega
    · have HS := hid (bis_stop t n lo hi hlt)
      go_wp2
      go_ret
      exact ⟨by rw [← HB.out, HS.out]; rfl, HC⟩
theorem lat_any (a f goal : Nat) (og : Option Nat) (hf : Le 1021 f) (hg : Got og goal) (w : World) : Calls Tryz.prog 54 #[.agg #[.float .f64 a, .float .f64 f], .float .f64 goal] w fun e w' => e = .returned (.int .i64 (srch fun m' => leO (isO f m') og)) ∧ Gr w w' := by
  have hmf : ∀ (fn : Fn) (first cap : Array Value) (w : World), (Instr.makeFunc fn first cap).run Tryz.prog w = .ok (.func fn first cap) w := fun _ _ _ _ => rfl
  go_enter Tryz.func54, Tryz.ntmps54
  go_wp2_with fail
  refine (find_iso a f _ goal og hf hg _ (At.new2 w _ _ _)).mono ?_
  rintro x w1 ⟨rfl, hB⟩
  have HC : Gr w w1 := Gr.step (by ((with_reducible repeat' (first | assumption | refine Gr.drewN ?_ _ | refine Gr.drew ?_ | refine Gr.alloc ?_ _ | exact Gr.refl _)); done)) hB
  go_wp2
  go_ret
  exact ⟨rfl, HC⟩
end Go.Proofs.YtinopkmcddjgdaaGreatDoor
