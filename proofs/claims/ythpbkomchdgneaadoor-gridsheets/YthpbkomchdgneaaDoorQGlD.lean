/-
  grid.multiples of too many; mercatorref2.Multiples; mercatorlaw2.sameInts.
-/
import Derived.Test.YthpbkomchdgneaaDoorQGlC
namespace Go.Proofs.YthpbkomchdgneaaDoor
open Go.RowKit

set_option maxHeartbeats 4000000 in
theorem multiples_many (low high s : Int) (hl1 : -16777216 ≤ low) (hl2 : low ≤ 16777216) (hh1 : -16777216 ≤ high) (hh2 : high ≤ 16777216) (hs : 1 ≤ s) (hs2 : s ≤ 9223372036854775807) (hf : few low high s = false) (w : World) : Calls Tryd.prog 26 #[.int .i64 low, .int .i64 high, .int .i64 s] w fun e w' => e = .returned (.tuple #[.slice none 0 0, .bool false]) ∧ Gr w w' := by
  have e1 : IntKind.i64.wrap (-low) = -low := by simp [IntKind.wrap, IntKind.signed, IntKind.bits]; omega
  have HF1 := hidb (fun w => floor_any (-low) s (by omega) (by omega) hs hs2 w)
  have HF2 := hidb (fun w => floor_any high s (by omega) (by omega) hs hs2 w)
  have b1 := div_bd hs (show -16777216 ≤ -low by omega) (show -low ≤ 16777216 by omega)
  have b2 := div_bd hs hh1 hh2
  have hfew : ¬ laI high s - fiI low s < 4000 := by unfold few at hf; simpa using hf
  rw [show high / s = laI high s from rfl] at HF2 b2
  have e2 : IntKind.i64.wrap (-((-low) / s)) = fiI low s := by unfold fiI; simp [IntKind.wrap, IntKind.signed, IntKind.bits]; omega
  have b3 : -16777216 ≤ fiI low s ∧ fiI low s ≤ 16777216 := by unfold fiI; omega
  generalize (-low) / s = nl at HF1 e2
  generalize fiI low s = f at hfew e2 b3
  generalize laI high s = l at HF2 hfew b2
  have e3 : IntKind.i64.wrap (l - f) = l - f := by simp [IntKind.wrap, IntKind.signed, IntKind.bits]; omega
  have n1 : 4000 ≤ l - f := by omega
  clear b1 hf hs hs2 b2 b3 hfew
  go_enter Tryd.func26, Tryd.ntmps26
  go_wp2_with fail
  refine (HF1.out _).mono ?_
  rintro e w1 ⟨rfl, rfl⟩
  go_wp2_with fail
  refine (HF2.out _).mono ?_
  rintro e w2 ⟨rfl, rfl⟩
  go_wp2
  go_ret2
  exact ⟨rfl, Gr.refl _⟩
theorem own_shape {w : World} {base : Nat} {v : Value} {n e : Nat} {xs : List Value} (h : w.ownsRow base e 1 v n xs) : ∃ ad cap, v = .slice ad n cap := by
  obtain ⟨_, ⟨rfl, rfl⟩ | ⟨g, cap, cur, hv, _⟩⟩ := h
  · exact ⟨none, 0, rfl⟩
  · exact ⟨_, _, hv⟩
/-- The reference's list: no more than 4001. -/
def refL (low high s : Int) : List Int := mulL (fiI low s) s (min (laI high s - fiI low s + 1).toNat 4001)
theorem fi_tdiv (low s : Int) (hs : 1 ≤ s) : fiI low s - 1 ≤ low.tdiv s ∧ low.tdiv s ≤ fiI low s := by
  have h := tdiv_floor (-low) s hs
  have h2 : low.tdiv s = -((-low).tdiv s) := by rw [Int.neg_tdiv]; omega
  unfold fiI
  rw [h, h2]
  split <;> omega
theorem low_mul {low s x : Int} (hs : 1 ≤ s) (h : fiI low s - 1 ≤ x) : low - s ≤ x * s := by
  have h1 := (fi_iff (low := low) hs (x + 1)).1 (by omega)
  rw [Int.add_mul] at h1
  omega
theorem high_mul {high s x : Int} (hs : 1 ≤ s) (h : x ≤ laI high s + 1) : x * s ≤ high + s := by
  have h1 := (la_iff (high := high) hs (x - 1)).1 (by omega)
  rw [Int.sub_mul] at h1
  omega
theorem high_mul2 {low s x : Int} (hs : 1 ≤ s) (h : x ≤ fiI low s) : x * s ≤ low + s := by
  by_cases c : fiI low s ≤ x - 1
  · omega
  · have h1 : ¬ low ≤ (x - 1) * s := fun k => c ((fi_iff (low := low) hs (x - 1)).2 k)
    rw [Int.sub_mul] at h1
    omega
set_option maxRecDepth 4000 in
set_option maxHeartbeats 4000000 in
theorem multiplesR_any (low high s : Int) (hl1 : -16777216 ≤ low) (hl2 : low ≤ 16777216) (hh1 : -16777216 ≤ high) (hh2 : high ≤ 16777216) (hs : 1 ≤ s) (hs2 : s ≤ 1099511627776) (w : World) : Calls Tryd.prog 16 #[.int .i64 low, .int .i64 high, .int .i64 s] w fun e w' => ∃ v, e = .returned v ∧ RowI w' v (refL low high s) ∧ Gr w w' := by
  have hb := tdiv_bd low s hs
  have hft := fi_tdiv low s hs
  have e0 : ¬ s = 0 := by omega
  have e1 : IntKind.i64.wrap (low.tdiv s) = low.tdiv s := by simp [IntKind.wrap, IntKind.signed, IntKind.bits]; omega
  have b1 := div_bd hs (show -16777216 ≤ -low by omega) (show -low ≤ 16777216 by omega)
  have b2 : -16777216 ≤ laI high s ∧ laI high s ≤ 16777216 := div_bd hs hh1 hh2
  have b3 : -16777216 ≤ fiI low s ∧ fiI low s ≤ 16777216 := by unfold fiI; omega
  have HLA := hidb (fun x => la_iff (high := high) hs x)
  have HFI := hidb (fun x => fi_iff (low := low) hs x)
  have HLM := hidb (fun x h => low_mul (low := low) (s := s) (x := x) hs h)
  have HHM := hidb (fun x h => high_mul (high := high) (s := s) (x := x) hs h)
  have HH2 := hidb (fun x h => high_mul2 (low := low) (s := s) (x := x) hs h)
  unfold refL
  generalize fiI low s = f at HFI HLM HH2 b3 hft ⊢
  generalize laI high s = l at HLA HHM b2 ⊢
  obtain ⟨i0, hi, hz0, hz1, hz2⟩ := info_parts infoI
  clear b1 hb
  go_enter Tryd.func16, Tryd.ntmps16
  go_wp2
  go_loopw [8] (fun t wr => ∃ x : Int, f - 1 ≤ x ∧ x ≤ f ∧ t = .int .i64 x ∧ wr = w) (fun t _ => (intOf t - f + 1).toNat)
  case atStart => exact ⟨low.tdiv s, hft.1, hft.2, rfl, rfl⟩
  case round =>
    obtain ⟨x, hx1, hx2, rfl, hwr⟩ := hrel
    have hwr' := hwr.symm
    subst hwr'
    clear e1 hft
    have m1 := HLM.out x hx1
    have m2 := HH2.out x hx2
    have e2 : IntKind.i64.wrap (x * s) = x * s := by simp [IntKind.wrap, IntKind.signed, IntKind.bits]; omega
    by_cases hx : x = f
    · have c1 := (HFI.out x).1 (by omega)
      have e3 : IntKind.i64.wrap (x - 1) = x - 1 := by simp [IntKind.wrap, IntKind.signed, IntKind.bits]; omega
      have HX := hidb hx
      clear m1 m2 hx
      go_wp2
      go_roundw
      case rel => exact ⟨x - 1, by have := HX.out; omega, by have := HX.out; omega, rfl, trivial⟩
      case measure => have := HX.out; simp [intOf]; omega
    · have c1 : ¬ low ≤ x * s := fun h => by have := (HFI.out x).2 h; omega
      have e3 : IntKind.i64.wrap (x + 1) = f := by simp [IntKind.wrap, IntKind.signed, IntKind.bits]; omega
      clear m1 m2 hx
      go_wp2
      clear e2 c1 hx1 hx2 e3
      go_loopw [7, 8] (fun v t w2 => ∃ (i : Nat) (x : Int) (ad : Option Addr) (cap : Nat), v = .slice ad i cap ∧ x = f + (i : Int) ∧ i ≤ 4001 ∧ (x ≤ l + 1 ∨ i = 0) ∧ t = .int .i64 x ∧ w2.ownsRow w.heap.size 3 1 v i (ir (mulL f s i)) ∧ Below w.heap.size w w2) (fun _ t _ => (l + 1 - intOf t).toNat)
      case atStart => exact ⟨0, f, none, 0, rfl, by simp, by omega, .inr rfl, rfl, by simpa [mulL] using World.ownsRow_nil w _ _ _, Below.refl _ _⟩
      case round =>
        obtain ⟨i, y, ad, cap, rfl, hy, hi4, hyl, rfl, hown, hB⟩ := hrel
        by_cases h1 : y ≤ l
        · have m1 := (HLA.out y).1 h1
          have m2 := (HFI.out y).1 (by omega)
          have e4 : IntKind.i64.wrap (y * s) = y * s := by simp [IntKind.wrap, IntKind.signed, IntKind.bits]; omega
          have e5 : IntKind.i64.wrap (y + 1) = y + 1 := by simp [IntKind.wrap, IntKind.signed, IntKind.bits]; omega
          by_cases h2 : i ≤ 4000
          · have h2' : (i : Int) ≤ 4000 := by omega
            have HX := hidb hy
            have HM : Hid (y * s = (f + (i : Int)) * s) := by rw [← hy]; exact rfl
            clear m2 hy h2
            go_wp2_with (at_builtin; refine wpList_append_own _ rfl _ _ 44 rfl w.heap.size 3 i0 (.int .i64 0) 1 8 undI hi hz0 hz1 hz2 rfl (by decide) _ _ _ rfl (hown.alloc _) ⟨wr.heap.size, 0, none⟩ 1 1 [.int .i64 (y * s)] rfl rfl ?c1 ?c2 ?c3 ?c4 ?c5 ?_)
            case c1 => intro j u hj; exact news1 hj (by simp [go_sem, Addr.add])
            case c2 => intro u hu; simp at hu; subst hu; rfl
            case c3 => unfold maxLen; omega
            case c4 => omega
            case c5 => have := hB.size; simp; omega
            intro v' w3 hown' hgrow _
            have hB2 : Below w.heap.size w w3 := (hB.alloc hB.size _).grown hgrow (by have := hB.size; simp; omega) (fun k hk => (hown.lt k hk).1)
            rw [ir_snoc, HM.out, mulL_snoc] at hown'
            obtain ⟨ad', cap', hv'⟩ := own_shape hown'
            clear hgrow hown hB
            go_wp2
            go_roundw
            case rel => exact ⟨i + 1, y + 1, ad', cap', hv', by have := HX.out; omega, by omega, .inl (by omega), rfl, hown', hB2⟩
            case measure => simp [intOf]; omega
          · have h2' : (4000 : Int) < (i : Int) := by omega
            have HE : Hid (min (l - f + 1).toNat 4001 = i) := by
              show _ = _
              omega
            have HRI := hidb (own_ri hown).1
            clear m2 hy hyl hown h2 hi4 e5
            go_wp2
            go_ret
            exact ⟨_, rfl, by rw [HE.out]; exact HRI.out, hB⟩
        · have m3 : y * s ≤ 1099600000000 := by
            rcases hyl with h | h
            · have := HHM.out y h; omega
            · have := HH2.out y (by omega); omega
          have m4 := HLM.out y (by omega)
          have e4 : IntKind.i64.wrap (y * s) = y * s := by simp [IntKind.wrap, IntKind.signed, IntKind.bits]; omega
          have c2 : ¬ y * s ≤ high := fun h => h1 ((HLA.out y).2 h)
          have HE : Hid (min (l - f + 1).toNat 4001 = i) := by
            show _ = _
            omega
          have HRI := hidb (own_ri hown).1
          clear m3 m4 hy hyl hown h1 hi4
          go_wp2
          go_ret
          exact ⟨_, rfl, by rw [HE.out]; exact HRI.out, hB⟩
/-- Two rows of the same numbers. -/
theorem index_row (b n cap k : Nat) (hk : k < n) (w : World) : (Instr.indexAt 44 (.slice (some ⟨b, 0, none⟩) n cap) (.int .i64 k)).run Tryd.prog w = .ok (.pointer (some ⟨b, k, none⟩)) w := by
  refine (run_indexAt_slice (P := Tryd.prog) (w := w) 44 ⟨b, 0, none⟩ n cap .i64 (k : Int) (by kernel_rfl)).trans ?_
  rw [if_pos ⟨by omega, by omega⟩]
  have hs : (sizeOf (Tryd.prog.elem 44)).run Tryd.prog w = .ok 1 w := by kernel_rfl
  rw [hs]
  simp [Addr.add]
  intro h; exact h.symm
end Go.Proofs.YthpbkomchdgneaaDoor
