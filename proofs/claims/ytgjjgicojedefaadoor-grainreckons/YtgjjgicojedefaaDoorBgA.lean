/-
  Whole numbers of any size in memory; mercatorref1.trimmed.
-/
import Derived.Test.YtgjjgicojedefaaDoorProg
import Derived.Test.YtgjjgicojedefaaDoorBgN
import Derived.WalkKit
import Derived.WalkLawsBesides
import Derived.WalkSmall
import Derived.Outline
namespace Go.Proofs.YtgjjgicojedefaaDoor
open Go.RowKit BG

theorem hidb {p : Prop} (h : p) : Hid p := h
/-- The digits lie from the head of the block on. -/
def Row (w : World) (b : Nat) (l : List Nat) : Prop := (∀ i, (h : i < l.length) → w.cell? ⟨b, i, none⟩ = some (.int .i64 ((l[i] : Nat) : Int))) ∧ b < w.heap.size
theorem Row.below {W w' : World} {b : Nat} {l : List Nat} (h : Row W b l) (hB : Below W.heap.size W w') : Row w' b l :=
  ⟨fun i hi => (hB.cell (p := ⟨b, i, none⟩) h.2).trans (h.1 i hi), Nat.lt_of_lt_of_le h.2 hB.size⟩
theorem Row.take {w : World} {b : Nat} {l : List Nat} (h : Row w b l) (k : Nat) : Row w b (l.take k) :=
  ⟨fun i hi => by rw [h.1 i (by rw [List.length_take] at hi; omega)]; simp, h.2⟩
/-- A slice that holds the digits. -/
def Bg (w : World) (v : Value) (l : List Nat) : Prop := (v = .slice none 0 0 ∧ l = []) ∨ ∃ b cap, v = .slice (some ⟨b, 0, none⟩) l.length cap ∧ l.length ≤ cap ∧ cap ≤ maxLen ∧ Row w b l
theorem Bg.below {W w' : World} {v : Value} {l : List Nat} (h : Bg W v l) (hB : Below W.heap.size W w') : Bg w' v l := by
  rcases h with h | ⟨b, cap, h1, h2, h3, h4⟩
  · exact .inl h
  · exact .inr ⟨b, cap, h1, h2, h3, h4.below hB⟩

theorem trimmed_nil (w : World) : Calls Tryd.prog 89 #[.slice none 0 0] w fun e w' => e = .returned (.slice none 0 0) ∧ w' = w := by
  go_enter Tryd.func89, Tryd.ntmps89
  go_wp2
  refine wp_loop_rounds 1 ?_
  rw [rounds_succ]
  go_wp2
  go_ret
  exact ⟨rfl, rfl⟩
set_option maxHeartbeats 1000000 in
theorem trimmed_row (w : World) (b : Nat) (l : List Nat) (cap : Nat) (hd : Dg l) (hr : Row w b l) (hl : l.length ≤ cap) (hm : cap ≤ maxLen) : Calls Tryd.prog 89 #[.slice (some ⟨b, 0, none⟩) l.length cap] w fun e w' => e = .returned (.slice (some ⟨b, 0, none⟩) (dn (dv l)).length cap) ∧ w' = w := by
  have HD := hidb hd
  have hm' : cap ≤ 9223372036854775807 := by unfold maxLen at hm; omega
  clear hd hm
  go_enter Tryd.func89, Tryd.ntmps89
  go_wp2
  go_loop [3] (fun t => ∃ k : Nat, k ≤ l.length ∧ Hid (∀ i, (hi : i < l.length) → k ≤ i → l[i] = 0) ∧ t = .int .i64 k) (fun t => (intOf t).toNat)
  case atStart => exact ⟨l.length, Nat.le_refl _, fun i hi hk => by omega, rfl⟩
  case round =>
    obtain ⟨k, hk, HZ, rfl⟩ := hrel
    rcases Nat.eq_zero_or_pos k with rfl | hp
    · have HE : Hid ((dn (dv l)).length = 0) := by
        show (dn (dv l)).length = 0
        rw [← take_dn HD.out (Nat.zero_le _) HZ.out (.inl rfl)]; simp
      go_wp2
      go_ret
      exact ⟨by rw [HE.out]; rfl, rfl⟩
    · obtain ⟨j, rfl⟩ : ∃ j, k = j + 1 := ⟨k - 1, by omega⟩
      have hj : j < l.length := by omega
      have hc := hr.1 j hj
      have ej : ((j + 1 : Nat) : Int) - 1 = j := by omega
      have pj : (0 : Int) < ((j + 1 : Nat) : Int) := by omega
      by_cases h0 : l[j] = 0
      · have HZ2 : Hid (∀ i, (hi : i < l.length) → j ≤ i → l[i] = 0) := fun i hi hki => by
          rcases Nat.lt_or_eq_of_le hki with c | c
          · exact HZ.out i hi c
          · subst c; exact h0
        rw [h0] at hc
        go_wp2
        go_round
        case rel => exact ⟨j, by omega, HZ2, by go_num⟩
        case measure => simp [intOf]
      · have HE : Hid ((dn (dv l)).length = j + 1) := by
          show (dn (dv l)).length = j + 1
          rw [← take_dn HD.out hk HZ.out (.inr ⟨by simpa using hj, by simpa using h0⟩), List.length_take]; omega
        have hb0 : ((l[j] : Nat) : Int) ≠ 0 := by omega
        have hb1 : (((l[j] : Nat) : Int) == 0) = false := by simp [h0]
        generalize ((l[j] : Nat) : Int) = x at *
        go_wp2
        go_ret
        exact ⟨by rw [HE.out]; simp, rfl⟩
theorem trimmed_bg {w : World} {v : Value} {l : List Nat} (hd : Dg l) (h : Bg w v l) : Calls Tryd.prog 89 #[v] w fun e w' => ∃ v', e = .returned v' ∧ Bg w' v' (dn (dv l)) ∧ w' = w := by
  rcases h with ⟨rfl, rfl⟩ | ⟨b, cap, rfl, h2, h3, h4⟩
  · refine (trimmed_nil w).mono ?_
    rintro e w' ⟨rfl, rfl⟩
    exact ⟨_, rfl, .inl ⟨rfl, dn_zero⟩, rfl⟩
  · refine (trimmed_row w b l cap hd h4 h2 h3).mono ?_
    rintro e w' ⟨rfl, rfl⟩
    obtain ⟨k, hk, e⟩ := dn_take hd
    have hl : (dn (dv l)).length ≤ l.length := by rw [e, List.length_take]; omega
    exact ⟨_, rfl, .inr ⟨b, cap, rfl, by omega, h3, by rw [e]; exact h4.take k⟩, rfl⟩
end Go.Proofs.YtgjjgicojedefaaDoor
