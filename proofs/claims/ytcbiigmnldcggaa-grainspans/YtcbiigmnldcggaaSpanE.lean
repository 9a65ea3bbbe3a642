/-
  slices.Min and Max of a row in memory.
-/
import Derived.Test.YtcbiigmnldcggaaSpanR
namespace Go.Proofs.Ytcbiigmnldcggaa
open Go.RowKit FB

/-- The words of the list lie in the block, one a cell. -/
def Lies (w : World) (b : Nat) (l : List Nat) : Prop := ∀ i : Nat, (h : i < l.length) → w.cell? ⟨b, i, none⟩ = some (.float .f64 l[i])
/-- The place of the word is the least, the greatest one of the list's. -/
def Least (m : Nat) (l : List Nat) : Prop := NN m ∧ (∀ x ∈ l, key m ≤ key x) ∧ ∃ x ∈ l, key x = key m
def Most (m : Nat) (l : List Nat) : Prop := NN m ∧ (∀ x ∈ l, key x ≤ key m) ∧ ∃ x ∈ l, key x = key m
theorem least_snoc {m x : Nat} {l : List Nat} (h : Least m l) (hx : NN x) : Least (fmn m x) (l ++ [x]) := by
  obtain ⟨h1, h2, y, hy, hk⟩ := h
  obtain ⟨n1, n2⟩ := fmn_key h1 hx
  refine ⟨n1, ?_, ?_⟩
  · intro z hz
    rw [n2]
    rcases List.mem_append.1 hz with hz | hz
    · have := h2 z hz; omega
    · rw [List.mem_singleton.1 hz]; omega
  · rw [n2]
    by_cases c : key m ≤ key x
    · exact ⟨y, by simp [hy], by omega⟩
    · exact ⟨x, by simp, by omega⟩
theorem most_snoc {m x : Nat} {l : List Nat} (h : Most m l) (hx : NN x) : Most (fmx m x) (l ++ [x]) := by
  obtain ⟨h1, h2, y, hy, hk⟩ := h
  obtain ⟨n1, n2⟩ := fmx_key h1 hx
  refine ⟨n1, ?_, ?_⟩
  · intro z hz
    rw [n2]
    rcases List.mem_append.1 hz with hz | hz
    · have := h2 z hz; omega
    · rw [List.mem_singleton.1 hz]; omega
  · rw [n2]
    by_cases c : key x ≤ key m
    · exact ⟨y, by simp [hy], by omega⟩
    · exact ⟨x, by simp, by omega⟩
theorem least_one {x : Nat} (hx : NN x) : Least x [x] := ⟨hx, by simp, x, by simp, rfl⟩
theorem most_one {x : Nat} (hx : NN x) : Most x [x] := ⟨hx, by simp, x, by simp, rfl⟩
theorem take_one {l : List Nat} (h : 0 < l.length) : l.take 1 = [l[0]] := by
  cases l with
  | nil => simp at h
  | cons a t => rfl

set_option maxHeartbeats 1000000 in
theorem min_any (b : Nat) (l : List Nat) (hl : 0 < l.length) (hl4 : l.length ≤ 4) (hn : ∀ x ∈ l, NN x) (w : World) (hw : Lies w b l) : Calls Try.prog 21 #[.slice (some ⟨b, 0, none⟩) l.length l.length] w fun e w' => ∃ m, e = .returned (.float .f64 m) ∧ Least m l ∧ w' = w := by
  have h0 := hw 0 hl
  go_enter Try.func21, Try.ntmps21
  go_wp2
  go_loop [3, 4] (fun s t => ∃ (m k : Nat), 1 ≤ k ∧ k ≤ l.length ∧ Hid (Least m (l.take k)) ∧ s = .float .f64 m ∧ t = .int .i64 k) (fun _ t => l.length - (intOf t).toNat)
  case atStart => exact ⟨l[0], 1, by decide, hl, by unfold Hid; rw [take_one hl]; exact least_one (hn _ (by simp)), rfl, rfl⟩
  case round =>
    obtain ⟨m, k, hk1, hk2, HL, rfl, rfl⟩ := hrel
    by_cases hlt : k < l.length
    · have hk := hw k hlt
      have hm := fun ts t w => run_fmn HL.out.1 (hn l[k] (by simp)) ts t w
      have HS := hid (least_snoc HL.out (hn l[k] (by simp)))
      have HT : Hid (l.take (k + 1) = l.take k ++ [l[k]]) := List.take_succ_eq_append_getElem hlt
      generalize l[k] = x at *
      go_wp2
      go_round
      case rel => exact ⟨fmn m x, k + 1, by omega, by omega, by rw [HT.out]; exact HS, rfl, by go_num⟩
      case measure => simp [intOf]; omega
    · have he : k = l.length := by omega
      have HF : Hid (Least m l) := by have := HL.out; rw [he, List.take_length] at this; exact this
      clear he HL
      go_wp2
      go_ret
      exact ⟨m, rfl, HF.out, rfl⟩
set_option maxHeartbeats 1000000 in
theorem max_any (b : Nat) (l : List Nat) (hl : 0 < l.length) (hl4 : l.length ≤ 4) (hn : ∀ x ∈ l, NN x) (w : World) (hw : Lies w b l) : Calls Try.prog 23 #[.slice (some ⟨b, 0, none⟩) l.length l.length] w fun e w' => ∃ m, e = .returned (.float .f64 m) ∧ Most m l ∧ w' = w := by
  have h0 := hw 0 hl
  go_enter Try.func23, Try.ntmps23
  go_wp2
  go_loop [3, 4] (fun s t => ∃ (m k : Nat), 1 ≤ k ∧ k ≤ l.length ∧ Hid (Most m (l.take k)) ∧ s = .float .f64 m ∧ t = .int .i64 k) (fun _ t => l.length - (intOf t).toNat)
  case atStart => exact ⟨l[0], 1, by decide, hl, by unfold Hid; rw [take_one hl]; exact most_one (hn _ (by simp)), rfl, rfl⟩
  case round =>
    obtain ⟨m, k, hk1, hk2, HL, rfl, rfl⟩ := hrel
    by_cases hlt : k < l.length
    · have hk := hw k hlt
      have hm := fun ts t w => run_fmx HL.out.1 (hn l[k] (by simp)) ts t w
      have HS := hid (most_snoc HL.out (hn l[k] (by simp)))
      have HT : Hid (l.take (k + 1) = l.take k ++ [l[k]]) := List.take_succ_eq_append_getElem hlt
      generalize l[k] = x at *
      go_wp2
      go_round
      case rel => exact ⟨fmx m x, k + 1, by omega, by omega, by rw [HT.out]; exact HS, rfl, by go_num⟩
      case measure => simp [intOf]; omega
    · have he : k = l.length := by omega
      have HF : Hid (Most m l) := by have := HL.out; rw [he, List.take_length] at this; exact this
      clear he HL
      go_wp2
      go_ret
      exact ⟨m, rfl, HF.out, rfl⟩
end Go.Proofs.Ytcbiigmnldcggaa
