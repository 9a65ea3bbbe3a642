/-
  field.Both.
-/
import Derived.Test.YtphpfongdbidoaaDoorQFdF
namespace Go.Proofs.YtphpfongdbidoaaDoor
open Go.RowKit

/-- Cell by cell. -/
def bothL (h : Int) (l l' : List Int) : List Int := List.zipWith (twoI h) l l'
theorem bothL_len {h : Int} {l l' : List Int} (e : l'.length = l.length) : (bothL h l l').length = l.length := by simp [bothL, e]
/-- So far: the first k are done. -/
def soFar (h : Int) (l l' : List Int) (k : Nat) : List Int := (bothL h l l').take k ++ List.replicate (l.length - k) 0
theorem soFar_set {h : Int} {l l' : List Int} (e : l'.length = l.length) {k : Nat} (hk : k < l.length) : (ir (soFar h l l' k)).set k (.int .i64 (twoI h l[k] (l'[k]'(by omega)))) = ir (soFar h l l' (k + 1)) := by
  have hz : k < (bothL h l l').length := by rw [bothL_len e]; exact hk
  apply List.ext_getElem
  · simp [soFar, bothL, e]; omega
  · intro i h1 h2
    simp only [List.getElem_set, ir, List.getElem_map]
    by_cases c : k = i
    · subst c
      rw [if_pos rfl]
      simp only [soFar]
      rw [List.getElem_append_left (by simp [bothL, e]; omega)]
      simp [bothL]
    · rw [if_neg c]
      simp only [soFar]
      by_cases c2 : i < k
      · rw [List.getElem_append_left (by simp [bothL, e]; omega), List.getElem_append_left (by simp [bothL, e]; omega)]
        simp
      · rw [List.getElem_append_right (by simp [bothL, e]; omega), List.getElem_append_right (by simp [bothL, e]; omega)]
        simp
theorem soFar_zero (h : Int) (l l' : List Int) : soFar h l l' 0 = List.replicate l.length 0 := by simp [soFar]
theorem soFar_end {h : Int} {l l' : List Int} (e : l'.length = l.length) : soFar h l l' l.length = bothL h l l' := by
  simp only [soFar, Nat.sub_self, List.replicate_zero, List.append_nil]
  exact List.take_of_length_le (by rw [bothL_len e]; exact Nat.le_refl _)
theorem At.isl {w : World} {B : Nat} {l : List Int} (h : At w B (ir l)) (cap : Nat) : ISl w (some ⟨B, 0, none⟩) B 0 cap l := by
  refine ISl.mk' (fun i hi => ?_) h.2
  have := (h.1 i (by simpa using hi)).1
  simpa using this
theorem vcode_zero {W H : Int} {l : List Int} (h : vcode W H l = 0) : (1 ≤ W ∧ W ≤ 128) ∧ (1 ≤ H ∧ H ≤ 128) ∧ (l.length : Int) = W * H ∧ ∀ x ∈ l, hiI x := by
  unfold vcode at h
  by_cases c1 : 128 < W ∨ 128 < H
  · rw [if_pos c1] at h; cases h
  · rw [if_neg c1] at h
    by_cases c2 : (W < 1 ∨ H < 1) ∨ ¬ (l.length : Int) = W * H
    · rw [if_pos c2] at h; cases h
    · rw [if_neg c2] at h
      by_cases c3 : ∀ x ∈ l, hiI x
      · exact ⟨⟨by omega, by omega⟩, ⟨by omega, by omega⟩, Classical.not_not.1 (fun hh => c2 (.inr hh)), c3⟩
      · rw [if_neg c3] at h; cases h
theorem acode_zero {W H W' H' : Int} {l l' : List Int} (h : acode W H l W' H' l' = 0) : vcode W H l = 0 ∧ vcode W' H' l' = 0 ∧ W = W' ∧ H = H' := by
  unfold acode at h
  by_cases c1 : vcode W H l = 0
  · rw [if_pos c1] at h
    by_cases c2 : vcode W' H' l' = 0
    · rw [if_pos c2] at h
      by_cases c3 : W = W' ∧ H = H'
      · exact ⟨c1, c2, c3.1, c3.2⟩
      · rw [if_neg c3] at h; cases h
    · rw [if_neg c2] at h; exact absurd h c2
  · rw [if_neg c1] at h; exact absurd h c1
/-- Which error. -/
def bcode (W H : Int) (l : List Int) (W' H' : Int) (l' : List Int) (h : Int) : Nat := if acode W H l W' H' l' = 0 then (if knI h then vcode W H (bothL h l l') else 3) else acode W H l W' H' l'
set_option maxRecDepth 4000 in
set_option maxHeartbeats 4000000 in
theorem both_no1 (g : Nat → Addr) (h : Int) {W H W' H' : Int} {ad ad' : Option Addr} {b b' o o' cap cap' : Nat} {l l' : List Int} (w : World) (hs : ISl w ad b o cap l) (hs' : ISl w ad' b' o' cap' l') (ll : l.length ≤ 20000) (ll' : l'.length ≤ 20000) (hl : Lai w g) (hc : ¬ acode W H l W' H' l' = 0) : Calls Tryd.prog 21 #[raV W H (.slice ad l.length cap), raV W' H' (.slice ad' l'.length cap'), .int .u8 h] w fun e w' => e = .returned (.tuple #[raV 0 0 (.slice none 0 0), evc g (acode W H l W' H' l')]) ∧ Gr w w' := by
  have C1 := hidb (fun w1 (hB : Gr w w1) => alike_any g (W := W) (H := H) (W' := W') (H' := H') w1 (hs.below hB.out) (hs'.below hB.out) ll ll' (hl.below hB.out))
  have G0 := hidb ((((Gr.refl w).alloc (.cells #[.int .i64 W, .int .i64 H, .slice ad l.length cap] 27)).alloc (.cells #[.int .i64 W', .int .i64 H', .slice ad' l'.length cap'] 27)).alloc (.cells #[.int .i64 0, .int .i64 0, .slice none 0 0] 27))
  have A0 := hidb (At.ny3 (W := w) (.cells #[.int .i64 W, .int .i64 H, .slice ad l.length cap] 27) (.cells #[.int .i64 W', .int .i64 H', .slice ad' l'.length cap'] 27) (.int .i64 0) (.int .i64 0) (.slice none 0 0) 27)
  clear hs hs' ll ll' hl
  obtain ⟨i, hi⟩ := evc_ne g hc
  rw [hi] at C1 ⊢
  clear hi hc
  go_enter Tryd.func21, Tryd.ntmps21
  go_wp2_with fail
  refine (C1.out _ G0.out).mono ?_
  rintro e w1 ⟨rfl, hB⟩
  replace G0 := hidb (Gr.step G0.out hB)
  have A1 := At.below hB.out A0.out
  obtain ⟨a0, a1, a2⟩ := A1.c3
  obtain ⟨f0, f1, f2⟩ := A1.f3
  have AH := A1.has (n := 3) rfl
  clear hB A0 A1
  go_wp2
  refine bodyPost_ret (v := .tuple #[raV 0 0 (.slice none 0 0), errV g i]) (by simp [results, Tryd.results21, go_sem, a0, a1, a2]) rfl ⟨rfl, ?_⟩
  exact ((G0.out.set (by omega) _ _).set (by omega) _ _).set (by omega) _ _
end Go.Proofs.YtphpfongdbidoaaDoor
