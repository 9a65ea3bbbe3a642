/-
  DrainFloods: what the law calls besides: small, drains.
-/
import Derived.Test.YtbkggcfogmgmmaaDoorQDrQ
import Derived.Test.YtbkggcfogmgmmaaDoorQDrS
namespace Go.Proofs.YtbkggcfogmgmmaaDoor
open Go.RowKit

theorem small4_nil (w : World) : Calls Tryd.prog 10 #[.pointer none] w fun e w' => e = .returned (.bool false) ∧ w' = w := by
  go_enter Tryd.func10, Tryd.ntmps10
  go_wp2
  go_ret
  exact ⟨rfl, rfl⟩
theorem small4_any (pb po : Nat) (W H : Int) (ad : Option Addr) (n cap : Nat) (w : World) (hp : PtR w pb po W H (.slice ad n cap)) : Calls Tryd.prog 10 #[.pointer (some ⟨pb, po, none⟩)] w fun e w' => e = .returned (.bool (decide (n ≤ 80))) ∧ w' = w := by
  obtain ⟨p0, p1, p2⟩ := hp
  by_cases c : n ≤ 80
  · have c' : (n : Int) ≤ 80 := by omega
    rw [decide_eq_true c]
    clear c
    go_enter Tryd.func10, Tryd.ntmps10
    go_wp2
    go_ret
    exact ⟨rfl, rfl⟩
  · have c' : ¬ (n : Int) ≤ 80 := by omega
    rw [decide_eq_false c]
    clear c
    go_enter Tryd.func10, Tryd.ntmps10
    go_wp2
    go_ret
    exact ⟨rfl, rfl⟩
theorem small4_arg {w : World} {ad : Option Addr} (h : RArg w ad) : ∃ s : Bool, (∀ W, Gr w W → Calls Tryd.prog 10 #[.pointer ad] W fun e w' => e = .returned (.bool s) ∧ w' = W) ∧ (s = true → ∃ pb po W H sd b o cap l, ad = some ⟨pb, po, none⟩ ∧ Rin w pb po W H sd b o cap l ∧ (¬ l.length = 0 → sd = some ⟨b, o, none⟩ ∧ Rs w b o cap l) ∧ l.length ≤ 80) := by
  rcases h with rfl | ⟨pb, po, W, H, sd, b, o, cap, l, rfl, hr, hc⟩
  · exact ⟨false, fun W _ => small4_nil W, fun h => by cases h⟩
  · exact ⟨decide (l.length ≤ 80), fun W1 hG => small4_any pb po W H sd l.length cap W1 (hr.below hG).pt, fun h => ⟨pb, po, W, H, sd, b, o, cap, l, rfl, hr, hc, of_decide_eq_true h⟩⟩
/-- What waits, or was taken, flows where it flows. -/
theorem step_stay {m : Nat} {l : List Int} {S : FS} {b i : Nat} (h : S.st i ≠ 0) : (stepF m l S b).tw i = S.tw i ∧ (stepF m l S b).st i ≠ 0 := by
  have hn : ¬ New m l S b i := fun k => h k.2.1
  refine ⟨if_neg hn, ?_⟩
  show (if i = b then 2 else if New m l S b i then 1 else S.st i) ≠ 0
  rw [if_neg hn]
  split
  · omega
  · exact h
theorem flo_stay {m n : Nat} {l : List Int} {i k : Nat} (h : (flo m n l k).st i ≠ 0) : ∀ d, (flo m n l (k + d)).tw i = (flo m n l k).tw i ∧ (flo m n l (k + d)).st i ≠ 0
  | 0 => ⟨rfl, h⟩
  | d + 1 => by
    obtain ⟨h1, h2⟩ := flo_stay h d
    show (match bst (flo m n l (k + d)) l.length with | none => flo m n l (k + d) | some b => stepF m l (flo m n l (k + d)) b).tw i = _ ∧ (match bst (flo m n l (k + d)) l.length with | none => flo m n l (k + d) | some b => stepF m l (flo m n l (k + d)) b).st i ≠ 0
    cases bst (flo m n l (k + d)) l.length with
    | none => exact ⟨h1, h2⟩
    | some b => exact ⟨(step_stay h2).1.trans h1, (step_stay h2).2⟩
def l9 : List Int := [9, 9, 9, 9, 5, 1, 9, 9, 9]
theorem l9_ok : Ok l9 3 3 ∧ vcode 3 3 l9 = 0 := by
  have h : ∀ x ∈ l9, hiI x := by decide
  exact ⟨⟨by decide, by decide, by decide, by decide, by decide, hi_gl h⟩, by decide⟩
theorem l9_flow : gl (flL 3 3 l9) 4 = 0 ∧ gl (flL 3 3 l9) 0 = 8 := by
  have hb : isB (flo 3 3 l9 0) l9.length 5 := by
    refine ⟨by decide, by decide, ?_⟩
    have : ∀ i, i < 9 → (fs0 3 3 l9).st i = 1 → ¬ wlt ((fs0 3 3 l9).fi i, i) ((fs0 3 3 l9).fi 5, 5) := by decide
    exact this
  have e1 : flo 3 3 l9 1 = stepF 3 l9 (fs0 3 3 l9) 5 := flo_next 3 3 l9 hb
  have h4 : (flo 3 3 l9 1).st 4 ≠ 0 ∧ (flo 3 3 l9 1).tw 4 = 5 := by rw [e1]; decide
  have h0 : (flo 3 3 l9 0).st 0 ≠ 0 ∧ (flo 3 3 l9 0).tw 0 = 0 := by
    show (fs0 3 3 l9).st 0 ≠ 0 ∧ (fs0 3 3 l9).tw 0 = 0
    decide
  obtain ⟨a1, a2⟩ := flo_stay h4.1 8
  obtain ⟨b1, b2⟩ := flo_stay h0.1 9
  have hl : l9.length = 9 := rfl
  constructor
  · unfold flL
    rw [gl_map (by decide), hl]
    unfold flV
    rw [if_neg a2, a1, h4.2]
    decide
  · unfold flL
    rw [gl_map (by decide), hl]
    unfold flV
    rw [if_neg b2, b1, h0.2]
    decide
theorem flL_len (m n : Nat) (l : List Int) : (flL m n l).length = l.length := by simp [flL]
theorem fiL_len (m n : Nat) (l : List Int) : (fiL m n l).length = l.length := by simp [fiL]
set_option maxRecDepth 4000 in
set_option maxHeartbeats 4000000 in
theorem drains_any (g : Nat → Addr) (w : World) (hl : Lai w g) : Calls Tryd.prog 9 #[] w fun e w' => e = .returned (.bool true) ∧ Gr w w' := by
  have hA := At.newRow w (ir l9) 3
  have hR : Rs (w.alloc (.cells (ir l9).toArray 3)) w.heap.size 0 9 l9 := ⟨fun i hi => by
    have h := (hA.1 i (by simpa [ir] using hi)).1
    rw [Nat.zero_add, h]
    simp [ir], hA.lt, by decide⟩
  have G0 := (Gr.refl w).alloc (.cells (ir l9).toArray 3)
  have HF := hidb (flow_ok g (m := 3) (n := 3) (l := l9) _ hR l9_ok.1 l9_ok.2 (hl.below G0.out))
  have HG0 := hidb G0
  clear hA hR hl G0
  go_enter Tryd.func9, Tryd.ntmps9
  go_wp2_with fail
  refine HF.out.mono ?_
  rintro e w1 ⟨FL, rfl, hA, hFL, hG⟩
  obtain ⟨c4, -⟩ := hA.get (j := 4) (by rw [flL_len]; decide)
  obtain ⟨c0, -⟩ := hA.get (j := 0) (by rw [flL_len]; decide)
  rw [gl_get (by rw [flL_len]; decide), l9_flow.1] at c4
  rw [gl_get (by rw [flL_len]; decide), l9_flow.2] at c0
  have HG1 := hidb (Gr.step HG0.out hG.out)
  clear hA hFL hG
  have i4 := iindex FL 0 9 9 4 (by decide)
  have i0 := iindex FL 0 9 9 0 (by decide)
  rw [Nat.zero_add] at i4 i0
  have hl9 : l9.length = 9 := rfl
  rw [hl9]
  go_wp2
  go_ret
  exact ⟨rfl, HG1.out⟩
end Go.Proofs.YtbkggcfogmgmmaaDoor
