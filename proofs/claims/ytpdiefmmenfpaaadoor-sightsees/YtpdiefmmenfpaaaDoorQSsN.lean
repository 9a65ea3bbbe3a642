/-
  SightSees: the law.
-/
import Derived.Test.YtpdiefmmenfpaaaDoorQSsM
namespace Go.Proofs.YtpdiefmmenfpaaaDoor
open Go.RowKit

theorem sightSees_law (g : Nat → Addr) (a : Option Addr) (f t e u : Int) (w : World) (hl : Laid w g) (ha : RArg w a) : Calls Tryd.prog 4 #[.pointer a, loV f t e u] w fun e w' => e = .returned (.bool true) ∧ Gr w w' := by
  obtain ⟨s, h1, h2⟩ := small4_arg ha
  cases s with
  | false => exact ssees_no g _ f t e u w hl h1
  | true =>
    obtain ⟨pb, po, W, H, sd, b, o, cap, l, rfl, hr, hc, ll⟩ := h2 rfl
    by_cases hv1 : vcode W H l = 0
    · obtain ⟨m, n, rfl, rfl, ok⟩ := ok_of hv1
      have hN := Nat.mul_le_mul ok.m1 ok.n1
      have h0 : ¬ l.length = 0 := by rw [ok.len]; omega
      obtain ⟨rfl, hRs⟩ := hc h0
      by_cases hb : loB l.length f t e u = true
      · obtain ⟨⟨hf, ht⟩, he, hu⟩ := loB_yes hb
        exact ssees_ok g (fN := f.toNat) (tN := t.toNat) f t e u (by omega) (by omega) w hl hr hRs ok ll hv1 hb
      · have hlc : lcode m n l f t e u = 4 := by unfold lcode; rw [if_pos hv1, if_neg hb]
        refine ssees_err g f t e u w hl hr ll (by omega) (fun W hG => ?_) (fun W hG => ?_)
        · rw [hlc]
          exact sees_bad g f t e u W (hRs.below hG.out) ok hv1 (hl.below hG.out).lai (by simpa using hb)
        · rw [hlc]
          exact stops_bad g f t e u W (hRs.below hG.out) ok hv1 (hl.below hG.out).lai (by simpa using hb)
    · have hlc : lcode W H l f t e u = vcode W H l := by unfold lcode; rw [if_neg hv1]
      refine ssees_err g f t e u w hl hr ll (by omega) (fun W1 hG => ?_) (fun W1 hG => ?_)
      · rw [hlc]
        exact sees_no g f t e u W1 (hr.below hG).sl (by omega) (hl.below hG.out).lai hv1
      · rw [hlc]
        exact stops_no g f t e u W1 (hr.below hG).sl (by omega) (hl.below hG.out).lai hv1
end Go.Proofs.YtpdiefmmenfpaaaDoor
