/-
  SightMutual: the law.
-/
import Derived.Test.YtpdiefmmenfpaaaDoorQSiL1
import Derived.Test.YtpdiefmmenfpaaaDoorQSiL2
namespace Go.Proofs.YtpdiefmmenfpaaaDoor
open Go.RowKit

theorem sightMutual_law (g : Nat → Addr) (a : Option Addr) (f t e u mo ce : Int) (w : World) (hl : Lai w g) (ha : RArg w a) : Calls Tryd.prog 6 #[.pointer a, loV f t e u, .int .i64 mo, .int .i64 ce] w fun e w' => e = .returned (.bool true) ∧ Gr w w' := by
  obtain ⟨s, h1, h2⟩ := small4_arg ha
  cases s with
  | false => exact mutual_no g _ f t e u mo ce w hl h1
  | true =>
    obtain ⟨pb, po, W, H, sd, b, o, cap, l, rfl, hr, hc, ll⟩ := h2 rfl
    by_cases hv : lcode W H l f t e u = 0
    · have hv1 : vcode W H l = 0 := by
        unfold lcode at hv
        by_cases k : vcode W H l = 0
        · exact k
        · rw [if_neg k] at hv; exact absurd hv k
      have hb : loB l.length f t e u = true := by
        unfold lcode at hv
        rw [if_pos hv1] at hv
        by_cases k : loB l.length f t e u = true
        · exact k
        · rw [if_neg k] at hv; cases hv
      obtain ⟨⟨hf, ht⟩, he, hu⟩ := loB_yes hb
      by_cases hm : mo < 0 ∨ 1000 < mo ∨ 1048576 < e + mo
      · exact mutual_more g f t e u mo ce w hl hr ll hv he hm
      · obtain ⟨m, n, rfl, rfl, ok⟩ := ok_of hv1
        have hN := Nat.mul_le_mul ok.m1 ok.n1
        have h0 : ¬ l.length = 0 := by rw [ok.len]; omega
        obtain ⟨rfl, hRs⟩ := hc h0
        obtain ⟨fN, hfN⟩ : ∃ k : Nat, f = (k : Int) := ⟨f.toNat, by omega⟩
        obtain ⟨tN, htN⟩ : ∃ k : Nat, t = (k : Int) := ⟨t.toNat, by omega⟩
        by_cases hs : seeP l m n fN tN e u
        · exact mutual_T g f t e u mo ce hfN htN w hl hr hRs ok ll hv1 hb (by omega) (by omega) hs
        · exact mutual_F g f t e u mo ce hfN htN w hl hr hRs ok ll hv1 hb (by omega) (by omega) hs
    · exact mutual_err g f t e u mo ce w hl hr ll hv
end Go.Proofs.YtpdiefmmenfpaaaDoor
