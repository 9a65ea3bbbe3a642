/-
  mercatorlaw5.fewArcs.; shape.Simple.; ShapeRings: the law.
-/
import Derived.Test.YtnadgoomkaldkaaDoorQSfG
import Derived.Test.YtnadgoomkaldkaaDoorQSrH
import Derived.Test.YtnadgoomkaldkaaDoorQJ5
import Derived.Test.YtnadgoomkaldkaaDoorQSrP
namespace Go.Proofs.YtnadgoomkaldkaaDoor
open Go.RowKit
attribute [local go_sem ↓] Go.wp_at_zero Go.wp_at_succ

/-- So few pieces that all can be looked at (or too many). -/
def fewK (Ls : List (List Sp)) : Bool := decide ((Ls.flatten.length ≤ 60 ∧ Ls.length ≤ 70) ∨ (4000 < Ls.flatten.length ∧ Ls.flatten.length < 4100))
set_option maxRecDepth 4000 in
set_option maxHeartbeats 16000000 in
theorem fewArcs_any {pb po : Nat} {ad : Option Addr} {b o cap : Nat} {Ls : List (List Sp)} (hN : Ls.length ≤ 3000000) (hlen : Ls.flatten.length ≤ 3000000) (w : World) (hp : w.cell? ⟨pb, po, none⟩ = some (.slice ad Ls.length cap) ∧ pb < w.heap.size) (h : LLs w ad b o cap Ls) : Calls Tryd.prog 7 #[.pointer (some ⟨pb, po, none⟩)] w fun e w' => e = .returned (.bool (fewK Ls)) ∧ Gr w w' := by
  have HR := hidb h
  have HX := hidb h.ix
  have HLn := hidb hlen
  have cP := hp.1
  obtain ⟨N, hNn⟩ : ∃ N, N = Ls.length := ⟨_, rfl⟩
  have HN := hidb hNn
  rw [← hNn] at HX cP hN
  have HNb := hidb hN
  clear h hlen hN hNn hp
  go_enter Tryd.func7, Tryd.ntmps7
  go_wp2
  go_loopw [3, 4] (fun s t wr => ∃ i : Nat, i ≤ N ∧ s = .int .i64 (tLn Ls i : Int) ∧ t = .int .i64 (i : Int) ∧ Hid (wr = w)) (fun _ t _ => N - (intOf t).toNat)
  case atStart => exact ⟨0, Nat.zero_le _, by simp [tLn], rfl, hidb rfl⟩
  case round =>
    obtain ⟨i, hi, rfl, rfl, E⟩ := hrel
    have hE := E.out.symm
    subst hE
    clear E
    by_cases h1 : ¬ i < N
    · have h1' : ¬ (i : Int) < (N : Int) := by omega
      have hT : tLn Ls i = Ls.flatten.length := by unfold tLn; rw [show i = Ls.length by have := HN.out; omega, List.take_length]
      rw [hT]
      have HK : Hid (fewK Ls = decide ((Ls.flatten.length ≤ 60 ∧ N ≤ 70) ∨ (4000 < Ls.flatten.length ∧ Ls.flatten.length < 4100))) := by unfold fewK; rw [← HN.out]; exact rfl
      obtain ⟨tot, htot⟩ : ∃ z, z = Ls.flatten.length := ⟨_, rfl⟩
      rw [← htot] at HK ⊢
      clear h1 hT htot
      by_cases t1 : tot ≤ 60
      · have d1 : (tot : Int) ≤ 60 := by omega
        have d3 : ¬ (4000 : Int) < (tot : Int) := by omega
        by_cases t2 : N ≤ 70
        · have d2 : (N : Int) ≤ 70 := by omega
          have HZ := hidb (show fewK Ls = true by rw [HK.out]; exact decide_eq_true (.inl ⟨t1, t2⟩))
          clear t1 t2
          go_wp2
          go_ret
          exact ⟨by rw [HZ.out]; rfl, Gr.refl _⟩
        · have d2 : ¬ (N : Int) ≤ 70 := by omega
          have HZ := hidb (show fewK Ls = false by rw [HK.out]; exact decide_eq_false (by omega))
          clear t1 t2
          go_wp2
          go_ret
          exact ⟨by rw [HZ.out]; rfl, Gr.refl _⟩
      · have d1 : ¬ (tot : Int) ≤ 60 := by omega
        by_cases t2 : 4000 < tot
        · have d2 : (4000 : Int) < (tot : Int) := by omega
          by_cases t3 : tot < 4100
          · have d3 : (tot : Int) < 4100 := by omega
            have HZ := hidb (show fewK Ls = true by rw [HK.out]; exact decide_eq_true (.inr ⟨t2, t3⟩))
            clear t1 t2 t3
            go_wp2
            go_ret
            exact ⟨by rw [HZ.out]; rfl, Gr.refl _⟩
          · have d3 : ¬ (tot : Int) < 4100 := by omega
            have HZ := hidb (show fewK Ls = false by rw [HK.out]; exact decide_eq_false (by omega))
            clear t1 t2 t3
            go_wp2
            go_ret
            exact ⟨by rw [HZ.out]; rfl, Gr.refl _⟩
        · have d2 : ¬ (4000 : Int) < (tot : Int) := by omega
          have HZ := hidb (show fewK Ls = false by rw [HK.out]; exact decide_eq_false (by omega))
          clear t1 t2
          go_wp2
          go_ret
          exact ⟨by rw [HZ.out]; rfl, Gr.refl _⟩
    · have h1' : (i : Int) < (N : Int) := by omega
      have hiN : i < N := by omega
      have hiL : i < Ls.length := by rw [← HN.out]; exact hiN
      have H1 := hidb hiN
      have e1 : IntKind.i64.wrap ((i : Int) + 1) = ((i + 1 : Nat) : Int) := by rw [show (i : Int) + 1 = ((i + 1 : Nat) : Int) by omega]; exact wr_in (by omega) (by have := HNb.out; omega)
      obtain ⟨⟨ad', b', o', cap', c0, hS⟩, cb⟩ := HR.out.row i hiL
      have ix := HX.out i hiN
      have htk : tLn Ls (i + 1) = tLn Ls i + (lx Ls i).length := by unfold tLn; rw [take_flat Ls hiL, List.length_append, lx_get hiL]
      have hle : tLn Ls (i + 1) ≤ Ls.flatten.length := flat_le Ls (i + 1)
      have e2 : IntKind.i64.wrap ((tLn Ls i : Int) + ((lx Ls i).length : Int)) = (tLn Ls (i + 1) : Int) := by
        have := HLn.out
        rw [htk, show (tLn Ls i : Int) + ((lx Ls i).length : Int) = ((tLn Ls i + (lx Ls i).length : Nat) : Int) by omega]
        exact wr_in (by omega) (by omega)
      generalize (tLn Ls i : Int) = s0 at *
      generalize (lx Ls i).length = li at *
      clear h1 hiN hiL cb hS htk hle
      go_wp2
      go_roundw
      case rel => exact ⟨i + 1, H1.out, rfl, by go_num, hidb (by trivial)⟩
      case measure => have := H1.out; simp [intOf]; omega
end Go.Proofs.YtnadgoomkaldkaaDoor
namespace Go.Proofs.YtnadgoomkaldkaaDoor
open Go.RowKit Go.Maps
attribute [local go_sem ↓] Go.wp_at_zero Go.wp_at_succ

end Go.Proofs.YtnadgoomkaldkaaDoor
namespace Go.Proofs.YtnadgoomkaldkaaDoor
open Go.RowKit
attribute [local go_sem ↓] Go.wp_at_zero Go.wp_at_succ

theorem Laid.gr {w w' : World} {a : Nat → Addr} (h : Laid w a) (hb : Gr w w') : Laid w' a := h.below hb.out
/-- What lies in memory while the law looks. -/
structure RW (w W : World) (p : Sp) (g : Nat → Addr) (ad : Option Addr) (b o cap : Nat) (l : List Sp) : Prop where
  p : At W w.heap.size (sc p)
  s : SSl W ad b o cap l
  la : Laid W g
  gr : Gr w W
theorem RW.below {w W w' : World} {p : Sp} {g : Nat → Addr} {ad : Option Addr} {b o cap : Nat} {l : List Sp} (h : RW w W p g ad b o cap l) (hB : Below W.heap.size W w') : RW w w' p g ad b o cap l := ⟨At.below hB h.p, h.s.below hB, h.la.below hB, Gr.step h.gr hB⟩
end Go.Proofs.YtnadgoomkaldkaaDoor
