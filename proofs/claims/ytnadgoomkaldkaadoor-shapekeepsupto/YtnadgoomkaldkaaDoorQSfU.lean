/-
  mercatorlaw5.sameLists, where they are the same.
-/
import Derived.Test.YtnadgoomkaldkaaDoorQTk
import Derived.Test.YtnadgoomkaldkaaDoorQJ9
import Derived.Test.YtnadgoomkaldkaaDoorQSfM
namespace Go.Proofs.YtnadgoomkaldkaaDoor
open Go.RowKit
attribute [local go_sem ↓] Go.wp_at_zero Go.wp_at_succ

def lI (L : List (List Int)) (i : Nat) : List Int := L.getD i []
/-- A slice of slices of ints that is read. -/
structure LIs (w : World) (ad : Option Addr) (b o cap : Nat) (L : List (List Int)) : Prop where
  row : ∀ i, i < L.length → (∃ ad' b' o' cap', w.cell? ⟨b, o + i, none⟩ = some (.slice ad' (lI L i).length cap') ∧ ISl w ad' b' o' cap' (lI L i)) ∧ b < w.heap.size
  ix : ∀ k : Nat, k < L.length → ∀ w, (Instr.indexAt 34 (.slice ad L.length cap) (.int .i64 k)).run Tryd.prog w = .ok (.pointer (some ⟨b, o + k, none⟩)) w
theorem LIs.below {W w' : World} {ad : Option Addr} {b o cap : Nat} {L : List (List Int)} (h : LIs W ad b o cap L) (hB : Below W.heap.size W w') : LIs w' ad b o cap L :=
  ⟨fun i hi => by
    obtain ⟨⟨ad', b', o', cap', h1, h2⟩, h3⟩ := h.row i hi
    exact ⟨⟨ad', b', o', cap', (hB.cell (p := ⟨b, o + i, none⟩) h3).trans h1, h2.below hB⟩, Nat.lt_of_lt_of_le h3 hB.size⟩, h.ix⟩
set_option maxRecDepth 4000 in
set_option maxHeartbeats 8000000 in
theorem sameLists_eq {ad ad2 : Option Addr} {b b2 o o2 cap cap2 : Nat} {L : List (List Int)} (hN : L.length ≤ 20000) (hn : ∀ i, i < L.length → (lI L i).length ≤ 20000) (w : World) (h : LIs w ad b o cap L) (k : LIs w ad2 b2 o2 cap2 L) : Calls Tryd.prog 15 #[.slice ad L.length cap, .slice ad2 L.length cap2] w fun e w' => e = .returned (.bool true) ∧ Gr w w' := by
  have HA := hidb h
  have HB := hidb k
  have HX := hidb h.ix
  have HY := hidb k.ix
  have HL := hidb hn
  obtain ⟨N, hNn⟩ : ∃ N, N = L.length := ⟨_, rfl⟩
  have HN := hidb hNn
  rw [← hNn] at HX HY hN ⊢
  have HNb := hidb hN
  clear h k hn hN hNn
  go_enter Tryd.func15, Tryd.ntmps15
  go_wp2
  go_loopw [5] (fun t wr => ∃ i : Nat, i ≤ N ∧ t = .int .i64 (i : Int) ∧ Hid (Gr w wr)) (fun t _ => N - (intOf t).toNat)
  case atStart => exact ⟨0, Nat.zero_le _, rfl, hidb (Gr.refl w)⟩
  case round =>
    obtain ⟨i, hi, rfl, E⟩ := hrel
    by_cases h1 : ¬ i < N
    · have h1' : ¬ (i : Int) < (N : Int) := by omega
      clear h1
      go_wp2
      go_ret
      exact ⟨rfl, E.out⟩
    · have h1' : (i : Int) < (N : Int) := by omega
      have hiN : i < N := by omega
      have hiL : i < L.length := by rw [← HN.out]; exact hiN
      have H1 := hidb hiN
      have e1 : IntKind.i64.wrap ((i : Int) + 1) = ((i + 1 : Nat) : Int) := by rw [show (i : Int) + 1 = ((i + 1 : Nat) : Int) by omega]; exact wrap_in (by omega) (by have := HNb.out; omega)
      obtain ⟨⟨a1, b1, o1, c1, x0, hS⟩, xb⟩ := (HA.out.below E.out.out).row i hiL
      obtain ⟨⟨a2, b3, o3, c2, y0, hT⟩, yb⟩ := (HB.out.below E.out.out).row i hiL
      have ix := HX.out i hiN
      have iy := HY.out i hiN
      have HC := hidb (fun W (hG : Gr wr W) => sameInts_eq (HL.out i hiL) W (hS.below hG.out) (hT.below hG.out))
      have HK : Hid (∀ W, Gr wr W → W.cell? ⟨b, o + i, none⟩ = some (.slice a1 (lI L i).length c1) ∧ W.cell? ⟨b2, o2 + i, none⟩ = some (.slice a2 (lI L i).length c2)) := fun W hG => ⟨(hG.out.cell (p := ⟨b, o + i, none⟩) xb).trans x0, (hG.out.cell (p := ⟨b2, o2 + i, none⟩) yb).trans y0⟩
      generalize lI L i = li at *
      clear h1 hiN hiL xb yb hS hT x0 y0
      go_upto_region 6 with fail
      refine wp_region_held_drew (S := (fun w' => w'.cell? ⟨b, o + i, none⟩ = some (.slice a1 li.length c1) ∧ w'.cell? ⟨b2, o2 + i, none⟩ = some (.slice a2 li.length c2))) (by kernel_rfl) ?_ (fun hHeld => ?_)
      · (try dsimp only); exact HK.out _ (Gr.refl wr).drew
      have GG := hidb (Gr.refl wr).drew
      generalize wr.drew = V0 at *
      refine wt (i := 0) (v := ?vu6q0x4) rfl ?hu6q0x4 ?ru6q0x4
      case hu6q0x4 => (intro w hSw; (try dsimp only at hSw); obtain ⟨x1, x2⟩ := hSw; go_simp; try with_reducible rfl)
      (try simp only [Act.put, lq1, lq2, lq4, lq5, lq6])
      refine wt (i := 1) (v := ?vu6q1x7) rfl ?hu6q1x7 ?ru6q1x7
      case hu6q1x7 => (intro w hSw; (try dsimp only at hSw); obtain ⟨x1, x2⟩ := hSw; go_simp; try with_reducible rfl)
      (try simp only [Act.put, lq1, lq2, lq3, lq4, lq5, lq6])
      refine wt (i := 2) (v := ?vu6q2x10) rfl ?hu6q2x10 ?ru6q2x10
      case hu6q2x10 => (intro w hSw; (try dsimp only at hSw); obtain ⟨x1, x2⟩ := hSw; go_simp; try with_reducible rfl)
      (try simp only [Act.put, lq1, lq2, lq3, lq4, lq5, lq6])
      refine wt (i := 3) (v := ?vu6q3x13) rfl ?hu6q3x13 ?ru6q3x13
      case hu6q3x13 => (intro w hSw; (try dsimp only at hSw); obtain ⟨x1, x2⟩ := hSw; go_simp; try with_reducible rfl)
      (try simp only [Act.put, lq1, lq2, lq3, lq4, lq5, lq6])
      refine wt (i := 4) (v := ?vu6q4x16) rfl ?hu6q4x16 ?ru6q4x16
      case hu6q4x16 => (intro w hSw; (try dsimp only at hSw); obtain ⟨x1, x2⟩ := hSw; go_simp; try with_reducible rfl)
      (try simp only [Act.put, lq1, lq2, lq3, lq4, lq5, lq6])
      refine wt (i := 5) (v := ?vu6q5x19) rfl ?hu6q5x19 ?ru6q5x19
      case hu6q5x19 => (intro w hSw; (try dsimp only at hSw); obtain ⟨x1, x2⟩ := hSw; go_simp; try with_reducible rfl)
      (try simp only [Act.put, lq1, lq2, lq3, lq4, lq5, lq6])
      refine wt (i := 6) (v := ?vu6q6x22) rfl ?hu6q6x22 ?ru6q6x22
      case hu6q6x22 => (intro w hSw; (try dsimp only at hSw); obtain ⟨x1, x2⟩ := hSw; go_simp; try with_reducible rfl)
      (try simp only [Act.put, lq1, lq2, lq3, lq4, lq5, lq6])
      refine wt (i := 7) (v := ?vu6q7x25) rfl ?hu6q7x25 ?ru6q7x25
      case hu6q7x25 => (intro w hSw; (try dsimp only at hSw); obtain ⟨x1, x2⟩ := hSw; go_simp; try with_reducible rfl)
      (try simp only [Act.put, lq1, lq2, lq3, lq4, lq5, lq6])
      refine wpAnyH_ready (rs := [8]) (by kernel_rfl) (by simp) ?_
      refine AllReadyH.cons rfl (fun K hK => ?_) AllReadyH.nil
      go_simp
      go_wp2_with (go_at_call 31; refine (HC.out _ GG.out).mono ?_; rintro e V1 ⟨rfl, hBc⟩)
      refine hK.out _ _ ?_ (fun hHeld => ?_)
      · (try dsimp only); exact HK.out _ (Gr.step GG.out hBc.out)
      clear hK K
      replace GG := hidb (Gr.step GG.out hBc.out)
      clear hBc
      refine wt (i := 9) (v := ?vu6q9x37) rfl ?hu6q9x37 ?ru6q9x37
      case hu6q9x37 => (intro w hSw; (try dsimp only at hSw); obtain ⟨x1, x2⟩ := hSw; go_simp; try with_reducible rfl)
      (try simp only [Act.put, lq1, lq2, lq3, lq4, lq5, lq6])
      refine wpAnyH_done (by kernel_rfl) ?_ _
      have E2 := hidb (Gr.step E.out GG.out)
      go_wp2_with fail
      go_roundw
      case rel => exact ⟨i + 1, H1.out, by go_num, E2⟩
      case measure => have := H1.out; simp [intOf]; omega
end Go.Proofs.YtnadgoomkaldkaaDoor
