/-
  ShapeFaces: the law's ways.
-/
import Derived.Test.YtnadgoomkaldkaaDoorQJ4
import Derived.Test.YtnadgoomkaldkaaDoorQSfH
import Derived.Test.YtnadgoomkaldkaaDoorQSfI
import Derived.Test.YtnadgoomkaldkaaDoorQJ6
import Derived.Test.YtnadgoomkaldkaaDoorQSrL
namespace Go.Proofs.YtnadgoomkaldkaaDoor
open Go.RowKit
attribute [local go_sem ↓] Go.wp_at_zero Go.wp_at_succ

theorem pt_ok {Ls : List (List Sp)} (hok : okL Ls) {R : List Nat} (hR : ∀ u ∈ R, u < 2 * Ls.length) : ∀ i, i < (ptW Ls R).length → okS (sx (ptW Ls R) i) := by
  intro i hi
  have hm : sx (ptW Ls R) i ∈ ptW Ls R := by rw [← sx_get hi]; exact List.getElem_mem hi
  obtain ⟨u, hu, h1⟩ := List.mem_flatMap.1 hm
  have hl := hR u hu
  have h2 : sx (ptW Ls R) i ∈ lx Ls (u / 2) := by
    have h3 := List.dropLast_subset _ h1
    unfold fuW at h3
    split at h3
    · exact h3
    · exact List.mem_reverse.1 h3
  obtain ⟨k, hk, e⟩ := List.getElem_of_mem h2
  rw [← e, sx_get hk]
  exact hok _ (by omega) k hk
theorem area_any {pb po : Nat} {ad : Option Addr} {b o cap : Nat} {Ls : List (List Sp)} (hc : mcd Ls = 0) (hF : Ls.flatten.length ≤ 60) {a' : Option Addr} {b' o' c' : Nat} {R : List Nat} (hR : RdR Ls R) (w : World) (hp : w.cell? ⟨pb, po, none⟩ = some (.slice ad Ls.length cap) ∧ pb < w.heap.size) (h : LLd w ad b o cap Ls) (hS : ISl w a' b' o' c' (tdL R)) : Calls Tryd.prog 17 #[.pointer (some ⟨pb, po, none⟩), .slice a' R.length c'] w fun e w' => ∃ v, e = .returned v ∧ Hid (∀ W', Gr w' W' → Calls Tryd.prog 16 #[v] W' fun e w'' => e = .returned (.int .i64 (szW Ls R)) ∧ Gr W' w'') ∧ Gr w w' := by
  have hM := OkM.of hc
  have hok := mcd_okL hc
  obtain ⟨m1, m2, m3, -, -⟩ := mcd_ok hc
  have h2 : ∀ i, i < Ls.length → 2 ≤ (lx Ls i).length := fun i hi => (m3 i hi).1
  have h60 : ∀ i, i < Ls.length → (lx Ls i).length ≤ 60 := fun i hi => by have := len_le hi; omega
  have hN : 2 * Ls.length ≤ 60 := by
    have := two_flat Ls (fun l hl => by
      obtain ⟨i, hi, e⟩ := List.getElem_of_mem hl
      rw [← e, lx_get hi]
      exact h2 i hi)
    omega
  have hl := hR.len
  refine (pointsOf_any w hp h m1 h2 h60 hR.p.lt (by omega) hS).mono ?_
  rintro e w' ⟨base, v, rfl, hown, hG⟩
  obtain ⟨ad1, b1, c1, rfl, hs⟩ := own_ssl hown rfl
  refine ⟨_, rfl, fun W' hG' => ?_, hG⟩
  have hb := pt_len (Ls := Ls) R (fun u hu => h60 _ (by have := hR.p.lt u hu; omega))
  rw [← hR.area hM]
  exact areaOf_any (hR.two hM) (by omega) (pt_ok hok hR.p.lt) W' (hs.gr hG')
theorem coded_ev (g : Nat → Addr) (c : Nat) (hc : c ≤ 8) (w : World) (hl : Laid w g) : Calls Tryd.prog 9 #[ev g c, .int .i64 (c : Int)] w fun e w' => e = .returned (.bool true) ∧ Gr w w' := by
  by_cases h : c = 0
  · subst h
    refine (coded_nil 0 w).mono ?_
    rintro e w' ⟨rfl, rfl⟩
    exact ⟨rfl, Gr.refl _⟩
  · rw [ev_err g h]
    have := coded_5 g (c - 1) (by omega) w hl
    rw [show ((c - 1 : Nat) : Int) + 1 = (c : Int) by omega] at this
    exact this
theorem mcd_le (Ls : List (List Sp)) : mcd Ls ≤ 8 := by
  unfold mcd
  split
  · omega
  · split
    · split <;> omega
    · omega
/-- What Valid, Faces and Sizes say, for however many arcs. -/
theorem valid_all (g : Nat → Addr) {ad : Option Addr} {b o cap : Nat} {Ls : List (List Sp)} (hlen : Ls.flatten.length ≤ 5000) (w : World) (h : LLd w ad b o cap Ls) (hl : Laid w g) : Calls Tryd.prog 10 #[.agg #[.slice ad Ls.length cap]] w fun e w' => e = .returned (ev g (mcd Ls)) ∧ Gr w w' := by
  by_cases c : Ls.length ≤ 60
  · exact mvalid_any g c hlen w h hl
  · rw [mcd_2 (.inl (by omega))]
    exact mvalid_many g (by omega) w hl
theorem faces_all (g : Nat → Addr) {ad : Option Addr} {b o cap : Nat} {Ls : List (List Sp)} (hc : ¬ mcd Ls = 0) (hlen : Ls.flatten.length ≤ 5000) (w : World) (h : LLd w ad b o cap Ls) (hl : Laid w g) : Calls Tryd.prog 12 #[.agg #[.slice ad Ls.length cap]] w fun e w' => e = .returned (.tuple #[.slice none 0 0, ev g (mcd Ls)]) ∧ Gr w w' := by
  by_cases c : Ls.length ≤ 60
  · exact faces_bad g hc c hlen w h hl
  · rw [mcd_2 (.inl (by omega))]
    exact faces_many g (by omega) w hl
theorem sizes_all (g : Nat → Addr) {ad : Option Addr} {b o cap : Nat} {Ls : List (List Sp)} (hc : ¬ mcd Ls = 0) (hlen : Ls.flatten.length ≤ 5000) (w : World) (h : LLd w ad b o cap Ls) (hl : Laid w g) : Calls Tryd.prog 13 #[.agg #[.slice ad Ls.length cap]] w fun e w' => e = .returned (.tuple #[.slice none 0 0, ev g (mcd Ls)]) ∧ Gr w w' := by
  by_cases c : Ls.length ≤ 60
  · exact sizes_bad g hc c hlen w h hl
  · rw [mcd_2 (.inl (by omega))]
    exact sizes_many g (by omega) w hl
set_option maxRecDepth 4000 in
theorem fewArcs_nil (w : World) : Calls Tryd.prog 7 #[.pointer none] w fun e w' => e = .returned (.bool false) ∧ Gr w w' := by
  go_enter Tryd.func7, Tryd.ntmps7
  go_wp2
  go_ret
  exact ⟨rfl, Gr.refl _⟩
set_option maxRecDepth 4000 in
theorem sfaces_no (g : Nat → Addr) (v : Value) (w : World) (hl : Laid w g) (hf : ∀ W, Gr w W → Calls Tryd.prog 7 #[v] W fun e w' => e = .returned (.bool false) ∧ Gr W w') : Calls Tryd.prog 3 #[v] w fun e w' => e = .returned (.bool true) ∧ Gr w w' := by
  have HM := hidb (mapped_any g w hl)
  have HF := hidb hf
  clear hl hf
  go_enter Tryd.func3, Tryd.ntmps3
  go_wp2_with fail
  refine HM.out.mono ?_
  rintro e w1 ⟨rfl, hB⟩
  have E := hidb hB
  clear hB HM
  go_wp2_with fail
  refine (HF.out _ E.out).mono ?_
  rintro e w2 ⟨rfl, hB⟩
  replace E := hidb (Gr.step E.out hB.out)
  clear hB HF
  go_wp2
  go_ret
  exact ⟨rfl, E.out⟩
set_option maxRecDepth 4000 in
set_option maxHeartbeats 8000000 in
theorem sfaces_bad (g : Nat → Addr) {pb po : Nat} {ad : Option Addr} {b o cap : Nat} {Ls : List (List Sp)} (hN : Ls.length ≤ 3000000) (hlen : Ls.flatten.length ≤ 5000) (hf : fewK Ls = true) (hc : ¬ mcd Ls = 0) (w : World) (hl : Laid w g) (hp : w.cell? ⟨pb, po, none⟩ = some (.slice ad Ls.length cap) ∧ pb < w.heap.size) (h : LLd w ad b o cap Ls) : Calls Tryd.prog 3 #[.pointer (some ⟨pb, po, none⟩)] w fun e w' => e = .returned (.bool true) ∧ Gr w w' := by
  have hpG : ∀ W, Gr w W → W.cell? ⟨pb, po, none⟩ = some (.slice ad Ls.length cap) ∧ pb < W.heap.size := fun W hG => ⟨(hG.out.cell (p := ⟨pb, po, none⟩) hp.2).trans hp.1, Nat.lt_of_lt_of_le hp.2 hG.out.size⟩
  have HM := hidb (mapped_any g w hl)
  have HF := hidb (fun W (hG : Gr w W) => fewArcs_any hN (by omega) W (hpG W hG) (h.ll.below hG.out))
  rw [hf] at HF
  have HE := hidb (fun W (hG : Gr w W) => mapError_any (by omega) hlen W (hpG W hG) (h.ll.below hG.out))
  have HD := hidb (fun W (hG : Gr w W) => drawn_any hN (fun i hi => by have := len_le hi; omega) W (hpG W hG) (h.below hG.out))
  have HV := hidb (fun W a1 b1 c1 (hL : LLd W a1 b1 0 c1 Ls) (hG : Gr w W) => valid_all g hlen W hL (hl.gr hG))
  have HFa := hidb (fun W a1 b1 c1 (hL : LLd W a1 b1 0 c1 Ls) (hG : Gr w W) => faces_all g hc hlen W hL (hl.gr hG))
  have HSi := hidb (fun W a1 b1 c1 (hL : LLd W a1 b1 0 c1 Ls) (hG : Gr w W) => sizes_all g hc hlen W hL (hl.gr hG))
  have HC := hidb (fun W (hG : Gr w W) => coded_ev g (mcd Ls) (mcd_le Ls) W (hl.gr hG))
  have hc2 : (0 : Int) < (mcd Ls : Int) := by omega
  generalize ev g (mcd Ls) = EV at *
  generalize (mcd Ls : Int) = c at *
  generalize Ls.length = N at *
  clear hN hlen hf hc hl hp h hpG
  go_enter Tryd.func3, Tryd.ntmps3
  go_wp2_with fail
  refine HM.out.mono ?_
  rintro e w1 ⟨rfl, hB⟩
  have E := hidb hB
  clear hB HM
  go_wp2_with fail
  refine (HF.out _ E.out).mono ?_
  rintro e w2 ⟨rfl, hB⟩
  replace E := hidb (Gr.step E.out hB.out)
  clear hB HF
  go_wp2_with fail
  refine (HE.out _ E.out).mono ?_
  rintro e w3 ⟨rfl, hB⟩
  replace E := hidb (Gr.step E.out hB.out)
  clear hB HE
  go_wp2_with fail
  refine (HD.out _ E.out).mono ?_
  rintro e w4 ⟨a1, b1, c1, rfl, hL, hB⟩
  replace E := hidb (Gr.step E.out hB.out)
  clear hB
  go_wp2_with fail
  refine (HV.out _ _ _ _ hL E.out).mono ?_
  rintro e w5 ⟨rfl, hB⟩
  replace E := hidb (Gr.step E.out hB.out)
  clear hB hL
  go_wp2_with fail
  refine (HC.out _ E.out).mono ?_
  rintro e w6 ⟨rfl, hB⟩
  replace E := hidb (Gr.step E.out hB.out)
  clear hB
  go_wp2_with fail
  refine (HD.out _ E.out).mono ?_
  rintro e w7 ⟨a2, b2, c2, rfl, hL, hB⟩
  replace E := hidb (Gr.step E.out hB.out)
  clear hB
  go_wp2_with fail
  refine (HFa.out _ _ _ _ hL E.out).mono ?_
  rintro e w8 ⟨rfl, hB⟩
  replace E := hidb (Gr.step E.out hB.out)
  clear hB hL
  go_wp2_with fail
  refine (HD.out _ E.out).mono ?_
  rintro e w9 ⟨a3, b3, c3, rfl, hL, hB⟩
  replace E := hidb (Gr.step E.out hB.out)
  clear hB
  go_wp2_with fail
  refine (HSi.out _ _ _ _ hL E.out).mono ?_
  rintro e w10 ⟨rfl, hB⟩
  replace E := hidb (Gr.step E.out hB.out)
  clear hB hL
  go_wp2_with (go_at_call 9; refine (HC.out _ E.out).mono ?_; rintro e w11 ⟨rfl, hB⟩; replace E := hidb (Gr.step E.out hB.out); clear hB)
  go_ret
  exact ⟨rfl, E.out⟩
end Go.Proofs.YtnadgoomkaldkaaDoor
