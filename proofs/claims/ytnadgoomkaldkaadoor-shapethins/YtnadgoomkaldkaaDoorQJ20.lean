/-
  ShapeFaces: the law's ways.; ShapeFaces: the law where the map is right.
-/
import Derived.Test.YtnadgoomkaldkaaDoorQTk
import Derived.Test.YtnadgoomkaldkaaDoorQJ19
import Derived.Test.YtnadgoomkaldkaaDoorQSfH
import Derived.Test.YtnadgoomkaldkaaDoorQSfI
import Derived.Test.YtnadgoomkaldkaaDoorQJ21
namespace Go.Proofs.YtnadgoomkaldkaaDoor
open Go.RowKit
attribute [local go_sem ↓] Go.wp_at_zero Go.wp_at_succ

theorem pt_ok {Ls : List (List Sp)} (hok : okL Ls) {R : List Nat} (hR : ∀ u ∈ R, u < 2 * Ls.length) : ∀ i, i < (ptW Ls R).length → okS (sx (ptW Ls R) i) := by
  intro i hi
  have hm : sx (ptW Ls R) i ∈ ptW Ls R := by rw [← sx_get hi]; exact List.getElem_mem hi
  obtain ⟨u, hu, h1⟩ := List.mem_flatMap.1 hm
  have hl := hR u hu
  have h2 : sx (ptW Ls R) i ∈ lx Ls (u / 2) := by
    have h3 := List.dropLast_subset _ h1
    unfold fuW at h3
    split at h3
    · exact h3
    · exact List.mem_reverse.1 h3
  obtain ⟨k, hk, e⟩ := List.getElem_of_mem h2
  rw [← e, sx_get hk]
  exact hok _ (by omega) k hk
theorem area_any {pb po : Nat} {ad : Option Addr} {b o cap : Nat} {Ls : List (List Sp)} (hc : mcd Ls = 0) (hF : Ls.flatten.length ≤ 60) {a' : Option Addr} {b' o' c' : Nat} {R : List Nat} (hR : RdR Ls R) (w : World) (hp : w.cell? ⟨pb, po, none⟩ = some (.slice ad Ls.length cap) ∧ pb < w.heap.size) (h : LLd w ad b o cap Ls) (hS : ISl w a' b' o' c' (tdL R)) : Calls Tryd.prog 17 #[.pointer (some ⟨pb, po, none⟩), .slice a' R.length c'] w fun e w' => ∃ v, e = .returned v ∧ Hid (∀ W', Gr w' W' → Calls Tryd.prog 16 #[v] W' fun e w'' => e = .returned (.int .i64 (szW Ls R)) ∧ Gr W' w'') ∧ Gr w w' := by
  have hM := OkM.of hc
  have hok := mcd_okL hc
  obtain ⟨m1, m2, m3, -, -⟩ := mcd_ok hc
  have h2 : ∀ i, i < Ls.length → 2 ≤ (lx Ls i).length := fun i hi => (m3 i hi).1
  have h60 : ∀ i, i < Ls.length → (lx Ls i).length ≤ 60 := fun i hi => by have := len_le hi; omega
  have hN : 2 * Ls.length ≤ 60 := by
    have := two_flat Ls (fun l hl => by
      obtain ⟨i, hi, e⟩ := List.getElem_of_mem hl
      rw [← e, lx_get hi]
      exact h2 i hi)
    omega
  have hl := hR.len
  refine (pointsOf_any w hp h m1 h2 h60 hR.p.lt (by omega) hS).mono ?_
  rintro e w' ⟨base, v, rfl, hown, hG⟩
  obtain ⟨ad1, b1, c1, rfl, hs⟩ := own_ssl hown rfl
  refine ⟨_, rfl, fun W' hG' => ?_, hG⟩
  have hb := pt_len (Ls := Ls) R (fun u hu => h60 _ (by have := hR.p.lt u hu; omega))
  rw [← hR.area hM]
  exact areaOf_any (hR.two hM) (by omega) (pt_ok hok hR.p.lt) W' (hs.gr hG')
theorem coded_ev (g : Nat → Addr) (c : Nat) (hc : c ≤ 8) (w : World) (hl : Laid w g) : Calls Tryd.prog 9 #[ev g c, .int .i64 (c : Int)] w fun e w' => e = .returned (.bool true) ∧ Gr w w' := by
  by_cases h : c = 0
  · subst h
    refine (coded_nil 0 w).mono ?_
    rintro e w' ⟨rfl, rfl⟩
    exact ⟨rfl, Gr.refl _⟩
  · rw [ev_err g h]
    have := coded_5 g (c - 1) (by omega) w hl
    rw [show ((c - 1 : Nat) : Int) + 1 = (c : Int) by omega] at this
    exact this
theorem mcd_le (Ls : List (List Sp)) : mcd Ls ≤ 8 := by
  unfold mcd
  split
  · omega
  · split
    · split <;> omega
    · omega
/-- What Valid, Faces and Sizes say, for however many arcs. -/
theorem valid_all (g : Nat → Addr) {ad : Option Addr} {b o cap : Nat} {Ls : List (List Sp)} (hlen : Ls.flatten.length ≤ 5000) (w : World) (h : LLd w ad b o cap Ls) (hl : Laid w g) : Calls Tryd.prog 10 #[.agg #[.slice ad Ls.length cap]] w fun e w' => e = .returned (ev g (mcd Ls)) ∧ Gr w w' := by
  by_cases c : Ls.length ≤ 60
  · exact mvalid_any g c hlen w h hl
  · rw [mcd_2 (.inl (by omega))]
    exact mvalid_many g (by omega) w hl
theorem faces_all (g : Nat → Addr) {ad : Option Addr} {b o cap : Nat} {Ls : List (List Sp)} (hc : ¬ mcd Ls = 0) (hlen : Ls.flatten.length ≤ 5000) (w : World) (h : LLd w ad b o cap Ls) (hl : Laid w g) : Calls Tryd.prog 12 #[.agg #[.slice ad Ls.length cap]] w fun e w' => e = .returned (.tuple #[.slice none 0 0, ev g (mcd Ls)]) ∧ Gr w w' := by
  by_cases c : Ls.length ≤ 60
  · exact faces_bad g hc c hlen w h hl
  · rw [mcd_2 (.inl (by omega))]
    exact faces_many g (by omega) w hl
theorem sizes_all (g : Nat → Addr) {ad : Option Addr} {b o cap : Nat} {Ls : List (List Sp)} (hc : ¬ mcd Ls = 0) (hlen : Ls.flatten.length ≤ 5000) (w : World) (h : LLd w ad b o cap Ls) (hl : Laid w g) : Calls Tryd.prog 13 #[.agg #[.slice ad Ls.length cap]] w fun e w' => e = .returned (.tuple #[.slice none 0 0, ev g (mcd Ls)]) ∧ Gr w w' := by
  by_cases c : Ls.length ≤ 60
  · exact sizes_bad g hc c hlen w h hl
  · rw [mcd_2 (.inl (by omega))]
    exact sizes_many g (by omega) w hl
set_option maxRecDepth 4000 in
theorem fewArcs_nil (w : World) : Calls Tryd.prog 7 #[.pointer none] w fun e w' => e = .returned (.bool false) ∧ Gr w w' := by
  go_enter Tryd.func7, Tryd.ntmps7
  go_wp2
  go_ret
  exact ⟨rfl, Gr.refl _⟩
set_option maxRecDepth 4000 in
theorem sfaces_no (g : Nat → Addr) (v : Value) (w : World) (hl : Laid w g) (hf : ∀ W, Gr w W → Calls Tryd.prog 7 #[v] W fun e w' => e = .returned (.bool false) ∧ Gr W w') : Calls Tryd.prog 3 #[v] w fun e w' => e = .returned (.bool true) ∧ Gr w w' := by
  have HM := hidb (mapped_any g w hl)
  have HF := hidb hf
  clear hl hf
  go_enter Tryd.func3, Tryd.ntmps3
  go_wp2_with fail
  refine HM.out.mono ?_
  rintro e w1 ⟨rfl, hB⟩
  have E := hidb hB
  clear hB HM
  go_wp2_with fail
  refine (HF.out _ E.out).mono ?_
  rintro e w2 ⟨rfl, hB⟩
  replace E := hidb (Gr.step E.out hB.out)
  clear hB HF
  go_wp2
  go_ret
  exact ⟨rfl, E.out⟩
set_option maxRecDepth 4000 in
set_option maxHeartbeats 8000000 in
theorem sfaces_bad (g : Nat → Addr) {pb po : Nat} {ad : Option Addr} {b o cap : Nat} {Ls : List (List Sp)} (hN : Ls.length ≤ 3000000) (hlen : Ls.flatten.length ≤ 5000) (hf : fewK Ls = true) (hc : ¬ mcd Ls = 0) (w : World) (hl : Laid w g) (hp : w.cell? ⟨pb, po, none⟩ = some (.slice ad Ls.length cap) ∧ pb < w.heap.size) (h : LLd w ad b o cap Ls) : Calls Tryd.prog 3 #[.pointer (some ⟨pb, po, none⟩)] w fun e w' => e = .returned (.bool true) ∧ Gr w w' := by
  have hpG : ∀ W, Gr w W → W.cell? ⟨pb, po, none⟩ = some (.slice ad Ls.length cap) ∧ pb < W.heap.size := fun W hG => ⟨(hG.out.cell (p := ⟨pb, po, none⟩) hp.2).trans hp.1, Nat.lt_of_lt_of_le hp.2 hG.out.size⟩
  have HM := hidb (mapped_any g w hl)
  have HF := hidb (fun W (hG : Gr w W) => fewArcs_any hN (by omega) W (hpG W hG) (h.ll.below hG.out))
  rw [hf] at HF
  have HE := hidb (fun W (hG : Gr w W) => mapError_any (by omega) hlen W (hpG W hG) (h.ll.below hG.out))
  have HD := hidb (fun W (hG : Gr w W) => drawn_any hN (fun i hi => by have := len_le hi; omega) W (hpG W hG) (h.below hG.out))
  have HV := hidb (fun W a1 b1 c1 (hL : LLd W a1 b1 0 c1 Ls) (hG : Gr w W) => valid_all g hlen W hL (hl.gr hG))
  have HFa := hidb (fun W a1 b1 c1 (hL : LLd W a1 b1 0 c1 Ls) (hG : Gr w W) => faces_all g hc hlen W hL (hl.gr hG))
  have HSi := hidb (fun W a1 b1 c1 (hL : LLd W a1 b1 0 c1 Ls) (hG : Gr w W) => sizes_all g hc hlen W hL (hl.gr hG))
  have HC := hidb (fun W (hG : Gr w W) => coded_ev g (mcd Ls) (mcd_le Ls) W (hl.gr hG))
  have hc2 : (0 : Int) < (mcd Ls : Int) := by omega
  generalize ev g (mcd Ls) = EV at *
  generalize (mcd Ls : Int) = c at *
  generalize Ls.length = N at *
  clear hN hlen hf hc hl hp h hpG
  go_enter Tryd.func3, Tryd.ntmps3
  go_wp2_with fail
  refine HM.out.mono ?_
  rintro e w1 ⟨rfl, hB⟩
  have E := hidb hB
  clear hB HM
  go_wp2_with fail
  refine (HF.out _ E.out).mono ?_
  rintro e w2 ⟨rfl, hB⟩
  replace E := hidb (Gr.step E.out hB.out)
  clear hB HF
  go_wp2_with fail
  refine (HE.out _ E.out).mono ?_
  rintro e w3 ⟨rfl, hB⟩
  replace E := hidb (Gr.step E.out hB.out)
  clear hB HE
  go_wp2_with fail
  refine (HD.out _ E.out).mono ?_
  rintro e w4 ⟨a1, b1, c1, rfl, hL, hB⟩
  replace E := hidb (Gr.step E.out hB.out)
  clear hB
  go_wp2_with fail
  refine (HV.out _ _ _ _ hL E.out).mono ?_
  rintro e w5 ⟨rfl, hB⟩
  replace E := hidb (Gr.step E.out hB.out)
  clear hB hL
  go_wp2_with fail
  refine (HC.out _ E.out).mono ?_
  rintro e w6 ⟨rfl, hB⟩
  replace E := hidb (Gr.step E.out hB.out)
  clear hB
  go_wp2_with fail
  refine (HD.out _ E.out).mono ?_
  rintro e w7 ⟨a2, b2, c2, rfl, hL, hB⟩
  replace E := hidb (Gr.step E.out hB.out)
  clear hB
  go_wp2_with fail
  refine (HFa.out _ _ _ _ hL E.out).mono ?_
  rintro e w8 ⟨rfl, hB⟩
  replace E := hidb (Gr.step E.out hB.out)
  clear hB hL
  go_wp2_with fail
  refine (HD.out _ E.out).mono ?_
  rintro e w9 ⟨a3, b3, c3, rfl, hL, hB⟩
  replace E := hidb (Gr.step E.out hB.out)
  clear hB
  go_wp2_with fail
  refine (HSi.out _ _ _ _ hL E.out).mono ?_
  rintro e w10 ⟨rfl, hB⟩
  replace E := hidb (Gr.step E.out hB.out)
  clear hB hL
  go_wp2_with (go_at_call 9; refine (HC.out _ E.out).mono ?_; rintro e w11 ⟨rfl, hB⟩; replace E := hidb (Gr.step E.out hB.out); clear hB)
  go_ret
  exact ⟨rfl, E.out⟩
end Go.Proofs.YtnadgoomkaldkaaDoor
namespace Go.Proofs.YtnadgoomkaldkaaDoor
open Go.RowKit
attribute [local go_sem ↓] Go.wp_at_zero Go.wp_at_succ

theorem few_ok {Ls : List (List Sp)} (hf : fewK Ls = true) (hc : mcd Ls = 0) : Ls.flatten.length ≤ 60 := by
  have h1 := of_decide_eq_true hf
  have h2 := (mcd_ok hc).2.1
  omega
set_option maxRecDepth 4000 in
set_option maxHeartbeats 16000000 in
theorem sfaces_ok (g : Nat → Addr) {pb po : Nat} {ad : Option Addr} {b o cap : Nat} {Ls : List (List Sp)} (hf : fewK Ls = true) (hc : mcd Ls = 0) (w : World) (hl : Laid w g) (hp : w.cell? ⟨pb, po, none⟩ = some (.slice ad Ls.length cap) ∧ pb < w.heap.size) (h : LLd w ad b o cap Ls) : Calls Tryd.prog 3 #[.pointer (some ⟨pb, po, none⟩)] w fun e w' => e = .returned (.bool true) ∧ Gr w w' := by
  have hF := few_ok hf hc
  have hM := OkM.of hc
  have hok := mcd_okL hc
  have hN := (mcd_ok hc).1
  have hpG : ∀ W, Gr w W → W.cell? ⟨pb, po, none⟩ = some (.slice ad Ls.length cap) ∧ pb < W.heap.size := fun W hG => ⟨(hG.out.cell (p := ⟨pb, po, none⟩) hp.2).trans hp.1, Nat.lt_of_lt_of_le hp.2 hG.out.size⟩
  have HM := hidb (mapped_any g w hl)
  have HF := hidb (fun W (hG : Gr w W) => fewArcs_any (by omega) (by omega) W (hpG W hG) (h.ll.below hG.out))
  rw [hf] at HF
  have HE := hidb (fun W (hG : Gr w W) => mapError_any (by omega) (by omega) W (hpG W hG) (h.ll.below hG.out))
  rw [hc] at HE
  have HD := hidb (fun W (hG : Gr w W) => drawn_any (by omega) (fun i hi => by have := len_le hi; omega) W (hpG W hG) (h.below hG.out))
  have HV := hidb (fun W a1 b1 c1 (hL : LLd W a1 b1 0 c1 Ls) (hG : Gr w W) => valid_all g (by omega) W hL (hl.gr hG))
  rw [hc, show ev g 0 = .nilIface from rfl] at HV
  have HFa := hidb (fun W a1 b1 c1 (hL : LLd W a1 b1 0 c1 Ls) (hG : Gr w W) => faces_ok g hc W hL (hl.gr hG))
  have HSi := hidb (fun W a1 b1 c1 (hL : LLd W a1 b1 0 c1 Ls) (hG : Gr w W) => sizes_ok g hc hF W hL (hl.gr hG))
  have HC := hidb (fun W (hG : Gr w W) => coded_ev g 0 (by omega) W (hl.gr hG))
  rw [show ev g 0 = .nilIface from rfl] at HC
  have HRo := hidb (fun W (hG : Gr w W) => roundsOf_any hM hok W (hpG W hG) (h.ll.below hG.out) (by omega) (fun i hi => by have := len_le hi; omega))
  have HRd : Hid ((∀ R ∈ roP Ls, RdR Ls R) ∧ (roP Ls).length ≤ 2 * Ls.length) := (roF_all hM (2 * Ls.length) (Nat.le_refl _)).2
  have HAr := hidb (fun R (hR : RdR Ls R) W (hG : Gr w W) a' b' o' c' (hS : ISl W a' b' o' c' (tdL R)) => area_any hc hF hR W (hpG W hG) (h.below hG.out) hS)
  have HSl := hidb (fun ad1 b1 o1 c1 ad2 b2 o2 c2 W (h1 : LIs W ad1 b1 o1 c1 (tdLL (roP Ls))) (h2 : LIs W ad2 b2 o2 c2 (tdLL (roP Ls))) => sameLists_eq (by have := HRd.out.2; simp; omega) (fun i hi => by
    have hi2 : i < (roP Ls).length := by simpa using hi
    have := (HRd.out.1 _ (List.getElem_mem hi2)).len
    simp [lI, hi2]; omega) W h1 h2)
  push_cast at HE HC
  obtain ⟨Q, hQ⟩ : ∃ Q, Q = roP Ls := ⟨_, rfl⟩
  rw [← hQ] at HFa HSi HRo HRd HSl
  obtain ⟨M, hMn⟩ : ∃ M, M = Q.length := ⟨_, rfl⟩
  have HMn := hidb hMn
  have hQL : (tdLL Q).length = M := by rw [hMn]; simp
  have HQL := hidb hQL
  rw [hQL] at HSl
  rw [← hMn] at HSi
  have HMb := hidb (show M ≤ 120 by have := HRd.out.2; omega)
  generalize Ls.length = N at *
  clear hN hf hc hl hp h hpG hF hM hok hQ hMn hQL
  go_enter Tryd.func3, Tryd.ntmps3
  go_wp2_with fail
  refine HM.out.mono ?_
  rintro e w1 ⟨rfl, hB⟩
  have E := hidb hB
  clear hB HM
  go_wp2_with fail
  refine (HF.out _ E.out).mono ?_
  rintro e w2 ⟨rfl, hB⟩
  replace E := hidb (Gr.step E.out hB.out)
  clear hB HF
  go_wp2_with fail
  refine (HE.out _ E.out).mono ?_
  rintro e w3 ⟨rfl, hB⟩
  replace E := hidb (Gr.step E.out hB.out)
  clear hB HE
  go_wp2_with fail
  refine (HD.out _ E.out).mono ?_
  rintro e w4 ⟨a1, b1, c1, rfl, hL, hB⟩
  replace E := hidb (Gr.step E.out hB.out)
  clear hB
  go_wp2_with fail
  refine (HV.out _ _ _ _ hL E.out).mono ?_
  rintro e w5 ⟨rfl, hB⟩
  replace E := hidb (Gr.step E.out hB.out)
  clear hB hL
  go_wp2_with fail
  refine (HC.out _ E.out).mono ?_
  rintro e w6 ⟨rfl, hB⟩
  replace E := hidb (Gr.step E.out hB.out)
  clear hB
  go_wp2_with fail
  refine (HD.out _ E.out).mono ?_
  rintro e w7 ⟨a2, b2, c2, rfl, hL, hB⟩
  replace E := hidb (Gr.step E.out hB.out)
  clear hB
  go_wp2_with fail
  refine (HFa.out _ _ _ _ hL E.out).mono ?_
  rintro e w8 ⟨base8, v8, vs8, rfl, hQ8, hB⟩
  replace E := hidb (Gr.step E.out hB.out)
  obtain ⟨ad8, b8, o8, cap8, rfl, HL8⟩ := hQ8.lisn HQL.out
  clear hB hL hQ8
  go_wp2_with fail
  refine (HD.out _ E.out).mono ?_
  rintro e w9 ⟨a3, b3, c3, rfl, hL, hB⟩
  replace E := hidb (Gr.step E.out hB.out)
  replace HL8 := hidb (HL8.out.below hB.out)
  clear hB
  go_wp2_with fail
  refine (HSi.out _ _ _ _ hL E.out).mono ?_
  rintro e w10 ⟨SO, rfl, hA, hB⟩
  have HA := hidb hA
  replace E := hidb (Gr.step E.out hB.out)
  replace HL8 := hidb (HL8.out.below hB.out)
  clear hB hL hA
  go_wp2_with fail
  refine (HRo.out _ E.out).mono ?_
  rintro e w11 ⟨base11, v11, vs11, rfl, hQ11, hB⟩
  replace E := hidb (Gr.step E.out hB.out)
  replace HA := hidb (At.below hB.out HA.out)
  replace HL8 := hidb (HL8.out.below hB.out)
  obtain ⟨ad11, b11, o11, cap11, rfl, HL11⟩ := hQ11.lisn HQL.out
  clear hB hQ11
  go_wp2_with fail
  refine (HSl.out _ _ _ _ _ _ _ _ _ HL8.out HL11.out).mono ?_
  rintro e w12 ⟨rfl, hB⟩
  replace E := hidb (Gr.step E.out hB.out)
  replace HA := hidb (At.below hB.out HA.out)
  replace HL11 := hidb (HL11.out.below hB.out)
  clear hB HL8 HSl HRo HSi HFa HV HD HC
  have HXr : Hid (∀ i, i < M → ∀ w, (Instr.indexAt 34 (.slice ad11 M cap11) (.int .i64 i)).run Tryd.prog w = .ok (.pointer (some ⟨b11, o11 + i, none⟩)) w) := by
    intro i hi w
    have := HL11.out.ix i (by rw [HQL.out]; exact hi) w
    rw [HQL.out] at this
    exact this
  go_wp2
  go_loopw [13] (fun t wr => ∃ i : Nat, i ≤ M ∧ t = .int .i64 (i : Int) ∧ Hid (Gr w12 wr)) (fun t _ => M - (intOf t).toNat)
  case atStart => exact ⟨0, Nat.zero_le _, rfl, hidb (Gr.refl _)⟩
  case round =>
    obtain ⟨i, hi, rfl, G⟩ := hrel
    by_cases h1 : ¬ i < M
    · have h1' : ¬ (i : Int) < (M : Int) := by omega
      have HG := hidb (Gr.step E.out G.out.out)
      clear h1
      go_wp2
      go_ret
      exact ⟨rfl, HG.out⟩
    · have h1' : (i : Int) < (M : Int) := by omega
      have H1 := hidb (show i < M by omega)
      have hiQ : i < Q.length := by rw [← HMn.out]; exact H1.out
      have e1 : IntKind.i64.wrap ((i : Int) + 1) = ((i + 1 : Nat) : Int) := by rw [show (i : Int) + 1 = ((i + 1 : Nat) : Int) by omega]; exact wr_in (by omega) (by have := HMb.out; omega)
      obtain ⟨⟨a', b', o', c', x0, hS⟩, xb⟩ := HL11.out.row i (by rw [HQL.out]; exact H1.out)
      have e : lI (tdLL Q) i = tdL Q[i] := by simp [lI, hiQ]
      rw [e] at x0 hS
      have hRd := HRd.out.1 Q[i] (List.getElem_mem hiQ)
      have hsz : i < (ir (Q.map (szW Ls))).length := by simpa [ir] using hiQ
      have y0 := (HA.out.1 i hsz).1
      rw [show (ir (Q.map (szW Ls)))[i]'hsz = .int .i64 (szW Ls Q[i]) by simp [ir]] at y0
      have yb := HA.out.2
      have HAc := hidb (fun W (hG : Gr w12 W) => HAr.out Q[i] hRd W (Gr.step E.out hG.out) a' b' o' c' (hS.below hG.out))
      have HK : Hid (∀ W, Gr w12 W → W.cell? ⟨SO, i, none⟩ = some (.int .i64 (szW Ls Q[i])) ∧ W.cell? ⟨b11, o11 + i, none⟩ = some (.slice a' (tdL Q[i]).length c')) := fun W hG => ⟨(hG.out.cell (p := ⟨SO, i, none⟩) yb).trans y0, (hG.out.cell (p := ⟨b11, o11 + i, none⟩) xb).trans x0⟩
      rw [show (tdL Q[i]).length = Q[i].length by simp] at HK
      generalize szW Ls Q[i] = sz at *
      generalize Q[i].length = rl at *
      have ixs := fun w => iindex SO 0 M M i H1.out w
      simp only [Nat.zero_add] at ixs
      have ixr := HXr.out i H1.out
      clear h1 hiQ e x0 hS hRd hsz y0 yb xb
      go_upto_region 18 with fail
      refine wp_region_held_drew (S := (fun w' => w'.cell? ⟨SO, i, none⟩ = some (.int .i64 sz) ∧ w'.cell? ⟨b11, o11 + i, none⟩ = some (.slice a' rl c'))) (by kernel_rfl) ?_ (fun hHeld => ?_)
      · (try dsimp only); exact HK.out _ G.out.drew
      replace G := hidb G.out.drew
      generalize wr.drew = V0 at *
      refine wt (i := 0) (v := ?vs18q0x4) rfl ?hs18q0x4 ?rs18q0x4
      case hs18q0x4 => (intro w hSw; (try dsimp only at hSw); obtain ⟨x1, x2⟩ := hSw; go_simp; try with_reducible rfl)
      (try simp only [Act.put, lq1, lq2, lq4, lq5, lq6])
      refine wt (i := 1) (v := ?vs18q1x7) rfl ?hs18q1x7 ?rs18q1x7
      case hs18q1x7 => (intro w hSw; (try dsimp only at hSw); obtain ⟨x1, x2⟩ := hSw; go_simp; try with_reducible rfl)
      (try simp only [Act.put, lq1, lq2, lq3, lq4, lq5, lq6])
      refine wt (i := 2) (v := ?vs18q2x10) rfl ?hs18q2x10 ?rs18q2x10
      case hs18q2x10 => (intro w hSw; (try dsimp only at hSw); obtain ⟨x1, x2⟩ := hSw; go_simp; try with_reducible rfl)
      (try simp only [Act.put, lq1, lq2, lq3, lq4, lq5, lq6])
      refine wt (i := 3) (v := ?vs18q3x13) rfl ?hs18q3x13 ?rs18q3x13
      case hs18q3x13 => (intro w hSw; (try dsimp only at hSw); obtain ⟨x1, x2⟩ := hSw; go_simp; try with_reducible rfl)
      (try simp only [Act.put, lq1, lq2, lq3, lq4, lq5, lq6])
      refine wt (i := 4) (v := ?vs18q4x16) rfl ?hs18q4x16 ?rs18q4x16
      case hs18q4x16 => (intro w hSw; (try dsimp only at hSw); obtain ⟨x1, x2⟩ := hSw; go_simp; try with_reducible rfl)
      (try simp only [Act.put, lq1, lq2, lq3, lq4, lq5, lq6])
      refine wt (i := 5) (v := ?vs18q5x19) rfl ?hs18q5x19 ?rs18q5x19
      case hs18q5x19 => (intro w hSw; (try dsimp only at hSw); obtain ⟨x1, x2⟩ := hSw; go_simp; try with_reducible rfl)
      (try simp only [Act.put, lq1, lq2, lq3, lq4, lq5, lq6])
      refine wt (i := 6) (v := ?vs18q6x22) rfl ?hs18q6x22 ?rs18q6x22
      case hs18q6x22 => (intro w hSw; (try dsimp only at hSw); obtain ⟨x1, x2⟩ := hSw; go_simp; try with_reducible rfl)
      (try simp only [Act.put, lq1, lq2, lq3, lq4, lq5, lq6])
      refine wt (i := 7) (v := ?vs18q7x25) rfl ?hs18q7x25 ?rs18q7x25
      case hs18q7x25 => (intro w hSw; (try dsimp only at hSw); obtain ⟨x1, x2⟩ := hSw; go_simp; try with_reducible rfl)
      (try simp only [Act.put, lq1, lq2, lq3, lq4, lq5, lq6])
      refine wt (i := 8) (v := ?vs18q8x28) rfl ?hs18q8x28 ?rs18q8x28
      case hs18q8x28 => (intro w hSw; (try dsimp only at hSw); obtain ⟨x1, x2⟩ := hSw; go_simp; try with_reducible rfl)
      (try simp only [Act.put, lq1, lq2, lq3, lq4, lq5, lq6])
      refine wpAnyH_ready (rs := [9]) (by kernel_rfl) (by simp) ?_
      refine AllReadyH.cons rfl (fun K hK => ?_) AllReadyH.nil
      go_simp
      go_wp2_with (go_at_call 17; refine (HAc.out _ G.out).mono ?_; rintro e V1 ⟨v1, rfl, hPs, hB⟩)
      refine hK.out _ _ ?_ (fun hHeld => ?_)
      · (try dsimp only); exact HK.out _ (Gr.step G.out hB.out)
      clear hK K
      replace G := hidb (Gr.step G.out hB.out)
      clear hB
      refine wpAnyH_ready (rs := [10]) (by kernel_rfl) (by simp) ?_
      refine AllReadyH.cons rfl (fun K hK => ?_) AllReadyH.nil
      go_simp
      go_wp2_with (go_at_call 16; refine (hPs.out _ (Gr.refl _)).mono ?_; rintro e V2 ⟨rfl, hB⟩)
      refine hK.out _ _ ?_ (fun hHeld => ?_)
      · (try dsimp only); exact HK.out _ (Gr.step G.out hB.out)
      clear hK K
      replace G := hidb (Gr.step G.out hB.out)
      clear hB hPs
      refine wt (i := 11) (v := ?vs18q11x49) rfl ?hs18q11x49 ?rs18q11x49
      case hs18q11x49 => (intro w hSw; (try dsimp only at hSw); obtain ⟨x1, x2⟩ := hSw; go_simp; try with_reducible rfl)
      (try simp only [Act.put, lq1, lq2, lq3, lq4, lq5, lq6])
      refine wpAnyH_done (by kernel_rfl) ?_ _
      go_wp2_with fail
      go_roundw
      case rel => exact ⟨i + 1, H1.out, by go_num, G⟩
      case measure => have := H1.out; simp [intOf]; omega
end Go.Proofs.YtnadgoomkaldkaaDoor
