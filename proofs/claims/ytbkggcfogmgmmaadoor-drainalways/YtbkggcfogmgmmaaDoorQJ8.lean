/-
  DrainAlways: what it adds up; the ways in which little is looked at.; DrainFloods, where the raster is right.
-/
import Derived.Test.YtbkggcfogmgmmaaDoorQJ6
import Derived.Test.YtbkggcfogmgmmaaDoorQJ7
import Derived.Test.YtbkggcfogmgmmaaDoorQDrT
import Derived.Deep.DrawnRows
namespace Go.Proofs.YtbkggcfogmgmmaaDoor
open Go.RowKit
attribute [local go_sem ↓] Go.wp_at_zero Go.wp_at_succ

theorem smF_swap (f : Nat → Nat → Int) (N : Nat) : ∀ M, smF (fun c => smF (fun i => f i c) N) M = smF (fun i => smF (fun c => f i c) M) N
  | 0 => (smF_zero N).symm
  | M + 1 => by
    show smF (fun c => smF (fun i => f i c) N) M + smF (fun i => f i M) N = smF (fun i => smF (fun c => f i c) M + f i M) N
    rw [smF_swap f N M, smF_add]
theorem smF_mul (a : Int) (f : Nat → Int) : ∀ k, smF (fun c => a * f c) k = a * smF f k
  | 0 => by simp [smF]
  | k + 1 => by unfold smF; rw [smF_mul a f k, Int.mul_add]
section
variable {m n : Nat} {l : List Int} (ok : Ok l m n) (r : Nat → Int)
include ok
/-- All the rain comes to the rim. -/
theorem rain_kept : smF (fun c => if rim m n c then gaV m n l r c else 0) l.length = smF r l.length := by
  have e1 : smF (fun c => if rim m n c then gaV m n l r c else 0) l.length = smF (fun c => smF (fun i => r i * (if rim m n c then cW m n l i c else 0)) l.length) l.length :=
    smF_congr (fun c _ => by
      by_cases hr : rim m n c
      · simp only [if_pos hr]; rfl
      · simp only [if_neg hr, Int.mul_zero]; exact (smF_zero _).symm)
  rw [e1, smF_swap (fun i c => r i * (if rim m n c then cW m n l i c else 0))]
  refine smF_congr (fun i hi => ?_)
  obtain ⟨p, hp, rfl⟩ := oc_all m n l ok.m1 ok.len hi
  rw [smF_mul, cW_rim m n l ok.m1 ok.len p hp, Int.mul_one]
end
/-- What is left of the rain when the first i have been looked at. -/
def lft (m n : Nat) (l r : List Int) (i : Nat) : Int := smF (gl r) l.length - smF (fun c => if rim m n c then gaV m n l (gl r) c else 0) i
theorem lft_0 (m n : Nat) (l r : List Int) : lft m n l r 0 = smF (gl r) l.length := by unfold lft; simp [smF]
theorem lft_rim {m n : Nat} {l r : List Int} {i : Nat} (h : rim m n i) : lft m n l r (i + 1) = lft m n l r i - gaV m n l (gl r) i := by
  unfold lft
  rw [show smF (fun c => if rim m n c then gaV m n l (gl r) c else 0) (i + 1) = smF (fun c => if rim m n c then gaV m n l (gl r) c else 0) i + (if rim m n i then gaV m n l (gl r) i else 0) from rfl, if_pos h]
  omega
theorem lft_not {m n : Nat} {l r : List Int} {i : Nat} (h : ¬ rim m n i) : lft m n l r (i + 1) = lft m n l r i := by
  unfold lft
  rw [show smF (fun c => if rim m n c then gaV m n l (gl r) c else 0) (i + 1) = smF (fun c => if rim m n c then gaV m n l (gl r) c else 0) i + (if rim m n i then gaV m n l (gl r) i else 0) from rfl, if_neg h]
  omega
theorem lft_end {m n : Nat} {l r : List Int} (ok : Ok l m n) : lft m n l r l.length = 0 := by unfold lft; rw [rain_kept ok]; omega
theorem gaV_bd {m n : Nat} {l r : List Int} (ok : Ok l m n) (hr : ∀ i, i < l.length → rainI (gl r i)) (c : Nat) : 0 ≤ gaV m n l (gl r) c ∧ gaV m n l (gl r) c ≤ 281474976710656 := gaI_bd ok hr (Nat.le_refl _) c
theorem lft_bd {m n : Nat} {l r : List Int} (ok : Ok l m n) (hr : ∀ i, i < l.length → rainI (gl r i)) {i : Nat} (hi : i ≤ l.length) : -4611686018427387904 ≤ lft m n l r i ∧ lft m n l r i ≤ 4611686018427387904 := by
  have hlen := ok.len_le
  have h1 : 0 ≤ smF (gl r) l.length := smF_nonneg (fun j hj => (hr j hj).1)
  have h2 : smF (gl r) l.length ≤ (l.length : Int) * 1048576 := smF_le (fun j hj => (hr j hj).2)
  have h3 : 0 ≤ smF (fun c => if rim m n c then gaV m n l (gl r) c else 0) i := smF_nonneg (fun j _ => by
    by_cases c : rim m n j
    · simp only [if_pos c]; exact (gaV_bd ok hr j).1
    · simp only [if_neg c]; exact Int.le_refl _)
  have h4 : smF (fun c => if rim m n c then gaV m n l (gl r) c else 0) i ≤ (i : Int) * 281474976710656 := smF_le (fun j _ => by
    by_cases c : rim m n j
    · simp only [if_pos c]; exact (gaV_bd ok hr j).2
    · simp only [if_neg c]; decide)
  unfold lft
  have h5 : (l.length : Int) * 1048576 ≤ 16384 * 1048576 := Int.mul_le_mul_of_nonneg_right (by omega) (by decide)
  have h6 : (i : Int) * 281474976710656 ≤ 16384 * 281474976710656 := Int.mul_le_mul_of_nonneg_right (by omega) (by decide)
  omega
theorem fih_gl {m n : Nat} {l : List Int} {c : Nat} (hc : c < l.length) : gl (fiL m n l) c = fih m n l c := by unfold fiL; rw [gl_map hc]; rfl
theorem tw_tch {m n : Nat} {l : List Int} (ok : Ok l m n) {c : Nat} (hc : c < l.length) (h : ¬ tw m n l c = c) : tch m c (tw m n l c) :=
  ((flo_tw m n l ok.m1 ok.len l.length c (by rw [flo_all m n l ok.m1 ok.len c hc]; omega)).resolve_left h).1
theorem itw_lt {m n : Nat} {l : List Int} (ok : Ok l m n) {c : Nat} (hc : c < l.length) : ∀ k, itw m n l k c < l.length
  | 0 => hc
  | k + 1 => by rw [itw_succ]; exact tw_lt m n l ok.m1 ok.len (itw_lt ok hc k)
theorem fih_bd {m n : Nat} {l : List Int} (ok : Ok l m n) {c : Nat} (hc : c < l.length) : -1048577 ≤ fih m n l c := by
  have h1 := fih_ge m n l ok.m1 ok.len hc
  have h2 := ok.hi c
  unfold hiI at h2
  omega
theorem pth_gl {m n : Nat} {l : List Int} {c k j : Nat} (hj : j < k + 1) : gl (on (pth m n l c k)) j = (itw m n l j c : Int) := by
  rw [← gl_get (by rw [List.length_map, pth_len]; exact hj)]
  simp [on, pth]
set_option maxRecDepth 4000 in
set_option maxHeartbeats 4000000 in
theorem always_no (g : Nat → Addr) (u v : Value) (w : World) (hl : Lai w g) (h1 : ∀ W, Gr w W → Calls Tryd.prog 10 #[u] W fun e w' => e = .returned (.bool false) ∧ w' = W) : Calls Tryd.prog 6 #[u, v] w fun e w' => e = .returned (.bool true) ∧ Gr w w' := by
  have CR := hidb (drains_any g w hl)
  have S1 := hidb h1
  clear hl h1
  go_enter Tryd.func6, Tryd.ntmps6
  go_wp2_with fail
  refine CR.out.mono ?_
  rintro e w1 ⟨rfl, hB⟩
  have G := hidb hB
  clear hB
  go_wp2_with fail
  refine (S1.out _ G.out).mono ?_
  rintro e w2 ⟨rfl, rfl⟩
  go_wp2
  go_ret
  exact ⟨rfl, G.out⟩
set_option maxRecDepth 4000 in
set_option maxHeartbeats 4000000 in
theorem always_A (g : Nat → Addr) {pb po : Nat} {W H : Int} {ad : Option Addr} {b o cap : Nat} {l : List Int} (ra : Option Addr) (M rcap : Nat) (w : World) (hl : Lai w g) (hR : Rin w pb po W H ad b o cap l) (ll : l.length ≤ 80) (hv : ¬ (vcode W H l = 0 ∧ M = l.length)) : Calls Tryd.prog 6 #[.pointer (some ⟨pb, po, none⟩), .slice ra M rcap] w fun e w' => e = .returned (.bool true) ∧ Gr w w' := by
  have CR := hidb (drains_any g w hl)
  have S1 := hidb (fun W1 (hG : Gr w W1) => small4_any pb po W H ad l.length cap W1 (hR.below hG).pt)
  rw [decide_eq_true ll] at S1
  have CW := hidb (fun W1 (hG : Gr w W1) => rasterError_any pb po W H ad b o cap l W1 (hR.below hG).pt (hR.below hG).sl (by omega))
  have HR := hidb hR
  obtain ⟨vc, hvc⟩ : ∃ z : Int, z = (vcode W H l : Int) := ⟨_, rfl⟩
  rw [← hvc] at CW
  obtain ⟨N, hN⟩ : ∃ N, N = l.length := ⟨_, rfl⟩
  have HN := hidb hN
  have hv2 : 0 < vc ∨ (vc = 0 ∧ ¬ (M : Int) = (N : Int)) := by
    by_cases c : vcode W H l = 0
    · exact .inr ⟨by omega, fun h => hv ⟨c, by omega⟩⟩
    · exact .inl (by omega)
  clear hl hR ll hv hvc hN
  rcases hv2 with h1 | ⟨rfl, h1⟩
  all_goals
    go_enter Tryd.func6, Tryd.ntmps6
    go_wp2_with fail
    refine CR.out.mono ?_
    rintro e w1 ⟨rfl, hB⟩
    have G := hidb hB
    clear hB
    go_wp2_with fail
    refine (S1.out _ G.out).mono ?_
    rintro e w2 ⟨rfl, rfl⟩
    go_wp2_with fail
    refine (CW.out _ G.out).mono ?_
    rintro e w7 ⟨rfl, hB7⟩
    replace G := hidb (Gr.step G.out hB7.out)
    clear hB7
    obtain ⟨p0, p1, p2⟩ := (HR.out.below G.out).pt.all
    rw [← HN.out] at p2
    go_wp2
    go_ret
    exact ⟨rfl, G.out⟩
end Go.Proofs.YtbkggcfogmgmmaaDoor
namespace Go.Proofs.YtbkggcfogmgmmaaDoor
open Go.RowKit
attribute [local go_sem ↓] Go.wp_at_zero Go.wp_at_succ

theorem at_isl {w : World} {B : Nat} {L : List Int} (cap : Nat) (h : At w B (ir L)) : ISl w (some ⟨B, 0, none⟩) B 0 cap L := ISl.mk' (fun i hi => by rw [Nat.zero_add]; exact (h.get hi).1) h.lt
/-- Three cells, kept since w. -/
structure C3w (w W : World) (F T O k : Nat) (x y z : Value) : Prop where
  c : w.cell? ⟨F, k, none⟩ = some x ∧ w.cell? ⟨T, 1, none⟩ = some y ∧ w.cell? ⟨O, k, none⟩ = some z
  l : F < w.heap.size ∧ T < w.heap.size ∧ O < w.heap.size
  gr : Gr w W
theorem C3w.out {w W : World} {F T O k : Nat} {x y z : Value} (h : C3w w W F T O k x y z) : W.cell? ⟨F, k, none⟩ = some x ∧ W.cell? ⟨T, 1, none⟩ = some y ∧ W.cell? ⟨O, k, none⟩ = some z :=
  ⟨(h.gr.out.cell (p := ⟨F, k, none⟩) h.l.1).trans h.c.1, (h.gr.out.cell (p := ⟨T, 1, none⟩) h.l.2.1).trans h.c.2.1, (h.gr.out.cell (p := ⟨O, k, none⟩) h.l.2.2).trans h.c.2.2⟩
theorem C3w.drew {w W : World} {F T O k : Nat} {x y z : Value} (h : C3w w W F T O k x y z) : C3w w W.drew F T O k x y z := ⟨h.c, h.l, h.gr.drew⟩
theorem C3w.below {w W w' : World} {F T O k : Nat} {x y z : Value} (h : C3w w W F T O k x y z) (hB : Below W.heap.size W w') : C3w w w' F T O k x y z := ⟨h.c, h.l, Gr.step h.gr hB⟩
set_option maxRecDepth 4000 in
set_option maxHeartbeats 16000000 in
theorem floods_B (g : Nat → Addr) {m n pb po b o cap : Nat} {l : List Int} (w : World) (hl : Laid w g) (ra : Rin w pb po m n (some ⟨b, o, none⟩) b o cap l) (hr : Rs w b o cap l) (ok : Ok l m n) (ll : l.length ≤ 80) (hv : vcode m n l = 0) : Calls Tryd.prog 3 #[.pointer (some ⟨pb, po, none⟩)] w fun e w' => e = .returned (.bool true) ∧ Gr w w' := by
  have CR := hidb (drains_any g w hl.lai)
  have S1 := hidb (fun W1 (hG : Gr w W1) => small4_any pb po m n (some ⟨b, o, none⟩) l.length cap W1 (ra.below hG).pt)
  rw [decide_eq_true ll] at S1
  have C1 := hidb (fun W1 (hG : Gr w W1) => fill_ok g W1 (hr.below hG.out) ok hv (hl.below hG.out).lai)
  have C2 := hidb (fun W1 (hG : Gr w W1) => flow_ok g W1 (hr.below hG.out) ok hv (hl.below hG.out).lai)
  have C3 := hidb (fun W1 (hG : Gr w W1) => order_ok g W1 (hr.below hG.out) ok hv (hl.below hG.out).lai)
  have CW := hidb (fun W1 (hG : Gr w W1) => rasterError_any pb po m n (some ⟨b, o, none⟩) b o cap l W1 (ra.below hG).pt (ra.below hG).sl (by omega))
  rw [hv] at CW
  have CF := hidb (fun W1 (hG : Gr w W1) => floodOf_any W1 (ra.below hG).pt (hr.below hG.out) ok)
  have HR := hidb ra
  have HL := hidb (show l.length ≤ 80 from ll)
  have HOk := hidb ok
  have HOl : Hid ((on (flo m n l l.length).ord).length = l.length) := by
    show _ = _
    rw [List.length_map]
    exact (flo_inv m n l ok.m1 ok.len l.length (Nat.le_refl _)).2
  obtain ⟨N, hN⟩ : ∃ N, N = l.length := ⟨_, rfl⟩
  have HN := hidb hN
  have HR' := HR.out.pt
  rw [← hN] at C1 C2 C3 CF HOl HL
  clear hl ra hr ok ll hv hN HR'
  go_enter Tryd.func3, Tryd.ntmps3
  go_wp2_with fail
  refine CR.out.mono ?_
  rintro e w1 ⟨rfl, hB⟩
  have G := hidb hB
  clear hB
  go_wp2_with fail
  refine (S1.out _ G.out).mono ?_
  rintro e w2 ⟨rfl, rfl⟩
  obtain ⟨p0, p1, p2⟩ := (HR.out.below G.out).pt.all
  rw [← HN.out] at p2
  go_wp2_with fail
  refine (C1.out _ G.out).mono ?_
  rintro e w3 ⟨LV, rfl, hLV, -, hB3⟩
  have ALV := hidb hLV
  replace G := hidb (Gr.step G.out hB3.out)
  clear hB3 p0 p1 p2 hLV
  have A5 := hidb (At.new3 w3 (.int .i64 (m : Int)) (.int .i64 (n : Int)) (.slice (some ⟨LV, 0, none⟩) N N) 27)
  replace G := hidb (G.out.alloc (.cells #[.int .i64 (m : Int), .int .i64 (n : Int), .slice (some ⟨LV, 0, none⟩) N N] 27))
  replace ALV := hidb (ALV.out.alloc (.cells #[.int .i64 (m : Int), .int .i64 (n : Int), .slice (some ⟨LV, 0, none⟩) N N] 27))
  obtain ⟨T5, hT5⟩ : ∃ z, z = w3.heap.size := ⟨_, rfl⟩
  go_upto_region 6 with fail
  rw [← hT5] at A5 ⊢
  generalize w3.alloc (.cells #[.int .i64 (m : Int), .int .i64 (n : Int), .slice (some ⟨LV, 0, none⟩) N N] 27) = w4 at *
  clear hT5
  obtain ⟨p0, p1, p2⟩ := (HR.out.below G.out).pt.all
  rw [← HN.out] at p2
  go_wp2_with fail
  refine (C2.out _ G.out).mono ?_
  rintro e w5 ⟨FL, rfl, hFL, -, hB5⟩
  replace G := hidb (Gr.step G.out hB5.out)
  replace ALV := hidb (At.below hB5.out ALV.out)
  replace A5 := hidb (At.below hB5.out A5.out)
  have AFL := hidb hFL
  clear hB5 p0 p1 p2 hFL
  obtain ⟨p0, p1, p2⟩ := (HR.out.below G.out).pt.all
  rw [← HN.out] at p2
  go_wp2_with fail
  refine (C3.out _ G.out).mono ?_
  rintro e w6 ⟨bs, vo, rfl, hvo, -, hB6⟩
  obtain ⟨ad1, b1, cap1, rfl, hO1⟩ := own_isl2 hvo
  rw [HOl.out]
  replace G := hidb (Gr.step G.out hB6.out)
  replace ALV := hidb (At.below hB6.out ALV.out)
  replace A5 := hidb (At.below hB6.out A5.out)
  replace AFL := hidb (At.below hB6.out AFL.out)
  have IO1 := hidb hO1
  clear hB6 p0 p1 p2 hO1 hvo
  go_wp2_with fail
  refine (CW.out _ G.out).mono ?_
  rintro e w7 ⟨rfl, hB7⟩
  replace G := hidb (Gr.step G.out hB7.out)
  replace ALV := hidb (At.below hB7.out ALV.out)
  replace A5 := hidb (At.below hB7.out A5.out)
  replace AFL := hidb (At.below hB7.out AFL.out)
  replace IO1 := hidb (IO1.out.below hB7.out)
  clear hB7
  go_wp2_with fail
  refine (CF.out _ G.out).mono ?_
  rintro e w8 ⟨FI, TO, bs2, vo2, Lf, Lt, Ls, rfl, hFI, hTO, hvo2, -, hRs, hB8⟩
  obtain ⟨ad2, b2, cap2, rfl, hO2⟩ := own_isl2 hvo2
  rw [HOl.out]
  replace G := hidb (Gr.step G.out hB8.out)
  replace ALV := hidb (At.below hB8.out ALV.out)
  replace A5 := hidb (At.below hB8.out A5.out)
  replace AFL := hidb (At.below hB8.out AFL.out)
  replace IO1 := hidb (IO1.out.below hB8.out)
  have AFI := hidb hFI
  have ATO := hidb hTO
  have IO2 := hidb hO2
  have HRs := hidb hRs
  clear hB8 hFI hTO hO2 hvo2 hRs
  have A12 := hidb (At.new3 w8 (.slice (some ⟨FI, 0, none⟩) N N) (.slice (some ⟨TO, 0, none⟩) N N) (.slice ad2 N cap2) 37)
  have hal := (Below.refl w8.heap.size w8).alloc (Nat.le_refl _) (.cells #[.slice (some ⟨FI, 0, none⟩) N N, .slice (some ⟨TO, 0, none⟩) N N, .slice ad2 N cap2] 37)
  replace G := hidb (Gr.step G.out hal)
  replace ALV := hidb (At.below hal ALV.out)
  replace A5 := hidb (At.below hal A5.out)
  replace AFL := hidb (At.below hal AFL.out)
  replace IO1 := hidb (IO1.out.below hal)
  replace AFI := hidb (At.below hal AFI.out)
  replace ATO := hidb (At.below hal ATO.out)
  replace IO2 := hidb (IO2.out.below hal)
  clear hal
  obtain ⟨T12, hT12⟩ : ∃ z, z = w8.heap.size := ⟨_, rfl⟩
  go_upto_region 12 with fail
  rw [← hT12] at A12 ⊢
  generalize w8.alloc (.cells #[.slice (some ⟨FI, 0, none⟩) N N, .slice (some ⟨TO, 0, none⟩) N N, .slice ad2 N cap2] 37) = w9 at *
  clear hT12
  obtain ⟨-, -, a2⟩ := A5.out.c3
  obtain ⟨t0, -, -⟩ := A12.out.c3
  have HLf : Hid (Lf = fiL m n l) := by
    have := list_gl HRs.out.ll.1 HRs.out.f
    show _ = _
    unfold fiL
    rw [← HN.out] at this ⊢
    exact this
  rw [HLf.out] at AFI
  have HSa := hidb (sameInts_eq (l := fiL m n l) (by rw [fiL_len]; have := HL.out; have := HN.out; omega) w9 (at_isl N ALV.out) (at_isl N AFI.out))
  rw [fiL_len, ← HN.out] at HSa
  go_wp2_with fail
  refine HSa.out.mono ?_
  rintro e w10 ⟨rfl, hB10⟩
  clear a2 t0
  replace G := hidb (Gr.step G.out hB10.out)
  replace ALV := hidb (At.below hB10.out ALV.out)
  replace A5 := hidb (At.below hB10.out A5.out)
  replace AFL := hidb (At.below hB10.out AFL.out)
  replace IO1 := hidb (IO1.out.below hB10.out)
  replace AFI := hidb (At.below hB10.out AFI.out)
  replace ATO := hidb (At.below hB10.out ATO.out)
  replace IO2 := hidb (IO2.out.below hB10.out)
  replace A12 := hidb (At.below hB10.out A12.out)
  clear hB10
  obtain ⟨-, -, t2⟩ := A12.out.c3
  have HSb := hidb (sameInts_eq (l := on (flo m n l N).ord) (by rw [HOl.out]; have := HL.out; omega) w10 IO1.out IO2.out)
  rw [HOl.out] at HSb
  go_wp2_with fail
  refine HSb.out.mono ?_
  rintro e w11 ⟨rfl, hB11⟩
  clear t2
  replace G := hidb (Gr.step G.out hB11.out)
  replace ALV := hidb (At.below hB11.out ALV.out)
  replace A5 := hidb (At.below hB11.out A5.out)
  replace AFL := hidb (At.below hB11.out AFL.out)
  replace IO1 := hidb (IO1.out.below hB11.out)
  replace AFI := hidb (At.below hB11.out AFI.out)
  replace ATO := hidb (At.below hB11.out ATO.out)
  replace IO2 := hidb (IO2.out.below hB11.out)
  replace A12 := hidb (At.below hB11.out A12.out)
  clear hB11
  obtain ⟨a0, -, -⟩ := A5.out.c3
  obtain ⟨p0, p1, p2⟩ := (HR.out.below G.out).pt.all
  rw [← HN.out] at p2
  go_upto_region 14 with fail
  go_quiet (fail)
  go_wp2
  clear a0 p0 p1 p2
  go_loopw [15] (fun t wr => ∃ k : Nat, k ≤ N ∧ t = .int .i64 (k : Int) ∧ Hid (Gr w11 wr)) (fun t _ => N - (intOf t).toNat)
  case atStart => exact ⟨0, Nat.zero_le _, rfl, by first | exact hidb (Gr.refl w11) | exact hidb ((Gr.refl w11).drewN _)⟩
  case round =>
    obtain ⟨k, hk, rfl, G1⟩ := hrel
    by_cases h1 : k < N
    · have h1' : (k : Int) < (N : Int) := by omega
      have hkl : k < l.length := by rw [← HN.out]; exact h1
      have e1 : IntKind.i64.wrap ((k : Int) + 1) = ((k + 1 : Nat) : Int) := by rw [show (k : Int) + 1 = ((k + 1 : Nat) : Int) by omega]; exact wrap_in (by have := HL.out; omega) (by have := HL.out; omega)
      have hs : (flo m n l l.length).st k = 2 := flo_all m n l HOk.out.m1 HOk.out.len k hkl
      have hs0 : (flo m n l l.length).st k ≠ 0 := by omega
      have htw := flo_tw m n l HOk.out.m1 HOk.out.len l.length k hs0
      have hlen := HOk.out.len_le
      have HW := hidb (fun W (hG : Gr w W) => wayOf_any k ((flo m n l l.length).tw k) HOk.out.m1 (by omega) (by omega) (htw.imp Eq.symm And.left) W (HR.out.below hG).pt)
      obtain ⟨cF, -⟩ := AFL.out.get (j := k) (by rw [flL_len]; exact hkl)
      rw [gl_get (by rw [flL_len]; exact hkl)] at cF
      have eF : gl (flL m n l) k = (wyD m k ((flo m n l l.length).tw k) : Int) := by
        unfold flL
        rw [gl_map hkl]
        unfold flV
        rw [if_neg hs0]
      rw [eF] at cF
      obtain ⟨cT, -⟩ := ATO.out.get (j := k) (by rw [HRs.out.ll.2.1]; exact hkl)
      rw [gl_get (by rw [HRs.out.ll.2.1]; exact hkl), HRs.out.t k hkl] at cT
      have eT : twV (flo m n l N) k = ((flo m n l l.length).tw k : Int) := by
        rw [HN.out]
        unfold twV
        rw [if_neg hs0]
      rw [eT] at cT
      have HCl := hidb (show (w11.cell? ⟨FL, k, none⟩ = some (.int .i64 (wyD m k ((flo m n l l.length).tw k) : Int)) ∧ w11.cell? ⟨T12, 1, none⟩ = some (.slice (some ⟨TO, 0, none⟩) N N) ∧ w11.cell? ⟨TO, k, none⟩ = some (.int .i64 ((flo m n l l.length).tw k : Int))) ∧ FL < w11.heap.size ∧ T12 < w11.heap.size ∧ TO < w11.heap.size from ⟨⟨cF, A12.out.c3.2.1, cT⟩, AFL.out.lt, A12.out.lt, ATO.out.lt⟩)
      generalize wyD m k ((flo m n l l.length).tw k) = wy at *
      generalize ((flo m n l l.length).tw k : Int) = tw at *
      generalize (wy : Int) = wI at *
      have ixF := iindex FL 0 N N k h1
      have ixT := iindex TO 0 N N k h1
      rw [Nat.zero_add] at ixF ixT
      have PX : C3w w11 wr FL T12 TO k (.int .i64 wI) (.slice (some ⟨TO, 0, none⟩) N N) (.int .i64 tw) := ⟨HCl.out.1, HCl.out.2, G1.out⟩
      clear hkl hs hs0 htw hlen cF eF cT eT HCl h1
      go_upto_region 19 with fail
      go_region_held (fun w' => w'.cell? ⟨FL, k, none⟩ = some (.int .i64 wI) ∧ w'.cell? ⟨T12, 1, none⟩ = some (.slice (some ⟨TO, 0, none⟩) N N) ∧ w'.cell? ⟨TO, k, none⟩ = some (.int .i64 tw))
        (with_reducible first | exact PX.out | exact PX.drew.out)
        ((go_at_call 18; (with_reducible first | refine (HW.out _ (Gr.step G.out PX.gr.out)).mono ?_ | refine (HW.out _ (Gr.step G.out PX.drew.gr.out)).mono ?_); rintro e w12 ⟨rfl, hB12⟩; (with_reducible first | replace PX := PX.below hB12.out | replace PX := PX.drew.below hB12.out)))
      all_goals
        have HPX := hidb PX.gr
        clear PX
        go_wp2
        go_roundw
      all_goals first
        | (case rel => exact ⟨k + 1, by omega, by go_num, by with_reducible first | exact HPX | exact hidb HPX.out.drew⟩)
        | (case measure => simp [intOf]; omega)
    · have h1' : ¬ (k : Int) < (N : Int) := by omega
      go_wp2
      go_ret
      exact ⟨rfl, Gr.step G.out G1.out.out⟩
end Go.Proofs.YtbkggcfogmgmmaaDoor
