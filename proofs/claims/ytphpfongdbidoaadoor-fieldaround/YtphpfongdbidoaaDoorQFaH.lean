/-
  FieldAround.
-/
import Derived.Test.YtphpfongdbidoaaDoorQFaG
import Derived.Test.YtphpfongdbidoaaDoorQFaD
import Derived.Test.YtphpfongdbidoaaDoorQFdI
import Derived.Test.YtphpfongdbidoaaDoorQRb
namespace Go.Proofs.YtphpfongdbidoaaDoor
open Go.RowKit
attribute [local go_sem ↓] Go.wp_at_zero Go.wp_at_succ

theorem hcode_le (W H : Int) (l : List Int) (n : Int) : hcode W H l n ≤ 8 := by
  have := vcode_lt W H l
  unfold hcode
  split
  · split <;> omega
  · omega
theorem ok_vcode {m n : Nat} {l : List Int} (ok : Ok l m n) : vcode m n l = 0 := by
  have h1 := ok.m1
  have h2 := ok.m2
  have h3 := ok.n1
  have h4 := ok.n2
  unfold vcode
  rw [if_neg (by omega), if_neg ?_, if_pos ?_]
  · intro x hx
    obtain ⟨i, hi, rfl⟩ := List.getElem_of_mem hx
    rw [gl_get hi]
    exact ok.hi i
  · rintro (h | h)
    · omega
    · exact h (by rw [ok.len, Int.natCast_mul])
theorem hcode_ok {m n r : Nat} {l : List Int} (hv : vcode m n l = 0) (hr : r ≤ 128) : hcode m n l r = 0 := by
  unfold hcode
  rw [if_pos hv, if_pos ?_]
  unfold inI
  simp
  omega
/-- Three rasters that the law has made. -/
structure ThF (w W : World) (C D E : Nat) (kc kd ke : List Value) : Prop where
  c0 : At W C kc
  d0 : At W D kd
  e0 : At W E ke
  gr : Gr w W
theorem ThF.below {w W w' : World} {C D E : Nat} {kc kd ke : List Value} (h : ThF w W C D E kc kd ke) (hB : Below W.heap.size W w') : ThF w w' C D E kc kd ke := ⟨h.c0.below hB, h.d0.below hB, h.e0.below hB, Gr.step h.gr hB⟩
theorem ThF.drew {w W : World} {C D E : Nat} {kc kd ke : List Value} (h : ThF w W C D E kc kd ke) : ThF w W.drew C D E kc kd ke := ⟨h.c0, h.d0, h.e0, h.gr.drew⟩
set_option maxRecDepth 4000 in
set_option maxHeartbeats 16000000 in
theorem around_A (g : Nat → Addr) (n : Int) {pb po : Nat} {W H : Int} {ad : Option Addr} {b o cap : Nat} {l : List Int} (w : World) (hl : Laid w g) (ra : Rin w pb po W H ad b o cap l) (ll : l.length ≤ 200) (hc : ¬ hcode W H l n = 0) : Calls Tryd.prog 3 #[.pointer (some ⟨pb, po, none⟩), .int .i64 n] w fun e w' => e = .returned (.bool true) ∧ Gr w w' := by
  have RA := hidb ra
  have CR := hidb (rasters_any g w hl)
  have S1 := hidb (fun W1 (hG : Gr w W1) => small_any pb po W H ad l.length cap W1 (ra.below hG).pt)
  rw [decide_eq_true ll] at S1
  have C1 := hidb (fun W1 (hG : Gr w W1) => Mean_no g (W := W) (H := H) n W1 (ra.below hG).sl (by omega) (hl.below hG.out) hc)
  have C2 := hidb (fun W1 (hG : Gr w W1) => Most_no g (W := W) (H := H) n W1 (ra.below hG).sl (by omega) (hl.below hG.out) hc)
  have C3 := hidb (fun W1 (hG : Gr w W1) => Least_no g (W := W) (H := H) n W1 (ra.below hG).sl (by omega) (hl.below hG.out) hc)
  have CW := hidb (fun W1 (hG : Gr w W1) => rasterError_any pb po W H ad b o cap l W1 (ra.below hG).pt (ra.below hG).sl (by omega))
  have CN := hidb (fun W1 (hG : Gr w W1) => coded_evc g _ (hcode_le W H l n) W1 (hl.below hG.out))
  rw [evc_of hc] at C1 C2 C3 CN
  have hz : Hid ((vcode W H l = 0 ∧ hcode W H l n = 3 ∧ (n < 0 ∨ (¬ n < 0 ∧ 128 < n))) ∨ (¬ vcode W H l = 0 ∧ hcode W H l n = vcode W H l)) := by
    unfold hcode at hc ⊢
    by_cases h : vcode W H l = 0
    · rw [if_pos h] at hc ⊢
      left
      by_cases h2 : inI 0 128 n
      · rw [if_pos h2] at hc; exact absurd rfl hc
      · rw [if_neg h2]
        refine ⟨h, rfl, ?_⟩
        unfold inI at h2
        simp at h2
        omega
    · rw [if_neg h] at hc ⊢
      exact .inr ⟨h, rfl⟩
  generalize hcode W H l n - 1 = ei at *
  obtain ⟨z, hz1⟩ : ∃ z : Nat, z = hcode W H l n := ⟨_, rfl⟩
  rw [← hz1] at CN hz hc
  generalize vcode W H l = v at *
  clear hl ra hz1
  have zp : 0 < (z : Int) := by omega
  rcases hz.out with ⟨rfl, rfl, hn | ⟨hn, hn'⟩⟩ | ⟨hv, rfl⟩
  case inr =>
    have z0 : ((z : Int) == 0) = false := by simp; omega
    have z1 : ¬ (z : Int) = 0 := by omega
    generalize (z : Int) = zi at *
    clear hc hz
    go_enter Tryd.func3, Tryd.ntmps3
    go_wp2_with fail
    refine CR.out.mono ?_
    rintro e w1 ⟨rfl, hB⟩
    have G := hidb hB
    clear hB
    go_wp2_with fail
    refine (S1.out _ G.out).mono ?_
    rintro e w2 ⟨rfl, rfl⟩
    obtain ⟨p0, p1, p2⟩ := (RA.out.below G.out).pt
    go_wp2_with fail
    refine (C1.out _ G.out).mono ?_
    rintro e v0 ⟨rfl, hB⟩
    replace G := hidb (Gr.step G.out hB.out)
    clear hB p0 p1 p2
    go_upto_region 6 with fail
    have HC := hidb (At.new3 v0 (.int .i64 0) (.int .i64 0) (.slice none 0 0) 27)
    replace G := hidb (G.out.alloc (.cells #[.int .i64 0, .int .i64 0, .slice none 0 0] 27))
    generalize v0.alloc (.cells #[.int .i64 0, .int .i64 0, .slice none 0 0] 27) = u0 at *
    generalize v0.heap.size = C at *
    obtain ⟨p0, p1, p2⟩ := (RA.out.below G.out).pt
    go_wp2_with fail
    refine (C2.out _ G.out).mono ?_
    rintro e v1 ⟨rfl, hB⟩
    replace G := hidb (Gr.step G.out hB.out)
    replace HC := hidb (At.below hB.out HC.out)
    clear hB p0 p1 p2
    go_upto_region 7 with fail
    replace HC := hidb (HC.out.alloc (.cells #[.int .i64 0, .int .i64 0, .slice none 0 0] 27))
    have HD := hidb (At.new3 v1 (.int .i64 0) (.int .i64 0) (.slice none 0 0) 27)
    replace G := hidb (G.out.alloc (.cells #[.int .i64 0, .int .i64 0, .slice none 0 0] 27))
    generalize v1.alloc (.cells #[.int .i64 0, .int .i64 0, .slice none 0 0] 27) = u1 at *
    generalize v1.heap.size = D at *
    obtain ⟨p0, p1, p2⟩ := (RA.out.below G.out).pt
    go_wp2_with fail
    refine (C3.out _ G.out).mono ?_
    rintro e v2 ⟨rfl, hB⟩
    replace G := hidb (Gr.step G.out hB.out)
    replace HC := hidb (At.below hB.out HC.out)
    replace HD := hidb (At.below hB.out HD.out)
    clear hB p0 p1 p2
    go_upto_region 8 with fail
    replace HC := hidb (HC.out.alloc (.cells #[.int .i64 0, .int .i64 0, .slice none 0 0] 27))
    replace HD := hidb (HD.out.alloc (.cells #[.int .i64 0, .int .i64 0, .slice none 0 0] 27))
    have HE := hidb (At.new3 v2 (.int .i64 0) (.int .i64 0) (.slice none 0 0) 27)
    replace G := hidb (G.out.alloc (.cells #[.int .i64 0, .int .i64 0, .slice none 0 0] 27))
    generalize v2.alloc (.cells #[.int .i64 0, .int .i64 0, .slice none 0 0] 27) = u2 at *
    generalize v2.heap.size = E at *
    have T := hidb (show ThF w _ _ _ _ _ _ _ from ⟨HC.out, HD.out, HE.out, G.out⟩)
    clear G HC HD HE
    go_wp2_with fail
    refine (CW.out _ T.out.gr).mono ?_
    rintro e w7 ⟨rfl, hB⟩
    replace T := hidb (T.out.below hB.out)
    clear hB
    go_wp2_with fail
    refine (CN.out _ T.out.gr).mono ?_
    rintro e xq ⟨rfl, hB⟩
    replace T := hidb (T.out.below hB.out)
    clear hB
    obtain ⟨q0, q1, q2⟩ := T.out.c0.c3
    go_wp2_with fail
    refine (nothing_any _).mono ?_
    rintro e yq ⟨rfl, hB⟩
    replace T := hidb (T.out.below hB.out)
    clear hB q0 q1 q2
    go_wp2_with fail
    refine (CN.out _ T.out.gr).mono ?_
    rintro e xr ⟨rfl, hB⟩
    replace T := hidb (T.out.below hB.out)
    clear hB
    obtain ⟨q0, q1, q2⟩ := T.out.d0.c3
    go_wp2_with fail
    refine (nothing_any _).mono ?_
    rintro e yr ⟨rfl, hB⟩
    replace T := hidb (T.out.below hB.out)
    clear hB q0 q1 q2
    go_wp2_with fail
    refine (CN.out _ T.out.gr).mono ?_
    rintro e xs ⟨rfl, hB⟩
    replace T := hidb (T.out.below hB.out)
    clear hB
    obtain ⟨q0, q1, q2⟩ := T.out.e0.c3
    go_wp2_with fail
    refine (nothing_any _).mono ?_
    rintro e ys ⟨rfl, hB⟩
    replace T := hidb (T.out.below hB.out)
    clear hB q0 q1 q2
    go_wp2
    go_ret
    exact ⟨rfl, T.out.gr⟩
  all_goals
    clear hc hz zp
    go_enter Tryd.func3, Tryd.ntmps3
    go_wp2_with fail
    refine CR.out.mono ?_
    rintro e w1 ⟨rfl, hB⟩
    have G := hidb hB
    clear hB
    go_wp2_with fail
    refine (S1.out _ G.out).mono ?_
    rintro e w2 ⟨rfl, rfl⟩
    obtain ⟨p0, p1, p2⟩ := (RA.out.below G.out).pt
    go_wp2_with fail
    refine (C1.out _ G.out).mono ?_
    rintro e v0 ⟨rfl, hB⟩
    replace G := hidb (Gr.step G.out hB.out)
    clear hB p0 p1 p2
    go_upto_region 6 with fail
    have HC := hidb (At.new3 v0 (.int .i64 0) (.int .i64 0) (.slice none 0 0) 27)
    replace G := hidb (G.out.alloc (.cells #[.int .i64 0, .int .i64 0, .slice none 0 0] 27))
    generalize v0.alloc (.cells #[.int .i64 0, .int .i64 0, .slice none 0 0] 27) = u0 at *
    generalize v0.heap.size = C at *
    obtain ⟨p0, p1, p2⟩ := (RA.out.below G.out).pt
    go_wp2_with fail
    refine (C2.out _ G.out).mono ?_
    rintro e v1 ⟨rfl, hB⟩
    replace G := hidb (Gr.step G.out hB.out)
    replace HC := hidb (At.below hB.out HC.out)
    clear hB p0 p1 p2
    go_upto_region 7 with fail
    replace HC := hidb (HC.out.alloc (.cells #[.int .i64 0, .int .i64 0, .slice none 0 0] 27))
    have HD := hidb (At.new3 v1 (.int .i64 0) (.int .i64 0) (.slice none 0 0) 27)
    replace G := hidb (G.out.alloc (.cells #[.int .i64 0, .int .i64 0, .slice none 0 0] 27))
    generalize v1.alloc (.cells #[.int .i64 0, .int .i64 0, .slice none 0 0] 27) = u1 at *
    generalize v1.heap.size = D at *
    obtain ⟨p0, p1, p2⟩ := (RA.out.below G.out).pt
    go_wp2_with fail
    refine (C3.out _ G.out).mono ?_
    rintro e v2 ⟨rfl, hB⟩
    replace G := hidb (Gr.step G.out hB.out)
    replace HC := hidb (At.below hB.out HC.out)
    replace HD := hidb (At.below hB.out HD.out)
    clear hB p0 p1 p2
    go_upto_region 8 with fail
    replace HC := hidb (HC.out.alloc (.cells #[.int .i64 0, .int .i64 0, .slice none 0 0] 27))
    replace HD := hidb (HD.out.alloc (.cells #[.int .i64 0, .int .i64 0, .slice none 0 0] 27))
    have HE := hidb (At.new3 v2 (.int .i64 0) (.int .i64 0) (.slice none 0 0) 27)
    replace G := hidb (G.out.alloc (.cells #[.int .i64 0, .int .i64 0, .slice none 0 0] 27))
    generalize v2.alloc (.cells #[.int .i64 0, .int .i64 0, .slice none 0 0] 27) = u2 at *
    generalize v2.heap.size = E at *
    have T := hidb (show ThF w _ _ _ _ _ _ _ from ⟨HC.out, HD.out, HE.out, G.out⟩)
    clear G HC HD HE
    go_wp2_with fail
    refine (CW.out _ T.out.gr).mono ?_
    rintro e w7 ⟨rfl, hB⟩
    replace T := hidb (T.out.below hB.out)
    clear hB
    go_wp2_with fail
    refine (CN.out _ T.out.gr).mono ?_
    rintro e xq ⟨rfl, hB⟩
    replace T := hidb (T.out.below hB.out)
    clear hB
    obtain ⟨q0, q1, q2⟩ := T.out.c0.c3
    go_wp2_with fail
    refine (nothing_any _).mono ?_
    rintro e yq ⟨rfl, hB⟩
    replace T := hidb (T.out.below hB.out)
    clear hB q0 q1 q2
    go_wp2_with fail
    refine (CN.out _ T.out.gr).mono ?_
    rintro e xr ⟨rfl, hB⟩
    replace T := hidb (T.out.below hB.out)
    clear hB
    obtain ⟨q0, q1, q2⟩ := T.out.d0.c3
    go_wp2_with fail
    refine (nothing_any _).mono ?_
    rintro e yr ⟨rfl, hB⟩
    replace T := hidb (T.out.below hB.out)
    clear hB q0 q1 q2
    go_wp2_with fail
    refine (CN.out _ T.out.gr).mono ?_
    rintro e xs ⟨rfl, hB⟩
    replace T := hidb (T.out.below hB.out)
    clear hB
    obtain ⟨q0, q1, q2⟩ := T.out.e0.c3
    go_wp2_with fail
    refine (nothing_any _).mono ?_
    rintro e ys ⟨rfl, hB⟩
    replace T := hidb (T.out.below hB.out)
    clear hB q0 q1 q2
    go_wp2
    go_ret
    exact ⟨rfl, T.out.gr⟩
set_option maxRecDepth 4000 in
set_option maxHeartbeats 16000000 in
theorem around_B (g : Nat → Addr) {m n rch pb po b o cap : Nat} {l : List Int} (w : World) (hl : Laid w g) (ra : Rin w pb po m n (some ⟨b, o, none⟩) b o cap l) (hr : Rs w b o cap l) (ok : Ok l m n) (ll : l.length ≤ 200) (hr2 : rch ≤ 128) : Calls Tryd.prog 3 #[.pointer (some ⟨pb, po, none⟩), .int .i64 (rch : Int)] w fun e w' => e = .returned (.bool true) ∧ Gr w w' := by
  have hsc := hcode_ok (ok_vcode ok) hr2
  have RA := hidb ra
  have CR := hidb (rasters_any g w hl)
  have S1 := hidb (fun W1 (hG : Gr w W1) => small_any pb po m n (some ⟨b, o, none⟩) l.length cap W1 (ra.below hG).pt)
  rw [decide_eq_true ll] at S1
  have hll : l.length = n * m := by rw [ok.len, Nat.mul_comm]
  obtain ⟨L1, hL1⟩ : ∃ L, L = arL l m n rch := ⟨_, rfl⟩
  obtain ⟨L2, hL2⟩ : ∃ L, L = mpL true l m n rch := ⟨_, rfl⟩
  obtain ⟨L3, hL3⟩ : ∃ L, L = mpL false l m n rch := ⟨_, rfl⟩
  have n1 : L1.length = l.length := by rw [hL1, arL_len, hll]
  have n2 : L2.length = l.length := by rw [hL2, mpL_len, hll]
  have n3 : L3.length = l.length := by rw [hL3, mpL_len, hll]
  have C1 : Hid (∀ W1, Gr w W1 → Calls Tryd.prog 8 #[raV m n (.slice (some ⟨b, o, none⟩) l.length cap), .int .i64 (rch : Int)] W1 fun e w' => ∃ B, e = .returned (.tuple #[raV m n (.slice (some ⟨B, 0, none⟩) l.length l.length), .nilIface]) ∧ At w' B (ir L1) ∧ Gr W1 w') := fun W1 hG => by
    refine (Mean_ok g W1 (hr.below hG.out) ok (hl.below hG.out) hsc hr2).mono ?_
    rintro e w' ⟨B, K, rfl, hK, hA, _, hB⟩
    rw [← hL1] at hA
    rw [hK]
    exact ⟨B, rfl, hA, hB⟩
  have C2 : Hid (∀ W1, Gr w W1 → Calls Tryd.prog 9 #[raV m n (.slice (some ⟨b, o, none⟩) l.length cap), .int .i64 (rch : Int)] W1 fun e w' => ∃ B, e = .returned (.tuple #[raV m n (.slice (some ⟨B, 0, none⟩) l.length l.length), .nilIface]) ∧ At w' B (ir L2) ∧ Gr W1 w') := fun W1 hG => by
    refine (Most_ok g W1 (hr.below hG.out) ok (hl.below hG.out) hsc hr2).mono ?_
    rintro e w' ⟨B, rfl, hA, _, hB⟩
    rw [← hL2] at hA
    exact ⟨B, rfl, hA, hB⟩
  have C3 : Hid (∀ W1, Gr w W1 → Calls Tryd.prog 10 #[raV m n (.slice (some ⟨b, o, none⟩) l.length cap), .int .i64 (rch : Int)] W1 fun e w' => ∃ B, e = .returned (.tuple #[raV m n (.slice (some ⟨B, 0, none⟩) l.length l.length), .nilIface]) ∧ At w' B (ir L3) ∧ Gr W1 w') := fun W1 hG => by
    refine (Least_ok g W1 (hr.below hG.out) ok (hl.below hG.out) hsc hr2).mono ?_
    rintro e w' ⟨B, rfl, hA, _, hB⟩
    rw [← hL3] at hA
    exact ⟨B, rfl, hA, hB⟩
  have A1 : Hid (∀ W1, Gr w W1 → Calls Tryd.prog 15 #[.pointer (some ⟨pb, po, none⟩), .int .i64 (rch : Int), .int .i64 0] W1 fun e w' => ∃ ad b2 cap2, e = .returned (.slice ad l.length cap2) ∧ ISl w' ad b2 0 cap2 L1 ∧ Gr W1 w') := fun W1 hG => by
    have := allAround_any 0 (fun j => arI l m n rch (j / m) (j % m)) (n := n) (rI := (rch : Int)) W1 (ra.below hG).pt (by omega) (fun W2 cell hG2 hc => aroundOf0 W2 (ra.below (Gr.step hG hG2.out)).pt (hr.below (Gr.step hG hG2.out).out) ok hc hr2)
    rw [hL1]
    unfold arL
    rw [← hll]
    exact this
  have A2 : Hid (∀ W1, Gr w W1 → Calls Tryd.prog 15 #[.pointer (some ⟨pb, po, none⟩), .int .i64 (rch : Int), .int .i64 1] W1 fun e w' => ∃ ad b2 cap2, e = .returned (.slice ad l.length cap2) ∧ ISl w' ad b2 0 cap2 L2 ∧ Gr W1 w') := fun W1 hG => by
    have := allAround_any 1 (fun j => blB true l m n rch (j / m) (j % m)) (n := n) (rI := (rch : Int)) W1 (ra.below hG).pt (by omega) (fun W2 cell hG2 hc => aroundOf1 W2 (ra.below (Gr.step hG hG2.out)).pt (hr.below (Gr.step hG hG2.out).out) ok hc hr2)
    rw [hL2]
    unfold mpL
    rw [← hll]
    exact this
  have A3 : Hid (∀ W1, Gr w W1 → Calls Tryd.prog 15 #[.pointer (some ⟨pb, po, none⟩), .int .i64 (rch : Int), .int .i64 2] W1 fun e w' => ∃ ad b2 cap2, e = .returned (.slice ad l.length cap2) ∧ ISl w' ad b2 0 cap2 L3 ∧ Gr W1 w') := fun W1 hG => by
    have := allAround_any 2 (fun j => blB false l m n rch (j / m) (j % m)) (n := n) (rI := (rch : Int)) W1 (ra.below hG).pt (by omega) (fun W2 cell hG2 hc => aroundOf2 W2 (ra.below (Gr.step hG hG2.out)).pt (hr.below (Gr.step hG hG2.out).out) ok hc hr2)
    rw [hL3]
    unfold mpL
    rw [← hll]
    exact this
  have CI : ∀ L : List Int, L.length = l.length → Hid (∀ W1 (ad ad' : Option Addr) b1 b2 o1 o2 c1 c2, ISl W1 ad b1 o1 c1 L → ISl W1 ad' b2 o2 c2 L → Calls Tryd.prog 14 #[raV m n (.slice ad l.length c1), .int .i64 (m : Int), .int .i64 (n : Int), .slice ad' l.length c2] W1 fun e w' => e = .returned (.bool true) ∧ Gr W1 w') := fun L hL W1 ad ad' b1 b2 o1 o2 c1 c2 h1 h2 => by
    have := is_any (m : Int) (n : Int) (by omega) W1 h1 h2
    rw [hL] at this
    exact this
  have I1 := CI L1 n1
  have I2 := CI L2 n2
  have I3 := CI L3 n3
  have CW := hidb (fun W1 (hG : Gr w W1) => rasterError_any pb po m n (some ⟨b, o, none⟩) b o cap l W1 (ra.below hG).pt (ra.below hG).sl (by omega))
  rw [ok_vcode ok] at CW
  obtain ⟨rI, hrI⟩ : ∃ q : Int, q = (rch : Int) := ⟨_, rfl⟩
  have l1 : ¬ rI < 0 := by omega
  have l2 : ¬ 128 < rI := by omega
  rw [← hrI] at C1 C2 C3 A1 A2 A3 ⊢
  clear hl ra hr ok ll hr2 hsc hll hL1 hL2 hL3 n1 n2 n3 CI hrI
  go_enter Tryd.func3, Tryd.ntmps3
  go_wp2_with fail
  refine CR.out.mono ?_
  rintro e w1 ⟨rfl, hB⟩
  have G := hidb hB
  clear hB
  go_wp2_with fail
  refine (S1.out _ G.out).mono ?_
  rintro e w2 ⟨rfl, rfl⟩
  obtain ⟨p0, p1, p2⟩ := (RA.out.below G.out).pt
  go_wp2_with fail
  refine (C1.out _ G.out).mono ?_
  rintro e v0 ⟨BC, rfl, hA, hB⟩
  replace G := hidb (Gr.step G.out hB.out)
  have HCb := hidb hA
  clear hA
  clear hB p0 p1 p2
  go_upto_region 6 with fail
  replace HCb := hidb (HCb.out.alloc (.cells #[.int .i64 m, .int .i64 n, .slice (some ⟨BC, 0, none⟩) l.length l.length] 27))
  have HC := hidb (At.new3 v0 (.int .i64 m) (.int .i64 n) (.slice (some ⟨BC, 0, none⟩) l.length l.length) 27)
  replace G := hidb (G.out.alloc (.cells #[.int .i64 m, .int .i64 n, .slice (some ⟨BC, 0, none⟩) l.length l.length] 27))
  generalize v0.alloc (.cells #[.int .i64 m, .int .i64 n, .slice (some ⟨BC, 0, none⟩) l.length l.length] 27) = u0 at *
  generalize v0.heap.size = C at *
  obtain ⟨p0, p1, p2⟩ := (RA.out.below G.out).pt
  go_wp2_with fail
  refine (C2.out _ G.out).mono ?_
  rintro e v1 ⟨BD, rfl, hA, hB⟩
  replace G := hidb (Gr.step G.out hB.out)
  replace HCb := hidb (At.below hB.out HCb.out)
  replace HC := hidb (At.below hB.out HC.out)
  have HDb := hidb hA
  clear hA
  clear hB p0 p1 p2
  go_upto_region 7 with fail
  replace HCb := hidb (HCb.out.alloc (.cells #[.int .i64 m, .int .i64 n, .slice (some ⟨BD, 0, none⟩) l.length l.length] 27))
  replace HC := hidb (HC.out.alloc (.cells #[.int .i64 m, .int .i64 n, .slice (some ⟨BD, 0, none⟩) l.length l.length] 27))
  replace HDb := hidb (HDb.out.alloc (.cells #[.int .i64 m, .int .i64 n, .slice (some ⟨BD, 0, none⟩) l.length l.length] 27))
  have HD := hidb (At.new3 v1 (.int .i64 m) (.int .i64 n) (.slice (some ⟨BD, 0, none⟩) l.length l.length) 27)
  replace G := hidb (G.out.alloc (.cells #[.int .i64 m, .int .i64 n, .slice (some ⟨BD, 0, none⟩) l.length l.length] 27))
  generalize v1.alloc (.cells #[.int .i64 m, .int .i64 n, .slice (some ⟨BD, 0, none⟩) l.length l.length] 27) = u1 at *
  generalize v1.heap.size = D at *
  obtain ⟨p0, p1, p2⟩ := (RA.out.below G.out).pt
  go_wp2_with fail
  refine (C3.out _ G.out).mono ?_
  rintro e v2 ⟨BE, rfl, hA, hB⟩
  replace G := hidb (Gr.step G.out hB.out)
  replace HCb := hidb (At.below hB.out HCb.out)
  replace HC := hidb (At.below hB.out HC.out)
  replace HDb := hidb (At.below hB.out HDb.out)
  replace HD := hidb (At.below hB.out HD.out)
  have HEb := hidb hA
  clear hA
  clear hB p0 p1 p2
  go_upto_region 8 with fail
  replace HCb := hidb (HCb.out.alloc (.cells #[.int .i64 m, .int .i64 n, .slice (some ⟨BE, 0, none⟩) l.length l.length] 27))
  replace HC := hidb (HC.out.alloc (.cells #[.int .i64 m, .int .i64 n, .slice (some ⟨BE, 0, none⟩) l.length l.length] 27))
  replace HDb := hidb (HDb.out.alloc (.cells #[.int .i64 m, .int .i64 n, .slice (some ⟨BE, 0, none⟩) l.length l.length] 27))
  replace HD := hidb (HD.out.alloc (.cells #[.int .i64 m, .int .i64 n, .slice (some ⟨BE, 0, none⟩) l.length l.length] 27))
  replace HEb := hidb (HEb.out.alloc (.cells #[.int .i64 m, .int .i64 n, .slice (some ⟨BE, 0, none⟩) l.length l.length] 27))
  have HE := hidb (At.new3 v2 (.int .i64 m) (.int .i64 n) (.slice (some ⟨BE, 0, none⟩) l.length l.length) 27)
  replace G := hidb (G.out.alloc (.cells #[.int .i64 m, .int .i64 n, .slice (some ⟨BE, 0, none⟩) l.length l.length] 27))
  generalize v2.alloc (.cells #[.int .i64 m, .int .i64 n, .slice (some ⟨BE, 0, none⟩) l.length l.length] 27) = u2 at *
  generalize v2.heap.size = E at *
  have T := hidb (show ThF w _ _ _ _ _ _ _ from ⟨HC.out, HD.out, HE.out, G.out⟩)
  clear G HC HD HE
  go_wp2_with fail
  refine (CW.out _ T.out.gr).mono ?_
  rintro e w7 ⟨rfl, hB⟩
  replace T := hidb (T.out.below hB.out)
  replace HCb := hidb (At.below hB.out HCb.out)
  replace HDb := hidb (At.below hB.out HDb.out)
  replace HEb := hidb (At.below hB.out HEb.out)
  clear hB
  go_upto_region 16 with fail
  go_cut [17] from 96 to 112 (fun s wx => s = .bool true ∧ Hid (ThF w wx C D E [.int .i64 m, .int .i64 n, .slice (some ⟨BC, 0, none⟩) l.length l.length] [.int .i64 m, .int .i64 n, .slice (some ⟨BD, 0, none⟩) l.length l.length] [.int .i64 m, .int .i64 n, .slice (some ⟨BE, 0, none⟩) l.length l.length] ∧ At wx BC (ir L1) ∧ At wx BD (ir L2) ∧ At wx BE (ir L3)))
  case first =>
    have F := T.out
    have K1 := HCb.out
    have K2 := HDb.out
    have K3 := HEb.out
    clear T HCb HDb HEb
    go_region_held (fun w' => (w'.cell? ⟨pb, po, none⟩ = some (.int .i64 m) ∧ w'.cell? ⟨pb, po + 1, none⟩ = some (.int .i64 n) ∧ w'.cell? ⟨pb, po + 2, none⟩ = some (.slice (some ⟨b, o, none⟩) l.length cap)) ∧ (w'.cell? ⟨C, 0, none⟩ = some (.int .i64 m) ∧ w'.cell? ⟨C, 1, none⟩ = some (.int .i64 n) ∧ w'.cell? ⟨C, 2, none⟩ = some (.slice (some ⟨BC, 0, none⟩) l.length l.length)))
      (with_reducible first | exact ⟨(RA.out.below F.gr).pt.all, F.c0.c3⟩ | exact ⟨(RA.out.below F.drew.gr).pt.all, F.drew.c0.c3⟩)
      ((first
        | (go_at_call 15; with_reducible refine (A1.out _ (by with_reducible first | exact F.gr | exact F.drew.gr)).mono ?_; rintro e w8 ⟨ad8, b8, cap8, rfl, hI8, hB8⟩; (with_reducible first | (replace F := F.below hB8.out; replace K1 := At.below hB8.out K1; replace K2 := At.below hB8.out K2; replace K3 := At.below hB8.out K3) | (replace F := F.drew.below hB8.out; replace K1 := At.below hB8.out K1.drew; replace K2 := At.below hB8.out K2.drew; replace K3 := At.below hB8.out K3.drew)); clear hB8)
        | (go_at_call 14; with_reducible refine (I1.out _ _ _ _ _ _ _ _ _ (At.isl K1 _) hI8).mono ?_; rintro e w9 ⟨rfl, hB8⟩; replace F := F.below hB8.out; replace K1 := At.below hB8.out K1; replace K2 := At.below hB8.out K2; replace K3 := At.below hB8.out K3; clear hB8)))
    all_goals
      go_wp2_with fail
      go_meet
      exact ⟨rfl, F, K1, K2, K3⟩
  case rest =>
  clear T HCb HDb HEb
  obtain ⟨rfl, TT⟩ := hcut
  have T := hidb TT.out.1
  have HCb := hidb TT.out.2.1
  have HDb := hidb TT.out.2.2.1
  have HEb := hidb TT.out.2.2.2
  clear TT
  go_upto_region 17 with fail
  go_cut [18] from 113 to 129 (fun s wx => s = .bool true ∧ Hid (ThF w wx C D E [.int .i64 m, .int .i64 n, .slice (some ⟨BC, 0, none⟩) l.length l.length] [.int .i64 m, .int .i64 n, .slice (some ⟨BD, 0, none⟩) l.length l.length] [.int .i64 m, .int .i64 n, .slice (some ⟨BE, 0, none⟩) l.length l.length] ∧ At wx BC (ir L1) ∧ At wx BD (ir L2) ∧ At wx BE (ir L3)))
  case first =>
    have F := T.out
    have K1 := HCb.out
    have K2 := HDb.out
    have K3 := HEb.out
    clear T HCb HDb HEb
    go_region_held (fun w' => (w'.cell? ⟨pb, po, none⟩ = some (.int .i64 m) ∧ w'.cell? ⟨pb, po + 1, none⟩ = some (.int .i64 n) ∧ w'.cell? ⟨pb, po + 2, none⟩ = some (.slice (some ⟨b, o, none⟩) l.length cap)) ∧ (w'.cell? ⟨D, 0, none⟩ = some (.int .i64 m) ∧ w'.cell? ⟨D, 1, none⟩ = some (.int .i64 n) ∧ w'.cell? ⟨D, 2, none⟩ = some (.slice (some ⟨BD, 0, none⟩) l.length l.length)))
      (with_reducible first | exact ⟨(RA.out.below F.gr).pt.all, F.d0.c3⟩ | exact ⟨(RA.out.below F.drew.gr).pt.all, F.drew.d0.c3⟩)
      ((first
        | (go_at_call 15; with_reducible refine (A2.out _ (by with_reducible first | exact F.gr | exact F.drew.gr)).mono ?_; rintro e w8 ⟨ad8, b8, cap8, rfl, hI8, hB8⟩; (with_reducible first | (replace F := F.below hB8.out; replace K1 := At.below hB8.out K1; replace K2 := At.below hB8.out K2; replace K3 := At.below hB8.out K3) | (replace F := F.drew.below hB8.out; replace K1 := At.below hB8.out K1.drew; replace K2 := At.below hB8.out K2.drew; replace K3 := At.below hB8.out K3.drew)); clear hB8)
        | (go_at_call 14; with_reducible refine (I2.out _ _ _ _ _ _ _ _ _ (At.isl K2 _) hI8).mono ?_; rintro e w9 ⟨rfl, hB8⟩; replace F := F.below hB8.out; replace K1 := At.below hB8.out K1; replace K2 := At.below hB8.out K2; replace K3 := At.below hB8.out K3; clear hB8)))
    all_goals
      go_wp2_with fail
      go_meet
      exact ⟨rfl, F, K1, K2, K3⟩
  case rest =>
  clear T HCb HDb HEb
  obtain ⟨rfl, TT⟩ := hcut
  have T := hidb TT.out.1
  have HCb := hidb TT.out.2.1
  have HDb := hidb TT.out.2.2.1
  have HEb := hidb TT.out.2.2.2
  clear TT
  go_upto_region 18 with fail
  go_cut [19] from 130 to 146 (fun s wx => s = .bool true ∧ Hid (ThF w wx C D E [.int .i64 m, .int .i64 n, .slice (some ⟨BC, 0, none⟩) l.length l.length] [.int .i64 m, .int .i64 n, .slice (some ⟨BD, 0, none⟩) l.length l.length] [.int .i64 m, .int .i64 n, .slice (some ⟨BE, 0, none⟩) l.length l.length] ∧ At wx BC (ir L1) ∧ At wx BD (ir L2) ∧ At wx BE (ir L3)))
  case first =>
    have F := T.out
    have K1 := HCb.out
    have K2 := HDb.out
    have K3 := HEb.out
    clear T HCb HDb HEb
    go_region_held (fun w' => (w'.cell? ⟨pb, po, none⟩ = some (.int .i64 m) ∧ w'.cell? ⟨pb, po + 1, none⟩ = some (.int .i64 n) ∧ w'.cell? ⟨pb, po + 2, none⟩ = some (.slice (some ⟨b, o, none⟩) l.length cap)) ∧ (w'.cell? ⟨E, 0, none⟩ = some (.int .i64 m) ∧ w'.cell? ⟨E, 1, none⟩ = some (.int .i64 n) ∧ w'.cell? ⟨E, 2, none⟩ = some (.slice (some ⟨BE, 0, none⟩) l.length l.length)))
      (with_reducible first | exact ⟨(RA.out.below F.gr).pt.all, F.e0.c3⟩ | exact ⟨(RA.out.below F.drew.gr).pt.all, F.drew.e0.c3⟩)
      ((first
        | (go_at_call 15; with_reducible refine (A3.out _ (by with_reducible first | exact F.gr | exact F.drew.gr)).mono ?_; rintro e w8 ⟨ad8, b8, cap8, rfl, hI8, hB8⟩; (with_reducible first | (replace F := F.below hB8.out; replace K1 := At.below hB8.out K1; replace K2 := At.below hB8.out K2; replace K3 := At.below hB8.out K3) | (replace F := F.drew.below hB8.out; replace K1 := At.below hB8.out K1.drew; replace K2 := At.below hB8.out K2.drew; replace K3 := At.below hB8.out K3.drew)); clear hB8)
        | (go_at_call 14; with_reducible refine (I3.out _ _ _ _ _ _ _ _ _ (At.isl K3 _) hI8).mono ?_; rintro e w9 ⟨rfl, hB8⟩; replace F := F.below hB8.out; replace K1 := At.below hB8.out K1; replace K2 := At.below hB8.out K2; replace K3 := At.below hB8.out K3; clear hB8)))
    all_goals
      go_wp2_with fail
      go_meet
      exact ⟨rfl, F, K1, K2, K3⟩
  case rest =>
  clear T HCb HDb HEb
  obtain ⟨rfl, TT⟩ := hcut
  have T := hidb TT.out.1
  have HCb := hidb TT.out.2.1
  have HDb := hidb TT.out.2.2.1
  have HEb := hidb TT.out.2.2.2
  clear TT
  go_wp2
  go_ret
  exact ⟨rfl, T.out.gr⟩
set_option maxRecDepth 4000 in
set_option maxHeartbeats 4000000 in
theorem around_no (g : Nat → Addr) (n : Int) (u : Value) (w : World) (hl : Laid w g) (h1 : ∀ W, Gr w W → Calls Tryd.prog 7 #[u] W fun e w' => e = .returned (.bool false) ∧ w' = W) : Calls Tryd.prog 3 #[u, .int .i64 n] w fun e w' => e = .returned (.bool true) ∧ Gr w w' := by
  have CR := hidb (rasters_any g w hl)
  have S1 := hidb h1
  clear hl h1
  go_enter Tryd.func3, Tryd.ntmps3
  go_wp2_with fail
  refine CR.out.mono ?_
  rintro e w1 ⟨rfl, hB⟩
  have G := hidb hB
  clear hB
  go_wp2_with fail
  refine (S1.out _ G.out).mono ?_
  rintro e w2 ⟨rfl, rfl⟩
  go_wp2
  go_ret
  exact ⟨rfl, G.out⟩
theorem fieldAround_law (g : Nat → Addr) (n : Int) (a : Option Addr) (w : World) (hl : Laid w g) (ha : RArg w a) : Calls Tryd.prog 3 #[.pointer a, .int .i64 n] w fun e w' => e = .returned (.bool true) ∧ Gr w w' := by
  obtain ⟨s, c, k⟩ := small_arg ha
  cases s
  · exact around_no g n _ w hl c
  · obtain ⟨pb, po, W, H, sd, b, o, cap, l, rfl, ra, hr, ll⟩ := k rfl
    by_cases hc : hcode W H l n = 0
    · have hv : vcode W H l = 0 := by
        unfold hcode at hc
        by_cases h : vcode W H l = 0
        · exact h
        · rw [if_neg h] at hc; exact hc
      have hn : 0 ≤ n ∧ n ≤ 128 := by
        unfold hcode at hc
        rw [if_pos hv] at hc
        by_cases h : inI 0 128 n
        · unfold inI at h; simpa using h
        · rw [if_neg h] at hc; cases hc
      obtain ⟨m, k, rfl, rfl, ok⟩ := ok_of hv
      have hp : 1 * 1 ≤ m * k := Nat.mul_le_mul ok.m1 ok.n1
      obtain ⟨rfl, hr2⟩ := hr (by have := ok.len; omega)
      obtain ⟨q, rfl⟩ : ∃ q : Nat, n = q := ⟨n.toNat, by omega⟩
      exact around_B g w hl ra hr2 ok ll (by omega)
    · exact around_A g n w hl ra ll hc
end Go.Proofs.YtphpfongdbidoaaDoor
