/-
  FieldScales: what is handed over, and the ways that end in an error.
-/
import Derived.Test.YtphpfongdbidoaaDoorQFsI
import Derived.Test.YtphpfongdbidoaaDoorQFsF
import Derived.Test.YtphpfongdbidoaaDoorQFdI
import Derived.Test.YtphpfongdbidoaaDoorQRb
namespace Go.Proofs.YtphpfongdbidoaaDoor
open Go.RowKit

/-- What the law has made: two rasters of its own. -/
structure TwF (w W : World) (C D : Nat) (kc kd : List Value) : Prop where
  c0 : At W C kc
  d0 : At W D kd
  gr : Gr w W
theorem TwF.below {w W w' : World} {C D : Nat} {kc kd : List Value} (h : TwF w W C D kc kd) (hB : Below W.heap.size W w') : TwF w w' C D kc kd := ⟨h.c0.below hB, h.d0.below hB, Gr.step h.gr hB⟩
theorem scode_le (W H : Int) (l : List Int) (n : Int) : scode W H l n ≤ 8 := by
  have := vcode_lt W H l
  unfold scode
  split
  · split <;> omega
  · omega
set_option maxRecDepth 4000 in
set_option maxHeartbeats 16000000 in
theorem scales_A (g : Nat → Addr) (n : Int) {pb po : Nat} {W H : Int} {ad : Option Addr} {b o cap : Nat} {l : List Int} (w : World) (hl : Laid w g) (ra : Rin w pb po W H ad b o cap l) (ll : l.length ≤ 200) (hc : ¬ scode W H l n = 0) : Calls Tryd.prog 5 #[.pointer (some ⟨pb, po, none⟩), .int .i64 n] w fun e w' => e = .returned (.bool true) ∧ Gr w w' := by
  have RA := hidb ra
  have CR := hidb (rasters_any g w hl)
  have S1 := hidb (fun W1 (hG : Gr w W1) => small_any pb po W H ad l.length cap W1 (ra.below hG).pt)
  rw [decide_eq_true ll] at S1
  have CC := hidb (fun W1 (hG : Gr w W1) => coarse_no g (W := W) (H := H) n W1 (ra.below hG).sl (by omega) (hl.below hG.out) hc)
  have CF := hidb (fun W1 (hG : Gr w W1) => fine_no g (W := W) (H := H) n W1 (ra.below hG).sl (by omega) (hl.below hG.out) hc)
  have CW := hidb (fun W1 (hG : Gr w W1) => rasterError_any pb po W H ad b o cap l W1 (ra.below hG).pt (ra.below hG).sl (by omega))
  have CN := hidb (fun W1 (hG : Gr w W1) => coded_evc g _ (scode_le W H l n) W1 (hl.below hG.out))
  rw [evc_of hc] at CC CF CN
  have hz : Hid ((vcode W H l = 0 ∧ scode W H l n = 3 ∧ (n < 1 ∨ (¬ n < 1 ∧ 128 < n))) ∨ (¬ vcode W H l = 0 ∧ scode W H l n = vcode W H l)) := by
    unfold scode at hc ⊢
    by_cases h : vcode W H l = 0
    · rw [if_pos h] at hc ⊢
      left
      by_cases h2 : inI 1 128 n
      · rw [if_pos h2] at hc; exact absurd rfl hc
      · rw [if_neg h2]
        refine ⟨h, rfl, ?_⟩
        unfold inI at h2
        simp at h2
        omega
    · rw [if_neg h] at hc ⊢
      exact .inr ⟨h, rfl⟩
  generalize scode W H l n - 1 = ei at *
  obtain ⟨z, hz1⟩ : ∃ z : Nat, z = scode W H l n := ⟨_, rfl⟩
  rw [← hz1] at CN hz hc
  generalize vcode W H l = v at *
  clear hl ra hz1
  have zp : 0 < (z : Int) := by omega
  rcases hz.out with ⟨rfl, rfl, hn | ⟨hn, hn'⟩⟩ | ⟨hv, rfl⟩
  case inr =>
    have z0 : ((z : Int) == 0) = false := by simp; omega
    have z1 : ¬ (z : Int) = 0 := by omega
    generalize (z : Int) = zi at *
    clear hc hz
    go_enter Tryd.func5, Tryd.ntmps5
    go_wp2_with fail
    refine CR.out.mono ?_
    rintro e w1 ⟨rfl, hB⟩
    have G := hidb hB
    clear hB
    go_wp2_with fail
    refine (S1.out _ G.out).mono ?_
    rintro e w2 ⟨rfl, rfl⟩
    obtain ⟨p0, p1, p2⟩ := (RA.out.below G.out).pt
    go_wp2_with fail
    refine (CC.out _ G.out).mono ?_
    rintro e w3 ⟨rfl, hB⟩
    replace G := hidb (Gr.step G.out hB.out)
    clear hB p0 p1 p2
    go_upto_region 6 with fail
    have HC := hidb (At.new3 w3 (.int .i64 0) (.int .i64 0) (.slice none 0 0) 27)
    replace G := hidb (G.out.alloc (.cells #[.int .i64 0, .int .i64 0, .slice none 0 0] 27))
    generalize w3.alloc (.cells #[.int .i64 0, .int .i64 0, .slice none 0 0] 27) = w4 at *
    generalize w3.heap.size = C at *
    obtain ⟨p0, p1, p2⟩ := (RA.out.below G.out).pt
    go_wp2_with fail
    refine (CF.out _ G.out).mono ?_
    rintro e w5 ⟨rfl, hB⟩
    replace G := hidb (Gr.step G.out hB.out)
    replace HC := hidb (At.below hB.out HC.out)
    clear hB p0 p1 p2
    go_upto_region 7 with fail
    have T := hidb (show TwF w _ _ _ _ _ from ⟨HC.out.alloc (.cells #[.int .i64 0, .int .i64 0, .slice none 0 0] 27), At.new3 w5 (.int .i64 0) (.int .i64 0) (.slice none 0 0) 27, G.out.alloc (.cells #[.int .i64 0, .int .i64 0, .slice none 0 0] 27)⟩)
    clear G HC
    generalize w5.alloc (.cells #[.int .i64 0, .int .i64 0, .slice none 0 0] 27) = w6 at *
    generalize w5.heap.size = D at *
    go_wp2_with fail
    refine (CW.out _ T.out.gr).mono ?_
    rintro e w7 ⟨rfl, hB⟩
    replace T := hidb (T.out.below hB.out)
    clear hB
    go_wp2_with fail
    refine (CN.out _ T.out.gr).mono ?_
    rintro e w8 ⟨rfl, hB⟩
    replace T := hidb (T.out.below hB.out)
    clear hB
    go_wp2_with fail
    refine (CN.out _ T.out.gr).mono ?_
    rintro e w9 ⟨rfl, hB⟩
    replace T := hidb (T.out.below hB.out)
    clear hB
    obtain ⟨q0, q1, q2⟩ := T.out.c0.c3
    go_wp2_with fail
    refine (nothing_any _).mono ?_
    rintro e w10 ⟨rfl, hB⟩
    replace T := hidb (T.out.below hB.out)
    clear hB q0 q1 q2
    obtain ⟨q0, q1, q2⟩ := T.out.d0.c3
    go_wp2_with fail
    refine (nothing_any _).mono ?_
    rintro e w11 ⟨rfl, hB⟩
    replace T := hidb (T.out.below hB.out)
    clear hB q0 q1 q2
    go_wp2
    go_ret
    exact ⟨rfl, T.out.gr⟩
  all_goals
    clear hc hz zp
    go_enter Tryd.func5, Tryd.ntmps5
    go_wp2_with fail
    refine CR.out.mono ?_
    rintro e w1 ⟨rfl, hB⟩
    have G := hidb hB
    clear hB
    go_wp2_with fail
    refine (S1.out _ G.out).mono ?_
    rintro e w2 ⟨rfl, rfl⟩
    obtain ⟨p0, p1, p2⟩ := (RA.out.below G.out).pt
    go_wp2_with fail
    refine (CC.out _ G.out).mono ?_
    rintro e w3 ⟨rfl, hB⟩
    replace G := hidb (Gr.step G.out hB.out)
    clear hB p0 p1 p2
    go_upto_region 6 with fail
    have HC := hidb (At.new3 w3 (.int .i64 0) (.int .i64 0) (.slice none 0 0) 27)
    replace G := hidb (G.out.alloc (.cells #[.int .i64 0, .int .i64 0, .slice none 0 0] 27))
    generalize w3.alloc (.cells #[.int .i64 0, .int .i64 0, .slice none 0 0] 27) = w4 at *
    generalize w3.heap.size = C at *
    obtain ⟨p0, p1, p2⟩ := (RA.out.below G.out).pt
    go_wp2_with fail
    refine (CF.out _ G.out).mono ?_
    rintro e w5 ⟨rfl, hB⟩
    replace G := hidb (Gr.step G.out hB.out)
    replace HC := hidb (At.below hB.out HC.out)
    clear hB p0 p1 p2
    go_upto_region 7 with fail
    have T := hidb (show TwF w _ _ _ _ _ from ⟨HC.out.alloc (.cells #[.int .i64 0, .int .i64 0, .slice none 0 0] 27), At.new3 w5 (.int .i64 0) (.int .i64 0) (.slice none 0 0) 27, G.out.alloc (.cells #[.int .i64 0, .int .i64 0, .slice none 0 0] 27)⟩)
    clear G HC
    generalize w5.alloc (.cells #[.int .i64 0, .int .i64 0, .slice none 0 0] 27) = w6 at *
    generalize w5.heap.size = D at *
    go_wp2_with fail
    refine (CW.out _ T.out.gr).mono ?_
    rintro e w7 ⟨rfl, hB⟩
    replace T := hidb (T.out.below hB.out)
    clear hB
    go_wp2_with fail
    refine (CN.out _ T.out.gr).mono ?_
    rintro e w8 ⟨rfl, hB⟩
    replace T := hidb (T.out.below hB.out)
    clear hB
    go_wp2_with fail
    refine (CN.out _ T.out.gr).mono ?_
    rintro e w9 ⟨rfl, hB⟩
    replace T := hidb (T.out.below hB.out)
    clear hB
    obtain ⟨q0, q1, q2⟩ := T.out.c0.c3
    go_wp2_with fail
    refine (nothing_any _).mono ?_
    rintro e w10 ⟨rfl, hB⟩
    replace T := hidb (T.out.below hB.out)
    clear hB q0 q1 q2
    obtain ⟨q0, q1, q2⟩ := T.out.d0.c3
    go_wp2_with fail
    refine (nothing_any _).mono ?_
    rintro e w11 ⟨rfl, hB⟩
    replace T := hidb (T.out.below hB.out)
    clear hB q0 q1 q2
    go_wp2
    go_ret
    exact ⟨rfl, T.out.gr⟩
end Go.Proofs.YtphpfongdbidoaaDoor
