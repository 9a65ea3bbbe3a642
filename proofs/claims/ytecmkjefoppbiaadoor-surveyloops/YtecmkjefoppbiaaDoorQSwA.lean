/-
  mercatorlaw3.measured, walked.
-/
import Derived.Test.YtecmkjefoppbiaaDoorQSvZ
namespace Go.Proofs.YtecmkjefoppbiaaDoor
open Go.RowKit
attribute [local go_sem ↓] Go.wp_at_zero Go.wp_at_succ

theorem ME.oat {w W w' : World} {OB RB base : Nat} {M B : Int} {rc : List Value} {v : Value} {l : List Sn} {ob : Obj} (h : ME w W OB RB base M B rc v l) (hg : (W.alloc ob).grownBy w' v.ownBlock) : w'.cell? ⟨OB, 2, none⟩ = some v ∧ w'.frozen? ⟨OB, 2, none⟩ = false := by
  have := ((h.o.alloc ob).grw1 hg (fun e => by have := (h.r.lt _ e).1; have := h.b; omega)).1 2 (by simp)
  simpa using this
section
variable {l : List Sn} {ad : Option Addr} {b o cap pb po : Nat}
set_option maxRecDepth 4000 in
set_option maxHeartbeats 16000000 in
theorem measured_any (w : World) {M B : Int} (hS : SIn w pb po M B ad b o cap l) (hn : l.length ≤ 80) : Calls Tryd.prog 5 #[.pointer (some ⟨pb, po, none⟩)] w fun e w' => ∃ ad' b' cap', e = .returned (svV M B (.slice ad' l.length cap')) ∧ SeL 32 w' ad' b' 0 cap' l ∧ Gr w w' := by
  have HS := hidb hS
  have HIx := hidb hS.sl.ix
  have HPt := hidb (fun W (hG : Gr w W) => (hS.below hG).pt)
  obtain ⟨n, hn'⟩ : ∃ n, n = l.length := ⟨_, rfl⟩
  have HNl : Hid (n = l.length ∧ n ≤ 80) := ⟨hn', by omega⟩
  rw [← hn'] at HIx HPt ⊢
  obtain ⟨p0, p1, p2⟩ := HPt.out w (Gr.refl w)
  have A0 := At.new3 w (.int .i64 0) (.int .i64 0) (.slice none 0 0) 34
  have hpb : pb < w.heap.size := lt_of_cell p0
  clear hS hn hn'
  unfold svV
  go_enter Tryd.func5, Tryd.ntmps5
  go_upto_region 1 with fail
  go_region
  go_upto_region 2 with fail
  obtain ⟨RB, hRB⟩ : ∃ z, z = w.heap.size := ⟨_, rfl⟩
  have HRb := hidb hRB
  have hne : ¬ RB + 1 = RB := by omega
  have E0 : Hid (ME w ((w.alloc (.cells #[.int .i64 0, .int .i64 0, .slice none 0 0] 34)).alloc (.cells #[.int .i64 M, .int .i64 B, .slice none 0 0] 34)).drew (RB + 1) RB (RB + 2) M B [.int .i64 0, .int .i64 0, .slice none 0 0] (.slice none 0 0) (l.take 0)) := by
    have h2 := At.nx3 (W := w) (.cells #[.int .i64 0, .int .i64 0, .slice none 0 0] 34) (.int .i64 M) (.int .i64 B) (.slice none 0 0) 34
    rw [hRB]
    exact ⟨h2.drew, ((At.new3 w _ _ _ _).alloc _).drew, World.ownsRow_nil _ _ _ _, (((Gr.refl w).alloc _).alloc _).drew, by omega, by omega, by omega, by simp⟩
  rw [← hRB]
  generalize ((w.alloc (.cells #[.int .i64 0, .int .i64 0, .slice none 0 0] 34)).alloc (.cells #[.int .i64 M, .int .i64 B, .slice none 0 0] 34)).drew = W2 at *
  clear p0 p1 p2 A0 hpb hRB
  go_wp2
  go_loopw [4] (fun t wr => ∃ (k : Nat) (v : Value), k ≤ n ∧ t = .int .i64 (k : Int) ∧ Hid (ME w wr (RB + 1) RB (RB + 2) M B [.int .i64 0, .int .i64 0, .slice none 0 0] v (l.take k))) (fun t _ => n - (intOf t).toNat)
  case atStart => exact ⟨0, _, Nat.zero_le _, rfl, E0⟩
  case round =>
    clear E0
    obtain ⟨k, v, hk, rfl, E⟩ := hrel
    obtain ⟨p0, p1, p2⟩ := HPt.out wr E.out.gr
    by_cases h1 : ¬ k < n
    · have h1' : ¬ (k : Int) < (n : Int) := by omega
      have HL : Hid (l.take k = l) := List.take_of_length_le (by rw [← HNl.out.1]; omega)
      rw [HL.out] at E
      obtain ⟨ad1, b1, cap1, rfl, hse⟩ := own_se E.out.r
      have HSe := hidb hse
      rw [← HNl.out.1] at E
      obtain ⟨y0, y1, y2⟩ := E.out.o.c3
      obtain ⟨x0, x1, x2⟩ := E.out.q.c3
      have f0 := (E.out.q.1 0 (by simp)).2
      have f1 := (E.out.q.1 1 (by simp)).2
      have f2 := (E.out.q.1 2 (by simp)).2
      clear h1 hk hse
      go_wp2
      refine bodyPost_ret (v := .agg #[.int .i64 M, .int .i64 B, .slice ad1 n cap1]) (by simp [results, Tryd.results5, go_sem, x0, x1, x2]) rfl ?_
      obtain ⟨ad2, b2, cap2, hv, hse2⟩ := own_se (own_over (own_over (own_over E.out.r (show RB < RB + 2 by omega) 0 (.int .i64 M)) (show RB < RB + 2 by omega) 1 (.int .i64 B)) (show RB < RB + 2 by omega) 2 (.slice ad1 n cap1))
      simp only [Value.slice.injEq] at hv
      obtain ⟨rfl, -, rfl⟩ := hv
      exact ⟨_, b2, _, rfl, hse2, ((E.out.gr.set (by have := HRb.out; omega) _ _).set (by have := HRb.out; omega) _ _).set (by have := HRb.out; omega) _ _⟩
    · have h1' : (k : Int) < (n : Int) := by omega
      have H1 := hidb (show k < n by omega)
      have hkl : k < l.length := by have := HNl.out; omega
      have ix := HIx.out k H1.out
      obtain ⟨⟨c0, c1, c2, c3⟩, -⟩ := (HS.out.below E.out.gr).sl.row k hkl
      have e9 : IntKind.i64.wrap ((k : Int) + 1) = ((k + 1 : Nat) : Int) := by rw [show (k : Int) + 1 = ((k + 1 : Nat) : Int) by omega]; exact wr_in (by omega) (by have := HNl.out; omega)
      have HTk : Hid (l.take (k + 1) = l.take k ++ [snX l k]) := by
        show _ = _
        rw [List.take_succ_eq_append_getElem hkl]
        simp [snX, hkl]
      have hlk : (l.take k).length = k := by rw [List.length_take]; omega
      obtain ⟨x, hx⟩ : ∃ x, x = snX l k := ⟨_, rfl⟩
      rw [← hx] at c0 c1 c2 c3 HTk
      obtain ⟨f, t, u, gw⟩ := x
      dsimp only at c0 c1 c2 c3
      obtain ⟨ad1, cap1, rfl⟩ := own_sh4 E.out.r
      rw [hlk] at E
      have AR := hidb (At.new4 wr (.int .i64 f) (.int .i64 t) (.int .i64 u) (.int .i64 gw) 51)
      have E2 := hidb (E.out.below ((Below.refl _ _).alloc (Nat.le_refl _) (.cells #[.int .i64 f, .int .i64 t, .int .i64 u, .int .i64 gw] 51)))
      have HLk := hidb hlk
      clear h1 hk hkl hx hlk
      go_upto_region 6 with fail
      clear c0 c1 c2 c3 ix p0 p1 p2 E
      obtain ⟨NB, hNB⟩ : ∃ z, z = wr.heap.size := ⟨_, rfl⟩
      rw [← hNB] at AR ⊢
      generalize wr.alloc (.cells #[.int .i64 f, .int .i64 t, .int .i64 u, .int .i64 gw] 51) = W3 at *
      clear hNB
      obtain ⟨c0, c1, c2, c3⟩ := AR.out.c4
      obtain ⟨y0, y1, y2⟩ := E2.out.o.c3
      have HR : Hid (W3.ownsRow (RB + 2) 47 4 (.slice ad1 k cap1) k (scL (l.take k)) ∧ RB + 2 ≤ W3.heap.size) := ⟨by have := E2.out.r; rw [HLk.out] at this; exact this, E2.out.b.2.2.2⟩
      go_upto_region 4 with (at_builtin; refine wpList_se _ (RB + 2) (.slice ad1 k cap1) (l.take k) ⟨f, t, u, gw⟩ k W3.heap.size _ _ rfl rfl rfl rfl (by have := HNl.out; have := H1.out; omega) (own_kept HR.out.1 ((Below.refl _ _).alloc (Nat.le_refl _) _)) (At.new4 _ _ _ _ _ _) (by have := HR.out.2; simp; omega) (W3.heap.size + 1) (by simp) ?_; intro g2 cap2 w4 hown hgrow; have q4 := E2.out.oat hgrow.out; obtain ⟨q40, q41⟩ := q4)
      have E4 := hidb (ME.app (x := ⟨f, t, u, gw⟩) E2.out hne (by rw [HLk.out]; exact hown.out) hgrow.out)
      rw [HLk.out, ← HTk.out] at E4
      clear hown hgrow q40 q41 E2 HR
      generalize w4.setCell _ _ = W5 at *
      go_wp2
      go_roundw
      case rel => exact ⟨k + 1, _, H1.out, by go_num, E4⟩
      case measure => have := H1.out; simp [intOf]; omega
end
end Go.Proofs.YtecmkjefoppbiaaDoor
