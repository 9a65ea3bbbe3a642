/-
  drain: where a reach begins, and the reach.
-/
import Derived.Test.YtlhligeicnejbaaDoorQDsB
namespace Go.Proofs.YtlhligeicnejbaaDoor
open Go.RowKit
attribute [local go_sem ↓] Go.wp_at_zero Go.wp_at_succ

/-- A raster's streams as they are handed on. -/
def seV (F IS IN N : Nat) : Value := .agg #[.pointer (some ⟨F, 0, none⟩), .slice (some ⟨IS, 0, none⟩) N N, .slice (some ⟨IN, 0, none⟩) N N]
set_option maxRecDepth 4000 in
set_option maxHeartbeats 4000000 in
theorem begins_any {m n Lb Lo Lcap : Nat} {l : List Int} {q : Int} {F FL IS IN LV ob ocap : Nat} {vq : Value} {Fl : List Int} (c : Nat) (hc : c < l.length) (w : World) (h : SE w m n Lb Lo Lcap l q F FL IS IN LV ob ocap vq Fl) : Calls Tryd.prog 16 #[seV F IS IN l.length, .int .i64 (c : Int)] w fun e w' => e = .returned (.bool (bgB m n l q c)) ∧ Gr w w' := by
  have hA := (Gr.refl w).alloc (.cells #[.pointer (some ⟨F, 0, none⟩), .slice (some ⟨IS, 0, none⟩) l.length l.length, .slice (some ⟨IN, 0, none⟩) l.length l.length] 49)
  have hS := (At.below hA.out h.s).gb hc
  have hI := (At.below hA.out h.i).gi hc
  have cS := hS.1
  have cI := hI.1
  have ixS := bindex IS l.length l.length c hc
  have ixI := iindex IN 0 l.length l.length c hc
  rw [Nat.zero_add] at ixI
  have HA := hidb hA
  have hbg : bgB m n l q c = (stB m n l q c && !decide (inK m n l q l.length c = 1)) := rfl
  have hk : ((inK m n l q l.length c : Int) == 1) = decide (inK m n l q l.length c = 1) := by
    by_cases e : inK m n l q l.length c = 1
    · rw [e]; rfl
    · rw [decide_eq_false e]; exact beq_eq_false_iff_ne.2 (by omega)
  rw [hbg]
  generalize stB m n l q c = s at *
  generalize decide (inK m n l q l.length c = 1) = t at *
  generalize (inK m n l q l.length c : Int) = y at *
  generalize l.length = N at *
  clear hA hS hI hc h hbg
  show Calls Tryd.prog 16 #[.agg #[.pointer (some ⟨F, 0, none⟩), .slice (some ⟨IS, 0, none⟩) N N, .slice (some ⟨IN, 0, none⟩) N N], .int .i64 (c : Int)] w _
  cases s with
  | false =>
    clear hk cI ixI
    go_enter Tryd.func16, Tryd.ntmps16
    go_wp2
    go_ret
    exact ⟨rfl, HA.out⟩
  | true =>
    have hk' : (y != 1) = !t := by rw [bne, hk]
    clear hk
    cases t with
    | false =>
      have hy : ¬ y = 1 := fun e => by rw [e] at hk'; cases hk'
      clear hk'
      go_enter Tryd.func16, Tryd.ntmps16
      go_wp2
      go_ret
      exact ⟨by simp [hy], HA.out⟩
    | true =>
      obtain rfl : y = 1 := by
        by_cases e : y = 1
        · exact e
        · have : (y != 1) = true := bne_iff_ne.2 e
          rw [this] at hk'; cases hk'
      clear hk'
      go_enter Tryd.func16, Tryd.ntmps16
      go_wp2
      go_ret
      exact ⟨rfl, HA.out⟩
/-- What a way holds so far. -/
theorem pth_zero (m n : Nat) (l : List Int) (c : Nat) : pth m n l c 0 = [c] := rfl
set_option maxRecDepth 4000 in
set_option maxHeartbeats 8000000 in
theorem reach_any {m n Lb Lo Lcap : Nat} {l : List Int} {q : Int} {F FL IS IN LV ob ocap : Nat} {vq : Value} {Fl : List Int} (ok : Ok l m n) (c : Nat) (hc : c < l.length) (w : World) (h : SE w m n Lb Lo Lcap l q F FL IS IN LV ob ocap vq Fl) : Calls Tryd.prog 17 #[seV F IS IN l.length, .int .i64 (c : Int)] w fun e w' => ∃ v, e = .returned v ∧ ∃ base k, w'.ownsRow base 3 1 v (k + 1) (ir (on (pth m n l c k))) ∧ Stops m n l q c k ∧ k < l.length ∧ w.heap.size ≤ base ∧ Gr w w' := by
  have hlen := ok.len_le
  obtain ⟨p, hp, hpc⟩ := oc_all m n l ok.m1 ok.len hc
  have PX : Hid (PF w (w.alloc (.cells #[.pointer (some ⟨F, 0, none⟩), .slice (some ⟨IS, 0, none⟩) l.length l.length, .slice (some ⟨IN, 0, none⟩) l.length l.length] 49)) w.heap.size [.pointer (some ⟨F, 0, none⟩), .slice (some ⟨IS, 0, none⟩) l.length l.length, .slice (some ⟨IN, 0, none⟩) l.length l.length]) := ⟨At.new3 _ _ _ _ _, (Gr.refl w).alloc _⟩
  have HNx := hidb (fun W (hG : Gr w W) x (hx : x < l.length) => next_at x W ok (h.nf.below hG.out) h.fe hx)
  have HBg := hidb (fun W (hG : Gr w W) x (hx : x < l.length) => begins_any x hx W (h.below hG.out))
  unfold seV at HBg ⊢
  have HOk := hidb ok
  have HL := hidb (show c < l.length ∧ l.length ≤ 16384 from ⟨hc, hlen⟩)
  have HP := hidb (show p < l.length ∧ oc m n l p = c from ⟨hp, hpc⟩)
  obtain ⟨N, hN⟩ : ∃ N, N = l.length := ⟨_, rfl⟩
  have HN := hidb hN
  rw [← hN] at PX HNx HBg HL HP ⊢
  clear ok h hlen hp hpc hc hN
  go_enter Tryd.func17, Tryd.ntmps17
  go_upto_region 1 with fail
  generalize w.alloc (.cells #[.pointer (some ⟨F, 0, none⟩), .slice (some ⟨IS, 0, none⟩) N N, .slice (some ⟨IN, 0, none⟩) N N] 49) = w1 at *
  obtain ⟨T, hT⟩ : ∃ z, z = w.heap.size := ⟨_, rfl⟩
  rw [← hT] at PX ⊢
  have HT := hidb hT
  clear hT
  have HO := hidb (own_one w1 3 (.int .i64 (c : Int)))
  have hTl := hidb PX.out.a.lt
  have PX2 := hidb (PX.out.alloc (.cells #[.int .i64 (c : Int)] 3))
  have HC := hidb (HNx.out _ PX2.out.gr c HL.out.1)
  obtain ⟨s0, t0, hst, hnx⟩ := nxS_of m n l c
  rw [hst] at HC
  have HX := hidb hnx
  have hb1 := hidb (show w.heap.size ≤ w1.heap.size from PX.out.gr.out.size)
  have q0 := PX2.out.a.c3.1
  clear hst hnx PX
  go_wp2_with fail
  refine HC.out.mono ?_
  rintro e w3 ⟨rfl, hB3⟩
  have E0 : Hid (w3.ownsRow w1.heap.size 3 1 (.slice (some ⟨w1.heap.size, 0, none⟩) 1 1) 1 (ir (on (pth m n l c 0))) ∧ PF w w3 T [.pointer (some ⟨F, 0, none⟩), .slice (some ⟨IS, 0, none⟩) N N, .slice (some ⟨IN, 0, none⟩) N N] ∧ w1.heap.size ≤ w3.heap.size) := by
    refine ⟨own_keep HO.out hB3.out, PX2.out.below hB3.out, ?_⟩
    have := hB3.out.size; simp at this; omega
  clear hB3 HO HC PX2 q0
  obtain ⟨base, hbs⟩ : ∃ z, z = w1.heap.size := ⟨_, rfl⟩
  rw [← hbs] at E0 hb1 hTl ⊢
  clear hbs
  go_wp2
  go_loopg [5, 6, 7] p (fun gk v s t wr => ∃ (k x : Nat), Hid (gk < N ∧ oc m n l gk = x ∧ itw m n l k c = x ∧ k + gk ≤ p ∧ (∀ i, i < k → tw m n l (itw m n l i c) ≠ itw m n l i c) ∧ (∀ i, 0 < i → i < k + 1 → bgB m n l q (itw m n l i c) = false) ∧ nxS m n l x s t ∧ wr.ownsRow base 3 1 v (k + 1) (ir (on (pth m n l c k))) ∧ PF w wr T [.pointer (some ⟨F, 0, none⟩), .slice (some ⟨IS, 0, none⟩) N N, .slice (some ⟨IN, 0, none⟩) N N] ∧ base ≤ wr.heap.size))
  case atStart => exact ⟨0, c, hidb ⟨HP.out.1, HP.out.2, rfl, by omega, fun i hi => absurd hi (Nat.not_lt_zero _), fun i h1 h2 => by omega, HX.out, E0.out⟩⟩
  case round =>
    clear E0 HX
    obtain ⟨k, x, E⟩ := hrel
    obtain ⟨hg, hgx, hkx, hkp, hmn, hbn, hnx, hO, hPF, hbw⟩ := E.out
    clear E
    obtain ⟨ad1, cap1, rfl⟩ := own_shape1' hO
    rcases hnx with ⟨hf, rfl, rfl⟩ | ⟨hf, rfl, rfl⟩
    · have HZ := hidb (show wr.ownsRow base 3 1 (.slice ad1 (k + 1) cap1) (k + 1) (ir (on (pth m n l c k))) ∧ Stops m n l q c k ∧ k < N ∧ w.heap.size ≤ base ∧ Gr w wr from ⟨hO, ⟨.inl (by rw [hkx]; exact hf), hmn, fun i h1 h2 => hbn i h1 (by omega)⟩, by have := HP.out.1; omega, hb1.out, hPF.gr⟩)
      clear hg hgx hkx hkp hmn hbn hO hPF hf hbw
      go_wp2
      go_ret
      exact ⟨_, rfl, base, k, HZ.out⟩
    · have hxl : x < N := by rw [← hgx, HN.out]; exact oc_lt m n l HOk.out.m1 HOk.out.len (by rw [← HN.out]; exact hg)
      obtain ⟨j, hj, hjx⟩ : ∃ j, j < gk ∧ oc m n l j = tw m n l x := by
        have h := oc_bef m n l HOk.out.m1 HOk.out.len (k := gk) (by rw [← HN.out]; exact hg)
        rw [hgx] at h
        exact h.resolve_left hf
      have hyl := tw_lt m n l HOk.out.m1 HOk.out.len (c := x) (by rw [← HN.out]; exact hxl)
      rw [← HN.out] at hyl
      have hky : itw m n l (k + 1) c = tw m n l x := by rw [itw_succ, hkx]
      have HSn : Hid (on (pth m n l c k) ++ [(tw m n l x : Int)] = on (pth m n l c (k + 1))) := by show _ = _; rw [pth_snoc, hky]; simp [on]
      have HMn : Hid (∀ i, i < k + 1 → tw m n l (itw m n l i c) ≠ itw m n l i c) := fun i hi => by
        by_cases e : i = k
        · rw [e, hkx]; exact hf
        · exact hmn i (by omega)
      have HBn := hidb hbn
      have HJ := hidb (show j < gk ∧ j < N ∧ oc m n l j = tw m n l x ∧ itw m n l (k + 1) c = tw m n l x ∧ k + 1 + j ≤ p ∧ tw m n l x < N from ⟨hj, by omega, hjx, hky, by omega, hyl⟩)
      have HKl := hidb (show (on (pth m n l c k)).length = k + 1 ∧ k + 1 ≤ 20000 from ⟨by rw [List.length_map, pth_len], by have := HL.out; have := HP.out; omega⟩)
      have E := hidb (show wr.ownsRow base 3 1 (.slice ad1 (k + 1) cap1) (k + 1) (ir (on (pth m n l c k))) ∧ PF w wr T [.pointer (some ⟨F, 0, none⟩), .slice (some ⟨IS, 0, none⟩) N N, .slice (some ⟨IN, 0, none⟩) N N] ∧ base ≤ wr.heap.size from ⟨hO, hPF, hbw⟩)
      obtain ⟨s1, t1, hst, hnx⟩ := nxS_of m n l (tw m n l x)
      have HX := hidb hnx
      have HC := hidb (fun W (hG : Gr w W) => HNx.out W hG (tw m n l x) hyl)
      have HG := hidb (fun W (hG : Gr w W) => HBg.out W hG (tw m n l x) hyl)
      rw [hst] at HC
      generalize tw m n l x = y at *
      clear hg hgx hkx hkp hmn hbn hO hPF hf hxl hj hjx hyl hky hst hnx hbw
      go_wp2_with (at_builtin; refine wpList_i1 _ base (.slice ad1 (k + 1) cap1) (on (pth m n l c k)) (y : Int) (k + 1) wr.heap.size _ _ rfl rfl rfl rfl HKl.out.1 HKl.out.2 (E.out.1.alloc _) (At.new1 _ _ _) (by have := E.out.2.2; simp; omega) ?_; intro g2 cap2 w4 hown hgrow; obtain ⟨hAt, -, hG4, hb4⟩ := app_facts E.out.1 hgrow.out ((Gr.refl wr).alloc _) E.out.2.2 hb1.out hTl.out hTl.out E.out.2.1.a E.out.2.1.a E.out.2.1.gr; rw [HSn.out] at hown; have E4 := hidb (show w4.ownsRow base 3 1 (.slice (some ⟨g2, 0, none⟩) (k + 1 + 1) cap2) (k + 1 + 1) (ir (on (pth m n l c (k + 1)))) ∧ PF w w4 T [.pointer (some ⟨F, 0, none⟩), .slice (some ⟨IS, 0, none⟩) N N, .slice (some ⟨IN, 0, none⟩) N N] ∧ base ≤ w4.heap.size from ⟨hown.out, ⟨hAt, hG4⟩, hb4⟩); clear hown hgrow hAt hG4 hb4 E; obtain ⟨q0, q1, q2⟩ := E4.out.2.1.a.c3)
      refine (HG.out _ E4.out.2.1.gr).mono ?_
      rintro e w5 ⟨rfl, hB5⟩
      have E5 := hidb (show w5.ownsRow base 3 1 (.slice (some ⟨g2, 0, none⟩) (k + 1 + 1) cap2) (k + 1 + 1) (ir (on (pth m n l c (k + 1)))) ∧ PF w w5 T [.pointer (some ⟨F, 0, none⟩), .slice (some ⟨IS, 0, none⟩) N N, .slice (some ⟨IN, 0, none⟩) N N] ∧ base ≤ w5.heap.size from ⟨own_keep E4.out.1 hB5.out, E4.out.2.1.below hB5.out, by have := hB5.out.size; have := E4.out.2.2; omega⟩)
      clear hB5 E4 q0 q1 q2
      cases hb : bgB m n l q y with
      | true =>
        have HZ := hidb (show w5.ownsRow base 3 1 (.slice (some ⟨g2, 0, none⟩) (k + 1 + 1) cap2) (k + 1 + 1) (ir (on (pth m n l c (k + 1)))) ∧ Stops m n l q c (k + 1) ∧ k + 1 < N ∧ w.heap.size ≤ base ∧ Gr w w5 from ⟨E5.out.1, ⟨.inr ⟨by omega, by rw [HJ.out.2.2.2.1]; exact hb⟩, HMn.out, fun i h1 h2 => HBn.out i h1 (by omega)⟩, by have := HP.out.1; have := HJ.out.2.2.2.2.1; omega, hb1.out, E5.out.2.1.gr⟩)
        clear hb E5
        go_wp2
        go_ret
        exact ⟨_, rfl, base, k + 1, HZ.out⟩
      | false =>
        have HBn2 : Hid (∀ i, 0 < i → i < k + 1 + 1 → bgB m n l q (itw m n l i c) = false) := fun i h1 h2 => by
          by_cases e : i = k + 1
          · rw [e, HJ.out.2.2.2.1]; exact hb
          · exact HBn.out i h1 (by omega)
        have q0 := E5.out.2.1.a.c3.1
        clear hb
        go_wp2_with fail
        refine (HC.out _ E5.out.2.1.gr).mono ?_
        rintro e w6 ⟨rfl, hB6⟩
        have E6 := hidb (show w6.ownsRow base 3 1 (.slice (some ⟨g2, 0, none⟩) (k + 1 + 1) cap2) (k + 1 + 1) (ir (on (pth m n l c (k + 1)))) ∧ PF w w6 T [.pointer (some ⟨F, 0, none⟩), .slice (some ⟨IS, 0, none⟩) N N, .slice (some ⟨IN, 0, none⟩) N N] ∧ base ≤ w6.heap.size from ⟨own_keep E5.out.1 hB6.out, E5.out.2.1.below hB6.out, by have := hB6.out.size; have := E5.out.2.2; omega⟩)
        clear hB6 E5 q0
        go_wp2
        go_roundg j
        case measure => exact HJ.out.1
        case rel => exact ⟨k + 1, y, hidb ⟨HJ.out.2.1, HJ.out.2.2.1, HJ.out.2.2.2.1, HJ.out.2.2.2.2.1, HMn.out, HBn2.out, HX.out, E6.out⟩⟩
end Go.Proofs.YtlhligeicnejbaaDoor
