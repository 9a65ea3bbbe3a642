/-
  slices.Clone of whole numbers.; drain.Way.
-/
import Derived.Test.YtbkggcfogmgmmaaDoorQGaA
import Derived.Test.YtbkggcfogmgmmaaDoorQJ5
namespace Go.Proofs.YtbkggcfogmgmmaaDoor
open Go.RowKit
attribute [local go_sem ↓] Go.wp_at_zero Go.wp_at_succ

theorem own_empty (w : World) (t : Nat) : (w.alloc (.cells #[] t)).ownsRow w.heap.size t 1 (.slice (some ⟨w.heap.size, 0, none⟩) 0 0) 0 [] := by
  refine ⟨rfl, .inr ⟨w.heap.size, 0, #[], rfl, Nat.le_refl _, by show (w.heap.push _)[w.heap.size]? = _; simp, Nat.le_refl _, Nat.zero_le _, rfl, rfl⟩⟩
theorem own_at2 {w : World} {base g n cp : Nat} {l : List Int} (h : w.ownsRow base 3 1 (.slice (some ⟨g, 0, none⟩) n cp) n (ir l)) : At w g (ir l) := by
  have hn : n = l.length := by have := h.1; simp [ir] at this; omega
  have hlt := (h.lt g rfl).2
  obtain ⟨h1, h2 | ⟨g', cap, cur, hv, hb, hg, hc, hm, hs, ht⟩⟩ := h
  · obtain ⟨hv, _⟩ := h2; cases hv
  · simp only [Value.slice.injEq, Option.some.injEq, Addr.mk.injEq, and_true] at hv
    obtain ⟨rfl, _, rfl⟩ := hv
    refine ⟨fun i hi => ?_, hlt⟩
    have e : cur.toList[i]? = some (ir l)[i] := by
      have : (cur.toList.take (n * 1))[i]? = (ir l)[i]? := by rw [ht]
      rw [List.getElem?_take, if_pos (by rw [Nat.mul_one, hn]; simpa [ir] using hi), List.getElem?_eq_getElem hi] at this
      exact this
    constructor
    · simp [World.cell?, hg]
      simpa using e
    · simp [World.frozen?, hg]
set_option maxRecDepth 4000 in
set_option maxHeartbeats 4000000 in
theorem clone_any {b o cap : Nat} {l : List Int} (w : World) (h : Rs w b o cap l) (h1 : 1 ≤ l.length) (ll : l.length ≤ 20000) : Calls Tryd.prog 67 #[.slice (some ⟨b, o, none⟩) l.length cap] w fun e w' => ∃ g cp, e = .returned (.slice (some ⟨g, 0, none⟩) l.length cp) ∧ At w' g (ir l) ∧ w.heap.size ≤ g ∧ Gr w w' := by
  have G0 := hidb ((Gr.refl w).alloc (.cells #[] 3))
  have HO := hidb (own_empty w 3)
  have HR := hidb (h.below G0.out.out)
  have HL := hidb (show 1 ≤ l.length ∧ l.length ≤ 20000 from ⟨h1, ll⟩)
  have hml : 30000 ≤ maxLen := by decide
  obtain ⟨i0, hi, hz0, hz1, hz2⟩ := info_parts infoJ
  obtain ⟨N, hN⟩ : ∃ N, N = l.length := ⟨_, rfl⟩
  have HN := hidb hN
  rw [← hN] at HL ⊢
  clear h h1 ll hN
  have hne : ∀ w, (binOp .eql 25 (.slice (some ⟨b, o, none⟩) N cap) (.slice none 0 0)).run Tryd.prog w = .ok (.bool false) w := fun w => by kernel_rfl
  go_enter Tryd.func67, Tryd.ntmps67
  go_wp2_with (at_builtin; refine wpList_append_own _ rfl _ _ _ rfl w.heap.size _ i0 (.int .i64 0) 1 8 undI hi hz0 hz1 hz2 rfl (by decide) (.slice (some ⟨w.heap.size, 0, none⟩) 0 0) 0 [] rfl HO.out ⟨b, o, none⟩ N cap (ir l) rfl (by rw [HN.out]; simp [ir]) ?_ (ones_ir l) (by have := HL.out; omega) (by have := HL.out; omega) (by simp) ?_)
  · intro j u hu
    have hj : j < l.length := by
      rcases Nat.lt_or_ge j l.length with c | c
      · exact c
      · rw [List.getElem?_eq_none (by simpa [ir] using c)] at hu; cases hu
    rw [add_none, HR.out.row j hj]
    rw [List.getElem?_eq_getElem (by simpa [ir] using hj)] at hu
    rw [← hu]
    simp [ir]
  · intro v' w' hown hgrow _
    have hown' := hown
    have hlt := hown.lt
    obtain ⟨_, ⟨_, h0⟩ | ⟨g, cp, cur, rfl, _⟩⟩ := hown'
    · have := HL.out; omega
    · have HZ := hidb (show At w' g (ir l) ∧ w.heap.size ≤ g ∧ Gr w w' from ⟨own_at2 hown, (hlt g rfl).1, Below.grown G0.out.out hgrow (by simp) (fun k e => by cases e; exact Nat.le_refl _)⟩)
      clear hown hgrow hlt
      go_wp2
      go_ret
      exact ⟨g, cp, rfl, HZ.out⟩
end Go.Proofs.YtbkggcfogmgmmaaDoor
namespace Go.Proofs.YtbkggcfogmgmmaaDoor
open Go.RowKit
attribute [local go_sem ↓] Go.wp_at_zero Go.wp_at_succ

/-- A cell and those after it, k steps far. -/
def pth (m n : Nat) (l : List Int) (c k : Nat) : List Nat := (List.range (k + 1)).map (fun i => itw m n l i c)
theorem pth_len (m n : Nat) (l : List Int) (c k : Nat) : (pth m n l c k).length = k + 1 := by simp [pth]
theorem pth_snoc (m n : Nat) (l : List Int) (c k : Nat) : pth m n l c (k + 1) = pth m n l c k ++ [itw m n l (k + 1) c] := by unfold pth; rw [List.range_succ, List.map_append]; rfl
/-- The water comes to the rim after k steps. -/
def Ends (m n : Nat) (l : List Int) (c k : Nat) : Prop := tw m n l (itw m n l k c) = itw m n l k c ∧ ∀ i, i < k → tw m n l (itw m n l i c) ≠ itw m n l i c
theorem Ends.uniq {m n : Nat} {l : List Int} {c k k' : Nat} (h : Ends m n l c k) (h' : Ends m n l c k') : k = k' := by
  rcases Nat.lt_trichotomy k k' with c1 | c1 | c1
  · exact absurd h.1 (h'.2 k c1)
  · exact c1
  · exact absurd h'.1 (h.2 k' c1)
theorem own_one (w : World) (t : Nat) (x : Value) : (w.alloc (.cells #[x] t)).ownsRow w.heap.size t 1 (.slice (some ⟨w.heap.size, 0, none⟩) 1 1) 1 [x] := by
  refine ⟨rfl, .inr ⟨w.heap.size, 1, #[x], rfl, Nat.le_refl _, by show (w.heap.push _)[w.heap.size]? = _; simp, Nat.le_refl _, by decide, rfl, rfl⟩⟩
theorem nbA_none {m n : Nat} {l : List Int} {x : Nat} (h : tw m n l x = x) : nbA (nxO m n l x) = .tuple #[.int .i64 0, .bool false] := by rw [nxO_tw, if_pos h]; rfl
theorem nbA_some {m n : Nat} {l : List Int} {x : Nat} (h : ¬ tw m n l x = x) : nbA (nxO m n l x) = .tuple #[.int .i64 (tw m n l x : Int), .bool true] := by rw [nxO_tw, if_neg h]; rfl
/-- What next tells, part by part. -/
def nxS (m n : Nat) (l : List Int) (x : Nat) (s t : Value) : Prop := (tw m n l x = x ∧ s = .int .i64 0 ∧ t = .bool false) ∨ (¬ tw m n l x = x ∧ s = .int .i64 (tw m n l x : Int) ∧ t = .bool true)
theorem nxS_of (m n : Nat) (l : List Int) (x : Nat) : ∃ s t, nbA (nxO m n l x) = .tuple #[s, t] ∧ nxS m n l x s t := by
  by_cases h : tw m n l x = x
  · exact ⟨_, _, nbA_none h, .inl ⟨h, rfl, rfl⟩⟩
  · exact ⟨_, _, nbA_some h, .inr ⟨h, rfl, rfl⟩⟩
set_option maxRecDepth 4000 in
set_option maxHeartbeats 8000000 in
theorem way_ok (g : Nat → Addr) {m n Lb Lo Lcap : Nat} {l : List Int} (c : Nat) (hc : c < l.length) (w : World) (hR : Rs w Lb Lo Lcap l) (ok : Ok l m n) (hv : vcode m n l = 0) (hl : Lai w g) : Calls Tryd.prog 20 #[raV m n (.slice (some ⟨Lb, Lo, none⟩) l.length Lcap), .int .i64 (c : Int)] w fun e w' => ∃ v, e = .returned (.tuple #[v, .nilIface]) ∧ ∃ base k, w'.ownsRow base 3 1 v (k + 1) (ir (on (pth m n l c k))) ∧ Ends m n l c k ∧ w.heap.size ≤ base ∧ Gr w w' := by
  have hlen := ok.len_le
  obtain ⟨p, hp, hpc⟩ := oc_all m n l ok.m1 ok.len hc
  have PX : Hid (PF w (w.alloc (.cells #[.int .i64 (m : Int), .int .i64 (n : Int), .slice (some ⟨Lb, Lo, none⟩) l.length Lcap] 27)) w.heap.size [.int .i64 (m : Int), .int .i64 (n : Int), .slice (some ⟨Lb, Lo, none⟩) l.length Lcap]) := ⟨At.new3 _ _ _ _ _, (Gr.refl w).alloc _⟩
  have C1 := hidb (valid_lai g m n _ Lb Lo Lcap l _ (hR.below PX.out.gr.out).isl (by omega) (hl.below PX.out.gr.out))
  rw [hv, show evc g 0 = .nilIface from rfl] at C1
  have HW := hidb (fun W => dwithin_any (c : Int) 0 ((l.length : Int) - 1) W)
  rw [inI_of (show 0 ≤ (c : Int) ∧ (c : Int) ≤ (l.length : Int) - 1 by omega)] at HW
  have HF := hidb (fun W (hG : Gr w W) => flooded_any W (hR.below hG.out) ok)
  have HNx := hidb (fun (w2 W : World) F base LV FL Lv Fl vo vq q (h : FM W w2 base F LV FL l.length (.int .i64 (m : Int)) (.int .i64 (n : Int)) (.slice (some ⟨Lb, Lo, none⟩) l.length Lcap) Lv Fl vo (flo m n l l.length).ord vq q) (hs : Syn m l (flo m n l l.length) Lv Fl q) x (hx : x < l.length) W' (hG : Gr w2 W') => next_any x W' ok (h.below hG.out) hs hx)
  have HOk := hidb ok
  have HL := hidb (show c < l.length ∧ l.length ≤ 16384 from ⟨hc, hlen⟩)
  have HP := hidb (show p < l.length ∧ oc m n l p = c from ⟨hp, hpc⟩)
  obtain ⟨n1, hn1, e0⟩ : ∃ z : Int, z = (l.length : Int) - 1 ∧ IntKind.i64.wrap ((l.length : Int) - 1) = z := ⟨_, rfl, wrap_in (by omega) (by omega)⟩
  rw [← hn1] at HW
  obtain ⟨N, hN⟩ : ∃ N, N = l.length := ⟨_, rfl⟩
  have HN := hidb hN
  rw [← hN] at PX C1 HF HNx HL HP e0 ⊢
  clear hR ok hv hl hlen hp hpc hc hn1 hN
  show Calls Tryd.prog 20 #[.agg #[.int .i64 (m : Int), .int .i64 (n : Int), .slice (some ⟨Lb, Lo, none⟩) N Lcap], .int .i64 (c : Int)] w _
  go_enter Tryd.func20, Tryd.ntmps20
  obtain ⟨q0, q1, q2⟩ := PX.out.a.c3
  go_wp2_with fail
  refine C1.out.mono ?_
  rintro e w1 ⟨rfl, hB⟩
  clear q0 q1 q2
  replace PX := hidb (PX.out.below hB.out)
  clear hB C1
  obtain ⟨q0, q1, q2⟩ := PX.out.a.c3
  go_wp2_with fail
  refine (HW.out _).mono ?_
  rintro e w1b ⟨rfl, rfl⟩
  go_wp2_with fail
  refine (HF.out _ PX.out.gr).mono ?_
  rintro e w2 ⟨F, base, LV, FL, Lv, Fl, vo, vq, q, rfl, hM, hS⟩
  have HNy := hidb (HNx.out w2 _ F base LV FL Lv Fl vo vq q hM hS)
  have G2 := hidb (Gr.step PX.out.gr hM.gr.out)
  have HO := hidb (own_one w2 3 (.int .i64 (c : Int)))
  have hGa := (Gr.refl w2).alloc (.cells #[.int .i64 (c : Int)] 3)
  have HC := hidb (HNy.out c HL.out.1 _ hGa)
  have HGa := hidb hGa
  obtain ⟨s0, t0, hst, hnx⟩ := nxS_of m n l c
  rw [hst] at HC
  have HX := hidb hnx
  clear hM hS q0 q1 q2 HNx HF PX hGa hst hnx HW e0
  go_wp2_with fail
  refine HC.out.mono ?_
  rintro e w3 ⟨rfl, hB3⟩
  have E0 : Hid (w3.ownsRow w2.heap.size 3 1 (.slice (some ⟨w2.heap.size, 0, none⟩) 1 1) 1 (ir (on (pth m n l c 0))) ∧ Gr w2 w3) := ⟨own_keep HO.out hB3.out, Gr.step HGa.out hB3.out⟩
  clear hB3 HO HC HGa
  go_wp2
  go_loopg [8, 9, 10] p (fun gk v s t wr => ∃ (k x : Nat), Hid (gk < N ∧ oc m n l gk = x ∧ itw m n l k c = x ∧ k + gk ≤ p ∧ (∀ i, i < k → tw m n l (itw m n l i c) ≠ itw m n l i c) ∧ nxS m n l x s t ∧ wr.ownsRow w2.heap.size 3 1 v (k + 1) (ir (on (pth m n l c k))) ∧ Gr w2 wr))
  case atStart => exact ⟨0, c, hidb ⟨HP.out.1, HP.out.2, rfl, by omega, fun i hi => absurd hi (Nat.not_lt_zero _), HX.out, E0.out⟩⟩
  case round =>
    clear E0 HX
    obtain ⟨k, x, E⟩ := hrel
    obtain ⟨hg, hgx, hkx, hkp, hmn, hnx, hO, hG⟩ := E.out
    clear E
    obtain ⟨ad1, cap1, rfl⟩ := own_shape1' hO
    rcases hnx with ⟨hf, rfl, rfl⟩ | ⟨hf, rfl, rfl⟩
    · have HZ := hidb (show wr.ownsRow w2.heap.size 3 1 (.slice ad1 (k + 1) cap1) (k + 1) (ir (on (pth m n l c k))) ∧ Ends m n l c k ∧ w.heap.size ≤ w2.heap.size ∧ Gr w wr from ⟨hO, ⟨by rw [hkx]; exact hf, hmn⟩, G2.out.out.size, Gr.step G2.out hG.out⟩)
      clear hg hgx hkx hkp hmn hO hG hf
      go_wp2
      go_ret2
      exact ⟨_, rfl, w2.heap.size, k, HZ.out⟩
    · have hxl : x < N := by rw [← hgx, HN.out]; exact oc_lt m n l HOk.out.m1 HOk.out.len (by rw [← HN.out]; exact hg)
      obtain ⟨j, hj, hjx⟩ : ∃ j, j < gk ∧ oc m n l j = tw m n l x := by
        have h := oc_bef m n l HOk.out.m1 HOk.out.len (k := gk) (by rw [← HN.out]; exact hg)
        rw [hgx] at h
        exact h.resolve_left hf
      have hyl := tw_lt m n l HOk.out.m1 HOk.out.len (c := x) (by rw [← HN.out]; exact hxl)
      rw [← HN.out] at hyl
      have hky : itw m n l (k + 1) c = tw m n l x := by rw [itw_succ, hkx]
      have HSn : Hid (on (pth m n l c k) ++ [(tw m n l x : Int)] = on (pth m n l c (k + 1))) := by show _ = _; rw [pth_snoc, hky]; simp [on]
      have HMn : Hid (∀ i, i < k + 1 → tw m n l (itw m n l i c) ≠ itw m n l i c) := fun i hi => by
        by_cases e : i = k
        · rw [e, hkx]; exact hf
        · exact hmn i (by omega)
      have HJ := hidb (show j < gk ∧ j < N ∧ oc m n l j = tw m n l x ∧ itw m n l (k + 1) c = tw m n l x ∧ k + 1 + j ≤ p ∧ tw m n l x < N from ⟨hj, by omega, hjx, hky, by omega, hyl⟩)
      have HKl := hidb (show (on (pth m n l c k)).length = k + 1 ∧ k + 1 ≤ 20000 from ⟨by rw [List.length_map, pth_len], by have := HL.out; have := HP.out; omega⟩)
      have E := hidb (show wr.ownsRow w2.heap.size 3 1 (.slice ad1 (k + 1) cap1) (k + 1) (ir (on (pth m n l c k))) ∧ Gr w2 wr from ⟨hO, hG⟩)
      obtain ⟨s1, t1, hst, hnx⟩ := nxS_of m n l (tw m n l x)
      have HX := hidb hnx
      have HC := hidb (fun W (hG : Gr w2 W) => HNy.out (tw m n l x) hyl W hG)
      rw [hst] at HC
      generalize tw m n l x = y at *
      clear hg hgx hkx hkp hmn hO hG hf hxl hj hjx hyl hky hst hnx
      go_wp2_with (at_builtin; refine wpList_i1 _ w2.heap.size (.slice ad1 (k + 1) cap1) (on (pth m n l c k)) (y : Int) (k + 1) wr.heap.size _ _ rfl rfl rfl rfl HKl.out.1 HKl.out.2 (E.out.1.alloc _) (At.new1 _ _ _) (by have := E.out.2.out.size; simp; omega) ?_; intro g2 cap2 w4 hown hgrow)
      have G4 := hidb (gr_app E.out.2 E.out.1 (Nat.le_refl _) hgrow.out)
      rw [HSn.out] at hown
      clear hgrow
      refine (HC.out _ G4.out).mono ?_
      rintro e w5 ⟨rfl, hB5⟩
      have HE5 : Hid (w5.ownsRow w2.heap.size 3 1 (.slice (some ⟨g2, 0, none⟩) (k + 1 + 1) cap2) (k + 1 + 1) (ir (on (pth m n l c (k + 1)))) ∧ Gr w2 w5) := ⟨own_keep hown.out hB5.out, Gr.step G4.out hB5.out⟩
      clear hown hB5 G4
      go_wp2
      go_roundg j
      case measure => exact HJ.out.1
      case rel => exact ⟨k + 1, y, hidb ⟨HJ.out.2.1, HJ.out.2.2.1, HJ.out.2.2.2.1, HJ.out.2.2.2.2.1, HMn.out, HX.out, HE5.out⟩⟩
end Go.Proofs.YtbkggcfogmgmmaaDoor
