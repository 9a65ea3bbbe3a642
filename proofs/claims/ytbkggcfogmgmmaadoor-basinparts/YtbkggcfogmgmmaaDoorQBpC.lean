/-
  mercatorref4.HomeOf, mercatorlaw4.homes.
-/
import Derived.Test.YtbkggcfogmgmmaaDoorQJ5
import Derived.Test.YtbkggcfogmgmmaaDoorQDrT
namespace Go.Proofs.YtbkggcfogmgmmaaDoor
open Go.RowKit
attribute [local go_sem ↓] Go.wp_at_zero Go.wp_at_succ

/-- The reference's flood says where each flows. -/
def TwL (m n : Nat) (l Lt : List Int) : Prop := Lt.length = l.length ∧ ∀ i, i < l.length → gl Lt i = (tw m n l i : Int)
theorem TwL.of {m n : Nat} {l Lf Lt Ls : List Int} (ok : Ok l m n) (h : RSy l (flo m n l l.length) Lf Lt Ls) : TwL m n l Lt :=
  ⟨h.ll.2.1, fun i hi => by
    rw [h.t i hi]
    unfold twV
    rw [if_neg (by rw [flo_all m n l ok.m1 ok.len i hi]; omega)]
    rfl⟩
set_option maxRecDepth 4000 in
set_option maxHeartbeats 8000000 in
theorem homeOf_any {m n : Nat} {l Lt : List Int} (ok : Ok l m n) {TO : Nat} (v1 v3 : Value) (c : Nat) (hc : c < l.length) (w : World) (hT : At w TO (ir Lt)) (hLt : TwL m n l Lt) : Calls Tryd.prog 53 #[.agg #[v1, .slice (some ⟨TO, 0, none⟩) l.length l.length, v3], .int .i64 (c : Int)] w fun e w' => e = .returned (.int .i64 (hom m n l c : Int)) ∧ Gr w w' := by
  obtain ⟨p, hp, hpc⟩ := oc_all m n l ok.m1 ok.len hc
  have A0 := hidb (At.new3 w v1 (.slice (some ⟨TO, 0, none⟩) l.length l.length) v3 37)
  have G0 := hidb ((Gr.refl w).alloc (.cells #[v1, .slice (some ⟨TO, 0, none⟩) l.length l.length, v3] 37))
  have AT := hidb (hT.alloc (.cells #[v1, .slice (some ⟨TO, 0, none⟩) l.length l.length, v3] 37))
  have HTw := hidb hLt
  have HOk := hidb ok
  obtain ⟨z, hz⟩ : ∃ z : Int, z = (hom m n l c : Int) := ⟨_, rfl⟩
  rw [← hz]
  have HZ := hidb hz
  obtain ⟨N, hN⟩ : ∃ N, N = l.length := ⟨_, rfl⟩
  have HN := hidb hN
  rw [← hN] at A0 G0 AT hp ⊢
  have HP := hidb (show p < N ∧ oc m n l p = c from ⟨hp, hpc⟩)
  clear hc hT hLt ok hz hN hp hpc
  go_enter Tryd.func53, Tryd.ntmps53
  go_wp2
  generalize w.alloc (.cells #[v1, .slice (some ⟨TO, 0, none⟩) N N, v3] 37) = w1 at *
  go_loopg [1] p (fun gk s wr => ∃ x : Nat, s = .int .i64 (x : Int) ∧ Hid (gk < N ∧ oc m n l gk = x ∧ hom m n l x = hom m n l c ∧ wr = w1))
  case atStart => exact ⟨c, rfl, hidb ⟨HP.out.1, HP.out.2, rfl, rfl⟩⟩
  case round =>
    obtain ⟨x, rfl, E⟩ := hrel
    have hwr := E.out.2.2.2
    subst hwr
    have hxl : x < l.length := by rw [← E.out.2.1]; exact oc_lt m n l HOk.out.m1 HOk.out.len (by rw [← HN.out]; exact E.out.1)
    have hxN : x < N := by rw [HN.out]; exact hxl
    have ix := iindex TO 0 N N x hxN
    rw [Nat.zero_add] at ix
    have cT := (AT.out.get (j := x) (by rw [HTw.out.1]; exact hxl)).1
    rw [gl_get (by rw [HTw.out.1]; exact hxl), HTw.out.2 x hxl] at cT
    have q1 := A0.out.c3.2.1
    by_cases hf : tw m n l x = x
    · have HE : Hid (z = (x : Int)) := by show _ = _; rw [HZ.out, ← E.out.2.2.1, hom_self m n l hf]
      rw [hf] at cT
      clear E hf hxl hxN
      go_wp2
      go_ret
      exact ⟨by rw [HE.out]; rfl, G0.out⟩
    · have HE : Hid (∃ j, j < gk ∧ oc m n l j = tw m n l x) := by
        have h := (oc_bef m n l HOk.out.m1 HOk.out.len (k := gk) (by rw [← HN.out]; exact E.out.1))
        rw [E.out.2.1] at h
        exact h.resolve_left hf
      have HH : Hid (hom m n l (tw m n l x) = hom m n l c) := by show _ = _; rw [hom_tw m n l HOk.out.m1 HOk.out.len hxl]; exact E.out.2.2.1
      have hf' : ¬ ((tw m n l x : Nat) : Int) = (x : Int) := by omega
      have HG := hidb E.out.1
      generalize tw m n l x = y at *
      clear E hf hxl hxN
      obtain ⟨j, hj, hjy⟩ := HE.out
      have HJ := hidb (show j < gk ∧ oc m n l j = y from ⟨hj, hjy⟩)
      clear hj hjy
      go_wp2
      go_roundg j
      case measure => exact HJ.out.1
      case rel => exact ⟨y, rfl, hidb ⟨by have := HJ.out.1; have := HG.out; omega, HJ.out.2, HH.out, rfl⟩⟩
/-- The first so many basins. -/
def hmP (m n : Nat) (l : List Int) (k : Nat) : List Int := (List.range k).map (fun c => (hom m n l c : Int))
theorem hmP_snoc (m n : Nat) (l : List Int) (k : Nat) : hmP m n l k ++ [(hom m n l k : Int)] = hmP m n l (k + 1) := by simp [hmP, List.range_succ]
theorem hmP_len (m n : Nat) (l : List Int) (k : Nat) : (hmP m n l k).length = k := by simp [hmP]
/-- What lies in memory while the homes are told. -/
structure HB (w W : World) (T TO base k : Nat) (t : List Value) (Lt : List Int) (v : Value) (xs : List Int) : Prop where
  t : At W T t
  o : At W TO (ir Lt)
  r : W.ownsRow base 3 1 v k (ir xs)
  gr : Gr w W
  b : (T < base ∧ TO < base) ∧ w.heap.size ≤ base ∧ base ≤ W.heap.size
section
variable {w W : World} {T TO base k : Nat} {t : List Value} {Lt : List Int} {v : Value} {xs : List Int}
theorem HB.below {w' : World} (h : HB w W T TO base k t Lt v xs) (hB : Below W.heap.size W w') : HB w w' T TO base k t Lt v xs :=
  ⟨At.below hB h.t, At.below hB h.o, own_keep h.r hB, Gr.step h.gr hB, h.b.1, h.b.2.1, Nat.le_trans h.b.2.2 hB.size⟩
theorem HB.app {w' : World} {ob : Obj} {v' : Value} {xs' : List Int} (h : HB w W T TO base k t Lt v xs) (hown : w'.ownsRow base 3 1 v' (k + 1) (ir xs')) (hg : (W.alloc ob).grownBy w' v.ownBlock) : HB w w' T TO base (k + 1) t Lt v' xs' := by
  have hv : ∀ i, i < base → v.ownBlock ≠ some i := fun i hi e => by have := (h.r.lt i e).1; omega
  exact ⟨At.grow (h.t.alloc ob) hg (hv _ h.b.1.1), At.grow (h.o.alloc ob) hg (hv _ h.b.1.2), hown, gr_app h.gr h.r h.b.2.1 hg, h.b.1, h.b.2.1, by have := hg.size; have := h.b.2.2; simp at *; omega⟩
end
set_option maxRecDepth 4000 in
set_option maxHeartbeats 8000000 in
theorem homes_any {m n pb po Lb Lo Lcap : Nat} {l Lt : List Int} (ok : Ok l m n) {TO : Nat} (v1 v3 : Value) (w : World) (hp : PtR w pb po m n (.slice (some ⟨Lb, Lo, none⟩) l.length Lcap)) (hT : At w TO (ir Lt)) (hLt : TwL m n l Lt) : Calls Tryd.prog 32 #[.pointer (some ⟨pb, po, none⟩), .agg #[v1, .slice (some ⟨TO, 0, none⟩) l.length l.length, v3]] w fun e w' => ∃ v, e = .returned v ∧ ∃ base, w'.ownsRow base 3 1 v l.length (ir (hmL m n l)) ∧ w.heap.size ≤ base ∧ Gr w w' := by
  have hlen := ok.len_le
  have E0 : Hid (HB w (w.alloc (.cells #[v1, .slice (some ⟨TO, 0, none⟩) l.length l.length, v3] 37)) w.heap.size TO (w.heap.size + 1) 0 [v1, .slice (some ⟨TO, 0, none⟩) l.length l.length, v3] Lt (.slice none 0 0) (hmP m n l 0)) :=
    ⟨At.new3 _ _ _ _ _, hT.alloc _, World.ownsRow_nil _ _ _ _, (Gr.refl w).alloc _, ⟨Nat.lt_succ_self _, Nat.lt_succ_of_lt hT.lt⟩, Nat.le_succ _, by simp⟩
  have HH := hidb (fun c (hc : c < l.length) W (hA : At W TO (ir Lt)) => homeOf_any ok v1 v3 c hc W hA hLt)
  have HPt := hidb hp
  have HE : Hid (hmP m n l l.length = hmL m n l) := rfl
  obtain ⟨N, hN⟩ : ∃ N, N = l.length := ⟨_, rfl⟩
  rw [← hN] at E0 HPt HH HE hlen ⊢
  have HL := hidb hlen
  clear hT hLt ok hp hlen hN
  go_enter Tryd.func32, Tryd.ntmps32
  go_wp2
  generalize w.alloc (.cells #[v1, .slice (some ⟨TO, 0, none⟩) N N, v3] 37) = w1 at *
  go_loopw [5, 6] (fun s t wr => ∃ k : Nat, k ≤ N ∧ t = .int .i64 (k : Int) ∧ Hid (HB w wr w.heap.size TO (w.heap.size + 1) k [v1, .slice (some ⟨TO, 0, none⟩) N N, v3] Lt s (hmP m n l k))) (fun _ t _ => N - (intOf t).toNat)
  case atStart => exact ⟨0, Nat.zero_le _, rfl, E0⟩
  case round =>
    clear E0
    obtain ⟨k, hk, rfl, E⟩ := hrel
    obtain ⟨ad1, cap1, rfl⟩ := own_shape1' E.out.r
    obtain ⟨p0, p1, p2⟩ := (HPt.out.below E.out.gr.out).all
    by_cases h1 : ¬ k < N
    · have h1' : ¬ (k : Int) < (N : Int) := by omega
      obtain rfl : k = N := by omega
      have HZ := hidb (show wr.ownsRow (w.heap.size + 1) 3 1 (.slice ad1 k cap1) k (ir (hmL m n l)) by rw [← HE.out]; exact E.out.r)
      clear h1
      go_wp2
      go_ret
      exact ⟨_, rfl, w.heap.size + 1, HZ.out, Nat.le_succ _, E.out.gr⟩
    · have h1' : (k : Int) < (N : Int) := by omega
      have hkN : k < N := by omega
      have e1 : IntKind.i64.wrap ((k : Int) + 1) = ((k + 1 : Nat) : Int) := by rw [show (k : Int) + 1 = ((k + 1 : Nat) : Int) by omega]; exact wrap_in (by have := HL.out; omega) (by have := HL.out; omega)
      have HC := hidb (HH.out k hkN wr E.out.o)
      obtain ⟨z, hz⟩ : ∃ z : Int, z = (hom m n l k : Int) := ⟨_, rfl⟩
      rw [← hz] at HC
      have HS := hidb (hmP_snoc m n l k)
      rw [← hz] at HS
      have HKl := hidb (show (hmP m n l k).length = k ∧ k ≤ 16384 from ⟨hmP_len m n l k, by have := HL.out; omega⟩)
      obtain ⟨q0, q1, q2⟩ := E.out.t.c3
      clear h1 hz
      go_wp2_with fail
      refine HC.out.mono ?_
      rintro e w2 ⟨rfl, hB⟩
      replace E := hidb (E.out.below hB.out)
      clear hB q0 q1 q2 p0 p1 p2
      go_wp2_with (at_builtin; refine wpList_i1 _ (w.heap.size + 1) (.slice ad1 k cap1) (hmP m n l k) z k w2.heap.size _ _ rfl rfl rfl rfl HKl.out.1 (by have := HKl.out; omega) (E.out.r.alloc _) (At.new1 _ _ _) (by have := E.out.b; simp; omega) ?_; intro g2 cap2 w3 hown hgrow)
      rw [HS.out] at hown
      have HE3 := hidb (E.out.app hown.out hgrow.out)
      go_roundw
      case rel => exact ⟨k + 1, by omega, by go_num, HE3⟩
      case measure => simp [intOf]; omega
end Go.Proofs.YtbkggcfogmgmmaaDoor
