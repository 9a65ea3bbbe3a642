/-
  drain.Fill, Flow, Order.
-/
import Derived.Test.YtbkggcfogmgmmaaDoorQDrL
namespace Go.Proofs.YtbkggcfogmgmmaaDoor
open Go.RowKit
attribute [local go_sem ↓] Go.wp_at_zero Go.wp_at_succ

/-- The heights and directions of a flood, as lists. -/
def fiL (m n : Nat) (l : List Int) : List Int := (List.range l.length).map (flo m n l l.length).fi
def flL (m n : Nat) (l : List Int) : List Int := (List.range l.length).map (fun i => flV m (flo m n l l.length) i)
theorem list_gl {L : List Int} {N : Nat} {f : Nat → Int} (hL : L.length = N) (h : ∀ i, i < N → gl L i = f i) : L = (List.range N).map f := by
  apply List.ext_getElem
  · simp [hL]
  · intro i h1 h2
    rw [gl_get h1, h i (by omega)]
    simp
theorem gl_map {N : Nat} {f : Nat → Int} {i : Nat} (hi : i < N) : gl ((List.range N).map f) i = f i := by
  unfold gl
  simp [hi]
theorem FM.fiL {w w' : World} {base F LV FL m n : Nat} {l : List Int} {a b c : Value} {Lv Fl : List Int} {vo : Value} {ord : List Nat} {vq : Value} {q : List Wt} (h : FM w w' base F LV FL l.length a b c Lv Fl vo ord vq q) (hs : Syn m l (flo m n l l.length) Lv Fl q) : Lv = Go.Proofs.YtbkggcfogmgmmaaDoor.fiL m n l ∧ Fl = flL m n l :=
  ⟨list_gl h.ll.1 hs.lv, list_gl h.ll.2 hs.fl⟩
set_option maxRecDepth 4000 in
set_option maxHeartbeats 8000000 in
theorem flow_ok (g : Nat → Addr) {m n Lb Lo Lcap : Nat} {l : List Int} (w : World) (hR : Rs w Lb Lo Lcap l) (ok : Ok l m n) (hv : vcode m n l = 0) (hl : Lai w g) : Calls Tryd.prog 12 #[raV m n (.slice (some ⟨Lb, Lo, none⟩) l.length Lcap)] w fun e w' => ∃ FL, e = .returned (.tuple #[.slice (some ⟨FL, 0, none⟩) l.length l.length, .nilIface]) ∧ At w' FL (ir (flL m n l)) ∧ w.heap.size ≤ FL ∧ Gr w w' := by
  have PX : Hid (PF w (w.alloc (.cells #[.int .i64 (m : Int), .int .i64 (n : Int), .slice (some ⟨Lb, Lo, none⟩) l.length Lcap] 27)) w.heap.size [.int .i64 (m : Int), .int .i64 (n : Int), .slice (some ⟨Lb, Lo, none⟩) l.length Lcap]) := ⟨At.new3 _ _ _ _ _, (Gr.refl w).alloc _⟩
  have C1 := hidb (valid_lai g m n _ Lb Lo Lcap l _ (hR.below PX.out.gr.out).isl (by have := ok.len_le; omega) (hl.below PX.out.gr.out))
  rw [hv, show evc g 0 = .nilIface from rfl] at C1
  have HF := hidb (fun W (hG : Gr w W) => flooded_any W (hR.below hG.out) ok)
  have HFi := hidb (fun (w1 w2 : World) base F LV FL a b c Lv Fl vo ord vq q (h : FM w1 w2 base F LV FL l.length a b c Lv Fl vo ord vq q) (hs : Syn m l (flo m n l l.length) Lv Fl q) => FM.fiL h hs)
  clear hR ok hv hl
  go_enter Tryd.func12, Tryd.ntmps12
  obtain ⟨q0, q1, q2⟩ := PX.out.a.c3
  go_wp2_with fail
  refine C1.out.mono ?_
  rintro e w1 ⟨rfl, hB⟩
  clear q0 q1 q2
  replace PX := hidb (PX.out.below hB.out)
  clear hB C1
  obtain ⟨q0, q1, q2⟩ := PX.out.a.c3
  go_wp2_with fail
  refine (HF.out _ PX.out.gr).mono ?_
  rintro e w2 ⟨F, base, LV, FL, Lv, Fl, vo, vq, q, rfl, hM, hS⟩
  have c4 := hM.c3.2.1
  have HZ := hidb (show At w2 FL (ir (flL m n l)) ∧ w.heap.size ≤ FL ∧ Gr w w2 from ⟨by rw [← (HFi.out _ _ _ _ _ _ _ _ _ _ _ _ _ _ _ hM hS).2]; exact hM.fl, by have := hM.b1; have := PX.out.gr.out.size; omega, Gr.step PX.out.gr hM.gr.out⟩)
  clear hM hS q0 q1 q2
  go_wp2
  go_ret2
  exact ⟨FL, rfl, HZ.out⟩
set_option maxRecDepth 4000 in
set_option maxHeartbeats 8000000 in
theorem order_ok (g : Nat → Addr) {m n Lb Lo Lcap : Nat} {l : List Int} (w : World) (hR : Rs w Lb Lo Lcap l) (ok : Ok l m n) (hv : vcode m n l = 0) (hl : Lai w g) : Calls Tryd.prog 13 #[raV m n (.slice (some ⟨Lb, Lo, none⟩) l.length Lcap)] w fun e w' => ∃ base vo, e = .returned (.tuple #[vo, .nilIface]) ∧ w'.ownsRow base 3 1 vo (flo m n l l.length).ord.length (ir (on (flo m n l l.length).ord)) ∧ w.heap.size ≤ base ∧ Gr w w' := by
  have PX : Hid (PF w (w.alloc (.cells #[.int .i64 (m : Int), .int .i64 (n : Int), .slice (some ⟨Lb, Lo, none⟩) l.length Lcap] 27)) w.heap.size [.int .i64 (m : Int), .int .i64 (n : Int), .slice (some ⟨Lb, Lo, none⟩) l.length Lcap]) := ⟨At.new3 _ _ _ _ _, (Gr.refl w).alloc _⟩
  have C1 := hidb (valid_lai g m n _ Lb Lo Lcap l _ (hR.below PX.out.gr.out).isl (by have := ok.len_le; omega) (hl.below PX.out.gr.out))
  rw [hv, show evc g 0 = .nilIface from rfl] at C1
  have HF := hidb (fun W (hG : Gr w W) => flooded_any W (hR.below hG.out) ok)
  clear hR ok hv hl
  go_enter Tryd.func13, Tryd.ntmps13
  obtain ⟨q0, q1, q2⟩ := PX.out.a.c3
  go_wp2_with fail
  refine C1.out.mono ?_
  rintro e w1 ⟨rfl, hB⟩
  clear q0 q1 q2
  replace PX := hidb (PX.out.below hB.out)
  clear hB C1
  obtain ⟨q0, q1, q2⟩ := PX.out.a.c3
  go_wp2_with fail
  refine (HF.out _ PX.out.gr).mono ?_
  rintro e w2 ⟨F, base, LV, FL, Lv, Fl, vo, vq, q, rfl, hM, hS⟩
  have c5 := hM.c3.2.2.1
  have HZ := hidb (show w2.ownsRow base 3 1 vo (flo m n l l.length).ord.length (ir (on (flo m n l l.length).ord)) ∧ w.heap.size ≤ base ∧ Gr w w2 from ⟨hM.ro, by have := hM.b1; have := PX.out.gr.out.size; omega, Gr.step PX.out.gr hM.gr.out⟩)
  clear hM hS q0 q1 q2
  go_wp2
  go_ret2
  exact ⟨base, vo, rfl, HZ.out⟩
theorem fill3g {w W : World} {T B : Nat} {t : List Value} (h : PF w W T t) (_hH : Has W B 3) (hB : w.heap.size ≤ B) (x y z : Value) : Gr w (((W.setCell ⟨B, 0, none⟩ x).setCell ⟨B, 1, none⟩ y).setCell ⟨B, 2, none⟩ z) := ((h.gr.set hB 0 x).set hB 1 y).set hB 2 z
end Go.Proofs.YtbkggcfogmgmmaaDoor
