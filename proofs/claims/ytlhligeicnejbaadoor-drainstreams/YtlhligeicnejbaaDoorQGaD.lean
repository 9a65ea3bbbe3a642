/-
  drain.flood's gather.
-/
import Derived.Test.YtlhligeicnejbaaDoorQGaB
import Derived.Test.YtlhligeicnejbaaDoorQGaC
import Derived.Test.YtlhligeicnejbaaDoorQBpA
namespace Go.Proofs.YtlhligeicnejbaaDoor
open Go.RowKit Go.Shelf
attribute [local go_sem] Oper.semAt_some

/-- One cell hands on what has come to it. -/
def gst (m n : Nat) (l L : List Int) (j : Nat) : List Int := if tw m n l (oc m n l (l.length - 1 - j)) = oc m n l (l.length - 1 - j) then L else L.set (tw m n l (oc m n l (l.length - 1 - j))) (IntKind.i64.wrap (gl L (tw m n l (oc m n l (l.length - 1 - j))) + gl L (oc m n l (l.length - 1 - j))))
def gaF (m n : Nat) (l r : List Int) (pre : List Nat) : List Int := pre.foldl (gst m n l) r
theorem gst_len (m n : Nat) (l L : List Int) (j : Nat) : (gst m n l L j).length = L.length := by unfold gst; split <;> simp
theorem gaF_len (m n : Nat) (l r : List Int) (pre : List Nat) : (gaF m n l r pre).length = r.length := by
  unfold gaF
  induction pre generalizing r with
  | nil => rfl
  | cons j pre ih => rw [List.foldl_cons, ih, gst_len]
theorem gaF_snoc (m n : Nat) (l r : List Int) (pre : List Nat) (j : Nat) : gaF m n l r (pre ++ [j]) = gst m n l (gaF m n l r pre) j := by simp [gaF]
theorem keeps_below {W W' : World} (h : Below W.heap.size W W') : KeepsOthers W W' :=
  ⟨h.size, fun k o hk _ => by
    have hlt := (Array.getElem?_eq_some_iff.1 hk).1
    exact (h.block k hlt).trans hk⟩
theorem At.kept {W W' : World} {row : Option Nat} {B : Nat} {L : List Value} (h : At W B L) (hg : W.grownBy W' row) (hr : ∀ r, row = some r → ∃ o : Obj, W.heap[r]? = some o ∧ o.isCells = false) : At W' B L :=
  ⟨fun i hi => ⟨cell_kept (h.1 i hi).1 hg hr, (frozen_kept (h.1 i hi).1 hg hr).trans (h.1 i hi).2⟩, Nat.lt_of_lt_of_le h.2 hg.size⟩
theorem KpB.below {n₀ Bs : Nat} {W W' : World} (h : Below W.heap.size W W') (hn : n₀ ≤ W.heap.size) : KpB n₀ Bs W W' := ⟨h.mono hn, fun v hv => by
  obtain ⟨o, ho, _⟩ := cells_of_cell hv
  have hlt := (Array.getElem?_eq_some_iff.1 ho).1
  exact ((mcell h).1 Bs 0 hlt).trans hv⟩
theorem KpB.set {n₀ Bs OUT : Nat} {W : World} (h1 : n₀ ≤ OUT) (h2 : ¬ Bs = OUT) (i : Nat) (u : Value) : KpB n₀ Bs W (W.setCell ⟨OUT, i, none⟩ u) := ⟨(Below.refl n₀ W).setCell (p := ⟨OUT, i, none⟩) h1 u, fun v hv => by simp [go_sem, hv]⟩
theorem KpB.drew {n₀ Bs : Nat} (W : World) : KpB n₀ Bs W W.drew := ⟨(Below.refl n₀ W).drew, fun _ h => h⟩
/-- What lies in memory between two rounds. -/
structure GI (w W : World) (T OUT X Fb : Nat) (v : Value) (L : List Int) : Prop where
  t : At W T [.pointer (some ⟨Fb, 0, none⟩)]
  o : At W OUT (ir L)
  x : At W X [v]
set_option maxRecDepth 100000 in
set_option maxHeartbeats 4000000 in
theorem gather_any {w0 : World} {base Fb LV FL m n Lb Lo Lcap rb ro rcap : Nat} {l Lv Fl r : List Int} {vo vq : Value} {q : List Wt} (w : World) (ok : Ok l m n) (h : FM w0 w base Fb LV FL l.length (.int .i64 (m : Int)) (.int .i64 (n : Int)) (.slice (some ⟨Lb, Lo, none⟩) l.length Lcap) Lv Fl vo (flo m n l l.length).ord vq q) (hs : Syn m l (flo m n l l.length) Lv Fl q) (hr : Rs w rb ro rcap r) (hrl : r.length = l.length) : Calls Tryd.prog 29 #[.pointer (some ⟨Fb, 0, none⟩), .slice (some ⟨rb, ro, none⟩) l.length rcap] w fun e w' => ∃ g cp, e = .returned (.slice (some ⟨g, 0, none⟩) l.length cp) ∧ At w' g (ir (gaF m n l r (List.range l.length))) ∧ w.heap.size ≤ g ∧ Gr w w' := by
  have hlen := ok.len_le
  have hN1 : 1 ≤ l.length := by rw [ok.len]; exact Nat.mul_le_mul ok.m1 ok.n1
  have hol : (on (flo m n l l.length).ord).length = l.length := by rw [List.length_map]; exact ord_len m n l ok.m1 ok.len
  have hordl : (flo m n l l.length).ord.length = l.length := ord_len m n l ok.m1 ok.len
  have hro := h.ro
  obtain ⟨ob, ocap, hvo, hOr⟩ := own_rs2 hro (by rw [hol]; exact hN1)
  rw [hol] at hvo
  have HCl := hidb (fun W (hG : Gr w W) => clone_any W (hr.below hG.out) (by omega) (by omega))
  rw [hrl] at HCl
  have HNx := hidb (fun c (hc : c < l.length) W (hG : Gr w W) => next_any c W ok (h.below hG.out) hs hc)
  have HOc : Hid (∀ k, k < l.length → gl (on (flo m n l l.length).ord) k = (oc m n l k : Int)) := fun k hk => oc_on ok hk
  have HLt : Hid (∀ j, oc m n l (l.length - 1 - j) < l.length ∧ tw m n l (oc m n l (l.length - 1 - j)) < l.length) := fun j => by
    have h1 := oc_lt m n l ok.m1 ok.len (k := l.length - 1 - j) (by omega)
    exact ⟨h1, tw_lt m n l ok.m1 ok.len h1⟩
  have HC5 := hidb (fun W (hG : Gr w W) => (h.below hG.out).c3.2.2.1)
  subst hvo
  have HOr := hidb hOr
  have T0 := At.new1 w (.pointer (some ⟨Fb, 0, none⟩)) 47
  have G0 := (Gr.refl w).alloc (.cells #[.pointer (some ⟨Fb, 0, none⟩)] 47)
  obtain ⟨N, hN⟩ : ∃ N, N = l.length := ⟨_, rfl⟩
  have HN := hidb hN
  have HL := hidb (show 1 ≤ N ∧ N ≤ 16384 by omega)
  have HRl := hidb hrl
  rw [← hN] at HCl HNx HOc HLt HC5 HOr HRl hol ⊢
  have HOl := hidb hol
  clear h hs hr hrl hlen hN1 hol hordl hro hOr ok hN
  refine (callsIn_wide (n := 3)).1 ?_
  refine callsIn_of_wp_marks Tryd.func29 rfl trivial ?_ rfl
  simp only [Tryd.ntmps29, List.size_toArray, List.length_cons, List.length_nil, Nat.reduceAdd, Nat.reduceSub, Array.replicate_succ, Array.replicate_zero, List.push_toArray, List.append_toArray, List.nil_append, List.cons_append]
  gi_wp2_with fail
  refine ⟨trivial, (callsIn_wide.2 (HCl.out _ G0)).mono ?_⟩
  rintro e w1 ⟨OUT, cp, rfl, hOUT, hOl, hB⟩
  have T1 := At.below hB.out T0
  have G1 := Gr.step G0 hB.out
  clear T0 G0 hB HCl
  have hOl2 : w.heap.size < OUT := by simp at hOl; omega
  have t0 := (T1.alloc (.cells #[.slice (some ⟨OUT, 0, none⟩) N cp] 30)).c1
  have c5 := HC5.out _ (G1.alloc (.cells #[.slice (some ⟨OUT, 0, none⟩) N cp] 30))
  gi_wp2_with fail
  refine ⟨trivial, (back_in Fence.wide 2 trivial rfl _ _ _ _).mono ?_⟩
  rintro e w' ⟨rfl, rfl⟩
  clear t0 c5
  gi_wp2
  obtain ⟨X, hX⟩ : ∃ X, X = w1.heap.size := ⟨_, rfl⟩
  have X2 := At.new1 w1 (.slice (some ⟨OUT, 0, none⟩) N cp) 30
  have T2 := T1.alloc (.cells #[.slice (some ⟨OUT, 0, none⟩) N cp] 30)
  have O2 := hOUT.alloc (.cells #[.slice (some ⟨OUT, 0, none⟩) N cp] 30)
  have G2 := G1.alloc (.cells #[.slice (some ⟨OUT, 0, none⟩) N cp] 30)
  have hs2 : (w1.alloc (.cells #[.slice (some ⟨OUT, 0, none⟩) N cp] 30)).heap.size = X + 1 := by rw [hX]; simp
  have hOX : OUT < X := by rw [hX]; exact hOUT.lt
  rw [← hX] at X2 ⊢
  clear T1 hOUT G1 hX
  generalize w1.alloc (.cells #[.slice (some ⟨OUT, 0, none⟩) N cp] 30) = w2 at *
  have B3 := At.new1 w2 (.slice (some ⟨ob, 0, none⟩) N ocap) 30
  have T3 := T2.alloc (.cells #[.slice (some ⟨ob, 0, none⟩) N ocap] 30)
  have O3 := O2.alloc (.cells #[.slice (some ⟨ob, 0, none⟩) N ocap] 30)
  have X3 := X2.alloc (.cells #[.slice (some ⟨ob, 0, none⟩) N ocap] 30)
  have G3 := G2.alloc (.cells #[.slice (some ⟨ob, 0, none⟩) N ocap] 30)
  rw [hs2] at B3
  clear T2 O2 X2 G2
  generalize w2.alloc (.cells #[.slice (some ⟨ob, 0, none⟩) N ocap] 30) = w3 at *
  have hwl := G3.out.size
  have hTl := T3.lt
  refine wpIn_rangeFunc_ownG (α := Nat) rfl (by decide) (gf := 31) (lb := #[.pointer (some ⟨X + 1, 0, none⟩)]) rfl trivial (enters_of Tryd.func31 (by kernel_rfl) rfl)
    (back_stops Fence.wide 2 trivial rfl (by decide) (X + 1) w.heap.size ob N ocap (fun k => (N : Int) - 1 - k) (fun k => (oc m n l (N - 1 - k) : Int)) (by have := HL.out; omega) w3 HOr.out.lt B3.lt hwl (fun _ _ => rfl) B3.c1 (fun k hk => by
      have := (HOr.out.below G3.out).get (i := N - 1 - k) (by rw [HOl.out]; omega)
      rw [Nat.zero_add, HOc.out (N - 1 - k) (by omega)] at this
      exact this)) KpB.trans (KpB.put hwl) (Below.refl _ _) (fun _ => rfl)
    (fun pre W => GI w W w.heap.size OUT X Fb (.slice (some ⟨OUT, 0, none⟩) N cp) (gaF m n l r pre) ∧ Below w.heap.size w W)
    (fun _ _ _ => False)
    (OwnFrom.and (Own.from (fun s A B row hs hg hr => ⟨hs.t.kept hg hr, hs.o.kept hg hr, hs.x.kept hg hr⟩) _) (ownFrom_below (Nat.le_refl _) hwl))
    (fun _ _ _ _ _ hs _ _ => hs)
    ⟨⟨T3, O3, X3⟩, G3.out⟩ ?a1 ?assign ?body ?done ?stop
  case assign =>
    intro l x W K hK
    gi_wp2
    exact hK
  case body =>
    rintro lp pre x W ⟨E, hB⟩ _
    obtain ⟨hc, ht⟩ := HLt.out x
    have HSn := hidb (gaF_snoc m n l r pre x)
    have hg : gst m n l (gaF m n l r pre) x = if tw m n l (oc m n l (N - 1 - x)) = oc m n l (N - 1 - x) then gaF m n l r pre else (gaF m n l r pre).set (tw m n l (oc m n l (N - 1 - x))) (IntKind.i64.wrap (gl (gaF m n l r pre) (tw m n l (oc m n l (N - 1 - x))) + gl (gaF m n l r pre) (oc m n l (N - 1 - x)))) := by unfold gst; rw [← HN.out]
    rw [hg] at HSn
    clear hg
    have HNc := hidb (HNx.out _ hc W hB)
    rw [nxO_tw] at HNc
    have t0 := E.t.c1
    have hLl : (gaF m n l r pre).length = N := (gaF_len m n l r pre).trans HRl.out
    generalize gaF m n l r pre = L at *
    generalize tw m n l (oc m n l (N - 1 - x)) = t at *
    generalize oc m n l (N - 1 - x) = c at *
    have HE := hidb E
    have hWl := hB.size
    by_cases hf : t = c
    · rw [if_pos hf] at HNc HSn
      unfold nbA at HNc
      clear hf E
      gi_wp2_with fail
      refine ⟨trivial, (CallsIn.inRound lp (callsIn_wide.2 HNc.out)).mono ?_⟩
      rintro e w9 ⟨rfl, hB9⟩
      gi_wp2
      exact ⟨(keeps_below hB9.out).from _, KpB.below hB9.out hWl, by rw [HSn.out]; exact ⟨At.below hB9.out HE.out.t, At.below hB9.out HE.out.o, At.below hB9.out HE.out.x⟩, hB.trans (hB9.out.mono hWl)⟩
    · rw [if_neg hf] at HNc HSn
      unfold nbA at HNc
      dsimp only at HNc
      have ixt := iindex OUT 0 N cp t ht
      have ixc := iindex OUT 0 N cp c hc
      rw [Nat.zero_add] at ixt ixc
      clear hf E
      gi_wp2_with fail
      refine ⟨trivial, (CallsIn.inRound lp (callsIn_wide.2 HNc.out)).mono ?_⟩
      rintro e w9 ⟨rfl, hB9⟩
      have E9 : Hid (GI w w9 w.heap.size OUT X Fb (.slice (some ⟨OUT, 0, none⟩) N cp) L) := ⟨At.below hB9.out HE.out.t, At.below hB9.out HE.out.o, At.below hB9.out HE.out.x⟩
      have x0 := E9.out.x.c1
      obtain ⟨ct, ft⟩ := E9.out.o.get (j := t) (by rw [hLl]; exact ht)
      obtain ⟨cc, fc⟩ := E9.out.o.get (j := c) (by rw [hLl]; exact hc)
      rw [gl_get (by rw [hLl]; exact ht)] at ct
      rw [gl_get (by rw [hLl]; exact hc)] at cc
      have HFin : Hid (KeepsFrom w3.heap.size W (w9.setCell ⟨OUT, t, none⟩ (.int .i64 (IntKind.i64.wrap (gl L t + gl L c)))).drew ∧ KpB w.heap.size (X + 1) W (w9.setCell ⟨OUT, t, none⟩ (.int .i64 (IntKind.i64.wrap (gl L t + gl L c)))).drew ∧ GI w (w9.setCell ⟨OUT, t, none⟩ (.int .i64 (IntKind.i64.wrap (gl L t + gl L c)))).drew w.heap.size OUT X Fb (.slice (some ⟨OUT, 0, none⟩) N cp) (gaF m n l r (pre ++ [x])) ∧ Below w.heap.size w (w9.setCell ⟨OUT, t, none⟩ (.int .i64 (IntKind.i64.wrap (gl L t + gl L c)))).drew) := by
        have hO := hOl2
        refine ⟨(((keeps_below hB9.out).trans (KeepsOthers.setCell _ _ _)).trans (KeepsOthers.drew _)).from _, (KpB.below hB9.out hWl).trans ((KpB.set (by omega) (by omega) _ _).trans (KpB.drew _)), ⟨(E9.out.t.skip (by omega) _ _).drew, ?_, (E9.out.x.skip (by omega) _ _).drew⟩, ((hB.trans (hB9.out.mono hWl)).setCell (p := ⟨OUT, t, none⟩) (show w.heap.size ≤ OUT by omega) _).drew⟩
        rw [HSn.out, ← ir_set]
        exact (E9.out.o.put t _).drew
      generalize gl L t = yt at *
      generalize gl L c = yc at *
      have hmx : Tryd.prog.follows Departure.mixedOrders = true := by kernel_rfl
      clear t0 HOr HC5 HLt HOc HNx HN HL HRl HOl HSn HNc HE E9 hLl hc ht hB hWl hs2 hOX hB9 hOl hOl2 hwl hTl B3 T3 O3 X3 G3 fc
      gi_wp2
      gi_region_o
      all_goals exact HFin.out
  case done =>
    rintro D ys W hD rfl ⟨E, hB⟩ hK
    have x0 := E.x.c1
    have hO' : At (W.putObj D (.deferred none)) OUT (ir (gaF m n l r (List.range N))) := E.o.kept (grownBy_putObj' _ D (.deferred none)) (fun r e => by cases e; exact ⟨_, hK, rfl⟩)
    have hB' := hB.trans (belowK_b (w := w) (Nat.le_refl _) W D _ (.deferred none) (by omega) hK rfl rfl)
    gi_wp2
    refine ⟨by simp, .inl ⟨_, _, rfl, run_takeDeferred hK, ?_⟩⟩
    exact ⟨_, results_tmp rfl _ _ _, OUT, cp, rfl, hO', by omega, hB'⟩
  case stop =>
    rintro D c pre W _ _ h _
    exact h.elim
end Go.Proofs.YtlhligeicnejbaaDoor
