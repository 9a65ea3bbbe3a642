/-
  shape.Sizes.; mercatorref5.PointsOf.; mercatorlaw5.mapped.
-/
import Derived.Test.YtnadgoomkaldkaaDoorQTk
import Derived.Test.YtnadgoomkaldkaaDoorQJ10
import Derived.Lib.SliceRun
namespace Go.Proofs.YtnadgoomkaldkaaDoor
open Go.RowKit
attribute [local go_sem ↓] Go.wp_at_zero Go.wp_at_succ

/-- The sizes so far. -/
def zW (Ls : List (List Sp)) (Q : List (List Nat)) (i : Nat) (x : Int) : List Int := (List.range Q.length).map fun k => if k < i then szW Ls (Q.getD k []) else if k = i then x else 0
theorem zW_set (Ls : List (List Sp)) (Q : List (List Nat)) (i : Nat) (x y : Int) : (zW Ls Q i x).set i y = zW Ls Q i y := by
  apply List.ext_getElem
  · simp [zW]
  · intro k h1 h2
    simp only [List.getElem_set]
    by_cases e : i = k
    · subst e; simp [zW]
    · simp [zW, e, Ne.symm e]
/-- What lies in memory while the sizes are told. -/
structure SZ (w2 W : World) (SO : Nat) (Z : List Int) : Prop where
  a : At W SO (ir Z)
  g : Gr w2 W
  lo : w2.heap.size ≤ SO
theorem SZ.below {w2 W w' : World} {SO : Nat} {Z : List Int} (h : SZ w2 W SO Z) (hB : Below W.heap.size W w') : SZ w2 w' SO Z := ⟨At.below hB h.a, Gr.step h.g hB, h.lo⟩
theorem SZ.drew {w2 W : World} {SO : Nat} {Z : List Int} (h : SZ w2 W SO Z) : SZ w2 W.drew SO Z := ⟨h.a.drew, h.g.drew, h.lo⟩
theorem SZ.put {w2 W : World} {SO i : Nat} {Ls : List (List Sp)} {Q : List (List Nat)} {x : Int} (h : SZ w2 W SO (zW Ls Q i x)) (y : Int) : SZ w2 (W.setCell ⟨SO, i, none⟩ (.int .i64 y)) SO (zW Ls Q i y) :=
  ⟨by have := h.a.put i (.int .i64 y); rw [show (ir (zW Ls Q i x)).set i (.int .i64 y) = ir (zW Ls Q i y) by rw [← zW_set Ls Q i x y]; simp [ir]] at this; exact this, h.g.set h.lo _ _, h.lo⟩
theorem made_runI (K : Nat) (hK : K ≤ 20000) : ∃ CS : Array Value, CS.toList = ir (List.replicate K 0) ∧ ∀ w, (Instr.makeSlice 37 (.int .i64 (K : Int)) (.int .i64 (K : Int))).run Tryd.prog w = .ok (.slice (some ⟨w.heap.size, 0, none⟩) K K) (w.alloc (.cells CS 3)) := by
  have hml : 30000 ≤ maxLen := by decide
  obtain ⟨i0, hi, hz0, hz1, hz2⟩ := info_pt infoJ
  refine ⟨madeCells #[Value.int .i64 0] K, by rw [toList_madeCells_one]; simp [ir], fun w => ?_⟩
  have := run_makeSlice (P := Tryd.prog) w 37 3 i0 (.int .i64 0) undI hi hz0 .i64 .i64 (K : Int) (K : Int) (by omega) (Int.le_refl _) (by rw [hz1]; omega) (by rw [hz2]; omega) (by omega)
  rw [hz1, Int.toNat_natCast, Nat.mul_one] at this
  exact this
theorem RQ.lisn {W : World} {base n : Nat} {v : Value} {vs : List Value} {L : List (List Int)} (h : RQ W base v vs L) (hn : L.length = n) : ∃ ad b o cap, v = .slice ad n cap ∧ Hid (LIs W ad b o cap L) := by
  obtain ⟨ad, b, cap, h1, h2⟩ := h.lis
  exact ⟨ad, b, 0, cap, by rw [← hn]; exact h1, h2⟩
end Go.Proofs.YtnadgoomkaldkaaDoor
namespace Go.Proofs.YtnadgoomkaldkaaDoor
open Go.RowKit
attribute [local go_sem ↓] Go.wp_at_zero Go.wp_at_succ

/-- What lies in memory while points are gathered. -/
structure PO (w W : World) (base : Nat) (v : Value) (n : Nat) (P : List Sp) : Prop where
  o : W.ownsRow base 52 2 v n (sr P)
  n : P.length = n
  g : Gr w W
  b : w.heap.size ≤ base ∧ base ≤ W.heap.size
theorem PO.start (w : World) : PO w w w.heap.size (.slice none 0 0) 0 [] := ⟨World.ownsRow_nil _ _ _ _, rfl, Gr.refl w, Nat.le_refl _, Nat.le_refl _⟩
theorem PO.below {w W w' : World} {base n : Nat} {v : Value} {P : List Sp} (h : PO w W base v n P) (hB : Below W.heap.size W w') : PO w w' base v n P := ⟨own_kp h.o hB, h.n, Gr.step h.g hB, h.b.1, Nat.le_trans h.b.2 hB.size⟩
theorem PO.drew {w W : World} {base n : Nat} {v : Value} {P : List Sp} (h : PO w W base v n P) : PO w W.drew base v n P := ⟨h.o.drew, h.n, h.g.drew, h.b⟩
theorem PO.app {w W w' : World} {base n : Nat} {v v' : Value} {P : List Sp} {n' : Nat} {P' : List Sp} (h : PO w W base v n P) (ho : w'.ownsRow base 52 2 v' n' (sr P')) (hn : P'.length = n') (hg : W.grownBy w' v.ownBlock) : PO w w' base v' n' P' :=
  ⟨ho, hn, Below.grown h.g.out hg h.g.out.size (fun k hk => Nat.le_trans h.b.1 (h.o.lt k hk).1), h.b.1, Nat.le_trans h.b.2 hg.size⟩
end Go.Proofs.YtnadgoomkaldkaaDoor
namespace Go.Proofs.YtnadgoomkaldkaaDoor
open Go.RowKit
attribute [local go_sem ↓] Go.wp_at_zero Go.wp_at_succ

theorem LLd.one {W : World} {B b o cap : Nat} {l : List Sp} (h : At W B [.slice (some ⟨b, o, none⟩) l.length cap]) (hc : l.length ≤ cap) (hs : SSl W (some ⟨b, o, none⟩) b o cap l) : LLd W (some ⟨B, 0, none⟩) B 0 1 [l] :=
  ⟨fun i hi => by
    obtain rfl : i = 0 := by simp at hi; exact hi
    exact ⟨⟨_, b, o, cap, h.c1, fun _ => ⟨rfl, hc⟩, hs⟩, h.2⟩, fun k hk w => lindex B 0 _ 1 k hk w⟩
def seg : List (List Sp) := [[(0, 0), (1, 0)]]
theorem mcd_seg : mcd seg = 0 := by
  refine mcd_0 (by decide) (by decide) ?_ ?_ ?_
  · intro i hi
    obtain rfl : i = 0 := by simp [seg] at hi; exact hi
    show arP [(0, 0), (1, 0)]
    decide
  · rintro ⟨i, hi, k, ⟨h1, h2⟩, -⟩
    obtain rfl : i = 0 := by simp [seg] at hi; exact hi
    simp [seg, lx] at h2
    omega
  · rw [tg_pair]
    simp [seg, ppL, pcl, pk]
theorem rounds_seg : ∃ R, roP seg = [R] ∧ R.length = 2 := by
  have hM := OkM.of mcd_seg
  have h1 := roF_all hM 1 (by decide)
  have h0 := roF_all hM 0 (by decide)
  have e0 : roF seg 0 = ([], [false, false]) := rfl
  rw [e0] at h0
  obtain ⟨k1, k2, k3⟩ := h0.1.rem hM (c := 0) rfl (by decide)
  have f0 : frR [false, false] = 2 := rfl
  dsimp only at k3
  rw [f0] at k3
  have hs : (remR seg [false, false] 0).1 ≠ [] := by
    rw [rem_step (w := 0) rfl]
    simp
  have e1 : (roF seg 1).1 = [(remR seg [false, false] 0).1] := by
    show (if (remR seg (roF seg 0).2 0).1 = [] then (roF seg 0).1 else (roF seg 0).1 ++ [(remR seg (roF seg 0).2 0).1]) = _
    rw [e0, if_neg hs]
    rfl
  have e2 : (roF seg 1).2 = (remR seg [false, false] 0).2 := rfl
  have hR := h1.2.1 (remR seg [false, false] 0).1 (by rw [e1]; simp)
  have h2 := hR.two hM
  have hl : ∀ R : List Nat, (∀ u ∈ R, u < 2 * seg.length) → (ptW seg R).length = R.length := by
    intro R
    induction R with
    | nil => intro _; rfl
    | cons u R ih =>
      intro hu
      have e : ptW seg (u :: R) = wpW seg u ++ ptW seg R := by simp [ptW]
      have h3 : u < 2 := hu u (by simp)
      have h4 : u / 2 = 0 := by omega
      rw [e, List.length_append, wp_len, ih (fun v hv => hu v (by simp [hv])), h4, List.length_cons]
      show 2 - 1 + R.length = R.length + 1
      omega
  rw [hl _ hR.p.lt] at h2
  have hf : frR (roF seg 1).2 = 0 := by rw [e2]; omega
  have hl2 : (roF seg 1).2.length = 2 := roF_len 1
  have hg : (roF seg 1).2.getD 1 true = true := by
    cases hb : (roF seg 1).2.getD 1 true with
    | true => rfl
    | false => have := frR_set hb; omega
  refine ⟨(remR seg [false, false] 0).1, ?_, by omega⟩
  show (roF seg 2).1 = _
  rw [roF_no (q := 1) (by rw [rem_seen hg]), e1]
set_option maxRecDepth 4000 in
theorem mapped_any (g : Nat → Addr) (w : World) (hl : Lc w g) : Calls Tryd.prog 6 #[] w fun e w' => e = .returned (.bool true) ∧ Gr w w' := by
  have HG : Hid (Gr w ((w.alloc (.cells #[.int .i64 0, .int .i64 0, .int .i64 1, .int .i64 0] 52)).alloc (.cells #[.slice (some ⟨w.heap.size, 0, none⟩) 2 2] 43))) := ((Gr.refl w).alloc _).alloc _
  have HS : Hid (SSl (w.alloc (.cells #[.int .i64 0, .int .i64 0, .int .i64 1, .int .i64 0] 52)) (some ⟨w.heap.size, 0, none⟩) w.heap.size 0 2 [(0, 0), (1, 0)]) := SSl.new (n := 2) (At.new4 _ _ _ _ _ _) rfl
  have HL : Hid (LLd ((w.alloc (.cells #[.int .i64 0, .int .i64 0, .int .i64 1, .int .i64 0] 52)).alloc (.cells #[.slice (some ⟨w.heap.size, 0, none⟩) 2 2] 43)) (some ⟨w.heap.size + 1, 0, none⟩) (w.heap.size + 1) 0 1 seg) :=
    LLd.one (by have := At.new1 (w.alloc (.cells #[.int .i64 0, .int .i64 0, .int .i64 1, .int .i64 0] 52)) (.slice (some ⟨w.heap.size, 0, none⟩) 2 2) 43; simpa using this) (by decide) (HS.out.gr ((Gr.refl _).alloc _))
  have HFc := hidb (faces_ok g mcd_seg _ HL.out (hl.below HG.out.out))
  have HR := hidb rounds_seg
  have HR2 : Hid (∀ W base v vs, RQ W base v vs (tdLL (roP seg)) → ∃ ad b o cap, v = .slice ad 1 cap ∧ (∃ a1 c1, W.cell? ⟨b, o, none⟩ = some (.slice a1 2 c1)) ∧ ∀ w, (Instr.indexAt 34 (.slice ad 1 cap) (.int .i64 0)).run Tryd.prog w = .ok (.pointer (some ⟨b, o, none⟩)) w) := by
    intro W base v vs hQ
    obtain ⟨R, h1, h2⟩ := HR.out
    rw [h1] at hQ
    obtain ⟨ad, b, o, cap, rfl, HL⟩ := hQ.lisn (n := 1) rfl
    obtain ⟨⟨a', b', o', c', x0, -⟩, -⟩ := HL.out.row 0 (by simp)
    have e : (lI (tdLL [R]) 0).length = 2 := by simp [lI, h2]
    rw [e] at x0
    exact ⟨ad, b, o, cap, rfl, ⟨a', c', by simpa using x0⟩, fun w => by simpa using HL.out.ix 0 (by simp) w⟩
  clear hl HS HL HR
  go_enter Tryd.func6, Tryd.ntmps6
  go_wp2_with (go_at_call 12; refine HFc.out.mono ?_; rintro e w2 ⟨base, v, vs, rfl, hQ, hB⟩; obtain ⟨ad, b, o, cap, rfl, ⟨a1, c1, x0⟩, ix⟩ := HR2.out _ _ _ _ hQ)
  have HG2 := hidb (Gr.step HG.out hB.out)
  clear hQ hB HFc HR2 HG
  go_wp2
  go_ret
  exact ⟨rfl, HG2.out⟩
end Go.Proofs.YtnadgoomkaldkaaDoor
