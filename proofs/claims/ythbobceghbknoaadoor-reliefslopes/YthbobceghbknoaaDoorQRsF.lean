/-
  relief.lit, Shade.
-/
import Derived.Test.YthbobceghbknoaaDoorQRsE
namespace Go.Proofs.YthbobceghbknoaaDoor
open Go.RowKit

/-- A shade that is right. -/
structure ShOk (a b c x y z : Int) (v : Nat) : Prop where
  le : v ≤ 255
  no : dotI a b c x y z ≤ 0 → v = 0
  lo : 0 < dotI a b c x y z → v = 0 ∨ litP a b c x y z (v - 1) = false
  hi : 0 < dotI a b c x y z → v = 255 ∨ litP a b c x y z v = true
set_option maxRecDepth 4000 in
set_option maxHeartbeats 8000000 in
theorem lit_any {a b c x y z : Int} (h : FL a b c x y z) (w : World) : Calls Tryd.prog 23 #[v3V a b c, v3V x y z] w fun e w' => ∃ v : Nat, e = .returned (.int .i64 (v : Int)) ∧ ShOk a b c x y z v ∧ Gr w w' := by
  obtain ⟨_, _, t0, t1⟩ := h.dots
  have G0 := hidb (((Gr.refl w).alloc (.cells #[.int .i64 a, .int .i64 b, .int .i64 c] 34)).alloc (.cells #[.int .i64 x, .int .i64 y, .int .i64 z] 34))
  have A0 := hidb ((At.new3 w (.int .i64 a) (.int .i64 b) (.int .i64 c) 34).alloc (.cells #[.int .i64 x, .int .i64 y, .int .i64 z] 34))
  have A1 := hidb (At.nx3 (W := w) (.cells #[.int .i64 a, .int .i64 b, .int .i64 c] 34) (.int .i64 x) (.int .i64 y) (.int .i64 z) 34)
  have C1 := hidb (fun W => dot_any a b c x y z h.a1 h.b1 (by rw [h.c1]; decide) (by have := h.x1; omega) (by have := h.y1; omega) (by have := h.z1; omega) W)
  have HSok := hidb (fun (v : Nat) (h1 : v ≤ 255) (h2 : dotI a b c x y z ≤ 0 → v = 0) (h3 : 0 < dotI a b c x y z → v = 0 ∨ litP a b c x y z (v - 1) = false) (h4 : 0 < dotI a b c x y z → v = 255 ∨ litP a b c x y z v = true) => (ShOk.mk h1 h2 h3 h4 : ShOk a b c x y z v))
  have CL := hidb (fun (B F L v : Nat) (hv : v < 255) W hB hF hL => lit1_any h B F L v hv W hB hF hL)
  generalize hT : dotI a b c x y z = T at *
  by_cases hp : T ≤ 0
  · have HS := hidb (HSok.out 0 (by decide) (fun _ => rfl) (fun k => by omega) (fun k => by omega))
    clear HSok CL hT h t0 t1
    go_enter Tryd.func23, Tryd.ntmps23
    go_wp2_with fail
    refine (C1.out _).mono ?_
    rintro e w1 ⟨rfl, hB⟩
    replace G0 := hidb (Gr.step G0.out hB.out)
    clear hB
    go_wp2
    go_ret
    exact ⟨0, rfl, HS.out, G0.out⟩
  · obtain ⟨M, hM, e1⟩ : ∃ q : Int, q = 255 * T ∧ IntKind.i64.wrap (255 * T) = q := ⟨_, rfl, wrap_in (by omega) (by omega)⟩
    have C2 : Hid (∀ W, Calls Tryd.prog 40 #[.int .i64 M] W fun e w' => e = .returned (W2 (M * M)) ∧ Gr W w') := fun W => by
      have := squared_any M.toNat (by omega) W
      rw [show ((M.toNat : Nat) : Int) = M by omega] at this
      exact this
    rw [← hM] at CL
    have HS := hidb (fun (v : Nat) (h1 : v ≤ 255) h3 h4 => HSok.out v h1 (fun k => by omega) (fun _ => h3) (fun _ => h4))
    have CS := hidb (fun (B F L : Nat) (k0 k1 k2 : List Value) W hE hP => search_any (litP a b c x y z) B F L k0 k1 k2 W hE hP)
    unfold W2 at C2
    generalize hi2 (M * M) = mh at *
    generalize lo2 (M * M) = ml at *
    have hp' : ¬ T ≤ 0 := hp
    clear HSok hT h t0 t1 hM hp
    go_enter Tryd.func23, Tryd.ntmps23
    go_wp2_with fail
    refine (C1.out _).mono ?_
    rintro e w1 ⟨rfl, hB⟩
    replace G0 := hidb (Gr.step G0.out hB.out)
    replace A0 := hidb (At.below hB.out A0.out)
    replace A1 := hidb (At.below hB.out A1.out)
    clear hB
    go_wp2_with fail
    refine (C2.out _).mono ?_
    rintro e w2 ⟨rfl, hB⟩
    replace G0 := hidb ((Gr.step G0.out hB.out).alloc (.cells #[.int .u64 mh, .int .u64 ml] 77))
    replace A0 := hidb ((At.below hB.out A0.out).alloc (.cells #[.int .u64 mh, .int .u64 ml] 77))
    replace A1 := hidb ((At.below hB.out A1.out).alloc (.cells #[.int .u64 mh, .int .u64 ml] 77))
    have A2 := hidb (At.new2 w2 (.int .u64 mh) (.int .u64 ml) 77)
    clear hB
    go_wp2_with fail
    refine (CS.out _ _ _ _ _ _ _ ⟨A2.out, A0.out, A1.out, Gr.refl _⟩ (fun v hv W hE => CL.out _ _ _ v hv W hE.b0 hE.f0 hE.l0)).mono ?_
    rintro e w3 ⟨v, rfl, v1, v2, v3, hB⟩
    have HV := hidb (HS.out v v1 v2 v3)
    replace G0 := hidb (Gr.step G0.out hB.out)
    clear hB v1 v2 v3
    go_wp2
    go_ret
    exact ⟨v, rfl, HV.out, G0.out⟩
/-- Shade's own blocks: the raster, the light. -/
structure SB (w W : World) (k0 k1 : List Value) : Prop where
  a0 : At W w.heap.size k0
  a1 : At W (w.heap.size + 1) k1
  gr : Gr w W
theorem SB.below {w W w' : World} {k0 k1 : List Value} (h : SB w W k0 k1) (hB : Below W.heap.size W w') : SB w w' k0 k1 := ⟨h.a0.below hB, h.a1.below hB, Gr.step h.gr hB⟩
theorem SB.new (w : World) (a b c d e f : Value) (t t' : Nat) : SB w ((w.alloc (.cells #[a, b, c] t)).alloc (.cells #[d, e, f] t')) [a, b, c] [d, e, f] := ⟨(At.new3 w a b c t).alloc _, At.nx3 _ d e f t', ((Gr.refl w).alloc _).alloc _⟩
set_option maxRecDepth 4000 in
set_option maxHeartbeats 8000000 in
theorem shade_err (g : Nat → Addr) (ei : Nat) {W H : Int} {v : Value} (cell x y z : Int) (w : World) (hS : ∀ W1, Gr w W1 → Calls Tryd.prog 7 #[raV W H v, .int .i64 cell] W1 fun e w' => e = .returned (.tuple #[.int .i64 0, .int .i64 0, errV g ei]) ∧ Gr W1 w') : Calls Tryd.prog 8 #[raV W H v, .int .i64 cell, v3V x y z] w fun e w' => e = .returned (.tuple #[.int .i64 0, errV g ei]) ∧ Gr w w' := by
  have E := hidb (SB.new w (.int .i64 W) (.int .i64 H) v (.int .i64 x) (.int .i64 y) (.int .i64 z) 31 34)
  have C1 := hidb hS
  clear hS
  go_enter Tryd.func8, Tryd.ntmps8
  go_wp2_with fail
  refine (C1.out _ E.out.gr).mono ?_
  rintro e w1 ⟨rfl, hB⟩
  replace E := hidb (E.out.below hB.out)
  clear hB
  go_wp2
  go_ret2
  exact ⟨rfl, E.out.gr⟩
set_option maxRecDepth 4000 in
set_option maxHeartbeats 8000000 in
theorem shade_C (g : Nat → Addr) {m n b o cap : Nat} {l : List Int} (i : Nat) (hi : i < l.length) (x y z : Int) (w : World) (h : Rs w b o cap l) (ok : Ok l m n) (hv : vcode m n l = 0) (hl : Laid w g) (hs : liI x y z = false) : Calls Tryd.prog 8 #[raV m n (.slice (some ⟨b, o, none⟩) l.length cap), .int .i64 (i : Int), v3V x y z] w fun e w' => e = .returned (.tuple #[.int .i64 0, errV g 2]) ∧ Gr w w' := by
  have E := hidb (SB.new w (.int .i64 m) (.int .i64 n) (.slice (some ⟨b, o, none⟩) l.length cap) (.int .i64 x) (.int .i64 y) (.int .i64 z) 31 34)
  have C1 := hidb (fun W1 (hG : Gr w W1) => slope_C g i hi W1 (h.below hG.out) ok hv (hl.below hG.out))
  have C2 := hidb (fun W1 => shining_any x y z W1)
  rw [hs] at C2
  have HL := hidb hl
  generalize eaI l m n i = ea at *
  generalize noI l m n i = no at *
  clear h ok hv hl hs hi
  go_enter Tryd.func8, Tryd.ntmps8
  go_wp2_with fail
  refine (C1.out _ E.out.gr).mono ?_
  rintro e w1 ⟨rfl, hB⟩
  replace E := hidb (E.out.below hB.out)
  clear hB
  obtain ⟨a0, a1, a2⟩ := E.out.a1.c3
  go_wp2_with fail
  clear a0 a1 a2
  refine (C2.out _).mono ?_
  rintro e w2 ⟨rfl, hB⟩
  replace E := hidb (E.out.below hB.out)
  clear hB
  have cE : w2.cell? ⟨1, 0, none⟩ = some (errV g 2) := (HL.out.below E.out.gr.out).cell 2 (by decide)
  go_upto_region 5 with fail
  go_quiet (fail)
  go_wp2
  go_ret2
  exact ⟨rfl, by first | exact E.out.gr.drewN _ | exact E.out.gr.drew | exact E.out.gr⟩
theorem fl_of {l : List Int} {m n i : Nat} {x y z : Int} (ok : Ok l m n) (hs : liI x y z = true) : FL (-(eaI l m n i)) (-(noI l m n i)) 2048 x y z := by
  have h := ea_bd (i := i) ok
  unfold liI inI at hs
  simp only [Bool.and_eq_true, decide_eq_true_eq] at hs
  exact ⟨by omega, by omega, rfl, by omega, by omega, by omega⟩
set_option maxRecDepth 4000 in
set_option maxHeartbeats 8000000 in
theorem shade_D (g : Nat → Addr) {m n b o cap : Nat} {l : List Int} (i : Nat) (hi : i < l.length) (x y z : Int) (w : World) (h : Rs w b o cap l) (ok : Ok l m n) (hv : vcode m n l = 0) (hl : Laid w g) (hs : liI x y z = true) : Calls Tryd.prog 8 #[raV m n (.slice (some ⟨b, o, none⟩) l.length cap), .int .i64 (i : Int), v3V x y z] w fun e w' => ∃ v : Nat, e = .returned (.tuple #[.int .i64 (v : Int), .nilIface]) ∧ ShOk (-(eaI l m n i)) (-(noI l m n i)) 2048 x y z v ∧ Gr w w' := by
  have E := hidb (SB.new w (.int .i64 m) (.int .i64 n) (.slice (some ⟨b, o, none⟩) l.length cap) (.int .i64 x) (.int .i64 y) (.int .i64 z) 31 34)
  have C1 := hidb (fun W1 (hG : Gr w W1) => slope_C g i hi W1 (h.below hG.out) ok hv (hl.below hG.out))
  have C2 := hidb (fun W1 => shining_any x y z W1)
  rw [hs] at C2
  have C3 := hidb (fun W1 => lit_any (fl_of (i := i) ok hs) W1)
  have hb := ea_bd (i := i) ok
  generalize eaI l m n i = ea at *
  generalize noI l m n i = no at *
  obtain ⟨ea', hea, e1⟩ : ∃ q : Int, q = -ea ∧ IntKind.i64.wrap (-ea) = q := ⟨_, rfl, wrap_in (by omega) (by omega)⟩
  obtain ⟨no', hno, e2⟩ : ∃ q : Int, q = -no ∧ IntKind.i64.wrap (-no) = q := ⟨_, rfl, wrap_in (by omega) (by omega)⟩
  rw [← hea, ← hno] at C3 ⊢
  clear h ok hv hl hs hi hb hea hno
  go_enter Tryd.func8, Tryd.ntmps8
  go_wp2_with fail
  refine (C1.out _ E.out.gr).mono ?_
  rintro e w1 ⟨rfl, hB⟩
  replace E := hidb (E.out.below hB.out)
  clear hB
  obtain ⟨a0, a1, a2⟩ := E.out.a1.c3
  go_wp2_with fail
  clear a0 a1 a2
  refine (C2.out _).mono ?_
  rintro e w2 ⟨rfl, hB⟩
  replace E := hidb (E.out.below hB.out)
  clear hB
  obtain ⟨a0, a1, a2⟩ := E.out.a1.c3
  go_wp2_with fail
  clear a0 a1 a2
  refine (C3.out _).mono ?_
  rintro e w3 ⟨v, rfl, hS, hB⟩
  replace E := hidb (E.out.below hB.out)
  have HS := hidb hS
  clear hB hS
  go_wp2
  go_ret2
  exact ⟨v, rfl, HS.out, E.out.gr⟩
end Go.Proofs.YthbobceghbknoaaDoor
