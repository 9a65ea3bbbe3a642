/-
  shape.Thin.; shape.Thin where there is no arc at all.
-/
import Derived.Test.YtnadgoomkaldkaaDoorQTk
import Derived.Test.YtnadgoomkaldkaaDoorQJ15
import Derived.Test.YtnadgoomkaldkaaDoorQJ13
import Derived.Test.YtnadgoomkaldkaaDoorQTgT
namespace Go.Proofs.YtnadgoomkaldkaaDoor
open Go.RowKit
attribute [local go_sem ↓] Go.wp_at_zero Go.wp_at_succ

/-- The map and the answer in boxes. -/
structure P2 (w W : World) (MB RB : Nat) (v r : Value) : Prop where
  m : At W MB [v]
  r : At W RB [r]
  gr : Gr w W
  lo : w.heap.size ≤ RB
  ne : ¬ MB = RB
theorem P2.below {w W w' : World} {MB RB : Nat} {v r : Value} (h : P2 w W MB RB v r) (hB : Below W.heap.size W w') : P2 w w' MB RB v r := ⟨At.below hB h.m, At.below hB h.r, Gr.step h.gr hB, h.lo, h.ne⟩
theorem P2.put {w W : World} {MB RB : Nat} {v r : Value} (h : P2 w W MB RB v r) (x : Value) : P2 w (W.setCell ⟨RB, 0, none⟩ x) MB RB v x := ⟨h.m.skip (fun e => h.ne e.symm) _ _, by have := h.r.put 0 x; simpa using this, h.gr.set h.lo _ _, h.lo, h.ne⟩
theorem P2.start (w : World) (v : Value) : P2 w ((w.alloc (.cells #[v] 32)).alloc (.cells #[.slice none 0 0] 32)) w.heap.size (w.heap.size + 1) v (.slice none 0 0) :=
  ⟨(At.new1 _ _ _).alloc _, At.nx1 _ _ _, ((Gr.refl w).alloc _).alloc _, by omega, by omega⟩
set_option maxRecDepth 4000 in
set_option maxHeartbeats 8000000 in
theorem thin_ok (g : Nat → Addr) {ad : Option Addr} {b o cap : Nat} {Ls : List (List Sp)} {most : Int} (hc : mcd Ls = 0) (hm : 0 ≤ most) (hN0 : 0 < Ls.length) (w : World) (h : LLd w ad b o cap Ls) (hl : Lc w g) : Calls Tryd.prog 18 #[.agg #[.slice ad Ls.length cap], .int .i64 most] w fun e w' => ∃ ad' b' cap' Ls', e = .returned (.tuple #[.agg #[.slice ad' Ls.length cap'], .nilIface]) ∧ LLd w' ad' b' 0 cap' Ls' ∧ mcd Ls' = 0 ∧ Ls'.length = Ls.length ∧ Pth most ⟨Ls, 0, 1, false⟩ ⟨Ls', Ls.length, 1, false⟩ ∧ Gr w w' := by
  have PX := hidb (P2.start w (.slice ad Ls.length cap))
  have hok := mcd_okL hc
  obtain ⟨m1, m2, -, -, -⟩ := mcd_ok hc
  have HV := hidb (fun W (hG : Gr w W) => mvalid_any g m1 (by omega) W (h.below hG.out) (hl.below hG.out))
  rw [hc, show ev g 0 = .nilIface from rfl] at HV
  have HTh := hidb (fun W (hG : Gr w W) => thinnerOf_any (most := most) hc hN0 W (h.ll.below hG.out))
  have hS : ∀ y, y < Ls.flatten.length → okS (sx Ls.flatten y) := fun y hy => by
    obtain ⟨i, m, hi, hm, rfl⟩ := nu_pos Ls.length (Nat.le_refl _) (by rw [ofL_all]; exact hy)
    rw [sx_flat hi hm]
    exact hok i hi m hm
  have HRd := hidb (fun w2 W T SP cS GO CL AR cA B cp F0 A G C (hT : TS w2 W T SP cS GO CL AR cA B cp most Ls.flatten ⟨Ls, 0, 1, false⟩ F0 Ls.length A G C 0 1 false) => round_any hS (by omega) hT)
  have HLf := hidb (fun w2 W T SP cS GO CL AR cA B cp F0 A G C x k f (hT : TS w2 W T SP cS GO CL AR cA B cp most Ls.flatten ⟨Ls, 0, 1, false⟩ F0 Ls.length A G C x k f) => left_any hT.t hT.n (by rw [hT.al]; omega) (fun j hj => by have := hT.len (j := j) (by rw [← hT.al]; exact hj); omega))
  have HSt : Hid (∀ w2 W T SP cS GO CL AR cA B cp, TH w2 W T SP cS GO CL AR cA B cp most Ls.flatten (nuA Ls) (List.replicate Ls.flatten.length false) (List.replicate Ls.flatten.length 0) → TS w2 W T SP cS GO CL AR cA B cp most Ls.flatten ⟨Ls, 0, 1, false⟩ (lsA Ls.flatten (nuA Ls)).flatten.length Ls.length (nuA Ls) (List.replicate Ls.flatten.length false) (List.replicate Ls.flatten.length 0) 0 1 false) := fun w2 W T SP cS GO CL AR cA B cp hT =>
    ⟨hT, NI.start Ls, by rw [ls_nu]; exact ⟨.refl _, hc, rfl, by omega, Nat.le_refl _, fun e => by cases e⟩⟩
  have cP := PX.out.m.c1
  obtain ⟨N, hNn⟩ : ∃ N, N = Ls.length := ⟨_, rfl⟩
  rw [← hNn] at HV HTh HRd HLf HSt PX cP ⊢
  generalize (⟨Ls, 0, 1, false⟩ : ThS) = s0 at *
  generalize Ls.flatten = S at *
  generalize nuA Ls = A0 at *
  have hm' : ¬ most < 0 := by omega
  clear h hl hc hm hN0 hok m1 m2 hS hNn
  go_enter Tryd.func18, Tryd.ntmps18
  go_wp2_with (first | (go_at_call 10; refine (HV.out _ PX.out.gr).mono ?_; rintro e w2 ⟨rfl, hB⟩; replace PX := hidb (PX.out.below hB.out); clear hB cP; have cP := PX.out.m.c1) | (go_at_call 33; refine (HTh.out _ PX.out.gr).mono ?_; rintro e w3 ⟨T, SP, cS, GO, CL, AR, cA, B, cp, rfl, hT⟩))
  have E0 := hidb (HSt.out _ _ _ _ _ _ _ _ _ _ _ hT)
  have HG2 := hidb PX.out
  clear hT cP HV HTh HSt PX
  go_loopg [] ((lsA S A0).flatten.length) (fun gk wr => ∃ (A : List (List Nat)) (G : List Bool) (C : List Nat), Hid (TS w2 wr T SP cS GO CL AR cA B cp most S s0 (lsA S A).flatten.length N A G C 0 1 false ∧ (lsA S A).flatten.length ≤ gk))
  case atStart => exact ⟨A0, _, _, hidb ⟨E0.out, Nat.le_refl _⟩⟩
  case round =>
    clear E0
    obtain ⟨A, G, C, E⟩ := hrel
    go_wp2_with fail
    refine (HRd.out _ _ _ _ _ _ _ _ _ _ _ _ _ _ _ E.out.1).mono ?_
    rintro e w4 ⟨f, A2, G2, C2, rfl, hT4, hN4, hQ4⟩
    have HE := hidb (show TS w2 w4 T SP cS GO CL AR cA B cp most S s0 (lsA S A).flatten.length N A2 G2 C2 N 1 f from ⟨hT4, hN4, hQ4⟩)
    have HGk := hidb E.out.2
    clear E hT4 hN4 hQ4
    cases f with
    | true =>
      have HE2 : Hid (TS w2 w4 T SP cS GO CL AR cA B cp most S s0 (lsA S A2).flatten.length N A2 G2 C2 0 1 false) := ⟨HE.out.t, HE.out.n, by
        obtain ⟨q1, q2, q3, -⟩ := HE.out.q.fin
        rcases q3 with ⟨-, q3⟩ | ⟨q3, -⟩
        · exact ⟨q3, q1, q2, by omega, Nat.le_refl _, fun e => by cases e⟩
        · cases q3⟩
      have HL := hidb (HE.out.q.lt rfl)
      go_wp2
      go_roundg ((lsA S A2).flatten.length)
      case measure => have := HL.out; have := HGk.out; omega
      case rel => exact ⟨A2, G2, C2, hidb ⟨HE2.out, Nat.le_refl _⟩⟩
    | false =>
      have HL := hidb (HLf.out _ _ _ _ _ _ _ _ _ _ _ _ _ _ _ _ _ _ HE.out)
      have HQ : Hid (mcd (lsA S A2) = 0 ∧ (lsA S A2).length = N ∧ Pth most s0 ⟨lsA S A2, N, 1, false⟩) := ⟨HE.out.q.m, HE.out.q.n, HE.out.q.p⟩
      have HP4 := hidb (HG2.out.below HE.out.t.gr.out)
      have HBs := hidb (Nat.lt_of_lt_of_le HG2.out.r.2 HE.out.t.gr.out.size)
      clear HG2
      go_wp2_with (go_at_call 35; refine HL.out.mono ?_; rintro e w5 ⟨v5, vs5, rfl, hR5, hB5⟩; obtain ⟨ad', b', cap', hv, -⟩ := hR5.lld HQ.out.2.1; subst hv; have HP5 := hidb (HP4.out.below hB5.out); have z1 := HP5.out.r.c1; have z2 := HP5.out.r.f1)
      have HR6 := hidb (hR5.set (c := w.heap.size + 1) HBs.out 0 (.slice ad' N cap'))
      have HP6 := hidb (HP5.out.put (.slice ad' N cap'))
      have z3 := HP6.out.r.c1
      obtain ⟨ad2, b2, cap2, hv, hL'⟩ := HR6.out.lld HQ.out.2.1
      cases hv
      refine bodyPost_ret (v := .tuple #[.agg #[.slice ad' N cap'], .nilIface]) (by simp [results, Tryd.results18, go_sem, z3]) rfl ⟨ad', b2, cap', lsA S A2, rfl, hL', HQ.out.1, HQ.out.2.1, HQ.out.2.2, HP6.out.gr⟩
end Go.Proofs.YtnadgoomkaldkaaDoor
namespace Go.Proofs.YtnadgoomkaldkaaDoor
open Go.RowKit
attribute [local go_sem ↓] Go.wp_at_zero Go.wp_at_succ

/-- A thinner with no arcs. -/
structure T0 (w W : World) (T : Nat) : Prop where
  c : W.cell? ⟨T, 4, none⟩ = some (.slice none 0 0)
  l : T < W.heap.size
  g : Gr w W
theorem T0.below {w W w' : World} {T : Nat} (h : T0 w W T) (hB : Below W.heap.size W w') : T0 w w' T := ⟨(hB.cell (p := ⟨T, 4, none⟩) h.l).trans h.c, Nat.lt_of_lt_of_le h.l hB.size, Gr.step h.g hB⟩
set_option maxRecDepth 4000 in
theorem thinnerOf_nil {most : Int} {cap : Nat} {ad : Option Addr} (w : World) : Calls Tryd.prog 33 #[.slice ad 0 cap, .int .i64 most] w fun e w' => ∃ T, e = .returned (.pointer (some ⟨T, 0, none⟩)) ∧ T0 w w' T := by
  obtain ⟨CG, hCG, mkG⟩ := made_runB 0 (by omega)
  obtain ⟨CC, hCC, mkC⟩ := made_runI 0 (by omega)
  push_cast at mkG mkC
  clear hCG hCC
  have EA : Hid (At (w.alloc (.cells #[.int .i64 most, .slice none 0 0, .slice none 0 0, .slice none 0 0, .slice none 0 0] 93)) w.heap.size [.int .i64 most, .slice none 0 0, .slice none 0 0, .slice none 0 0, .slice none 0 0] ∧ Gr w (w.alloc (.cells #[.int .i64 most, .slice none 0 0, .slice none 0 0, .slice none 0 0, .slice none 0 0] 93)) ∧ w.heap.size ≤ w.heap.size) := ⟨At.newArr _ _ _, (Gr.refl w).alloc _, Nat.le_refl _⟩
  go_enter Tryd.func33, Tryd.ntmps33
  go_wp2
  generalize w.alloc (.cells #[.int .i64 most, .slice none 0 0, .slice none 0 0, .slice none 0 0, .slice none 0 0] 93) = W1 at *
  generalize hT : w.heap.size = T at EA ⊢
  replace hT := hidb hT
  go_loopw [16] (fun t wr => t = .int .i64 0 ∧ wr = W1) (fun _ _ => 0)
  case atStart => exact ⟨rfl, rfl⟩
  case round =>
    obtain ⟨rfl, rfl⟩ := hrel
    obtain ⟨-, t1, -, -, -⟩ := at5 EA.out.1
    have EA1 := hidb (EA.out.1.alloc (.cells CG 4))
    have f2 := (EA1.out.1 2 (by simp)).2
    have g2 := (at5 EA1.out).2.2.1
    obtain ⟨GO, hGO⟩ : ∃ z, z = wr.heap.size := ⟨_, rfl⟩
    have mkG2 := mkG wr
    rw [← hGO] at mkG2
    clear mkG hGO
    have hTl := EA.out.1.2
    go_upto_region 15 with fail
    clear t1 f2 g2 mkG2
    have EB2 := hidb ((EA.out.1.put 2 (.slice (some ⟨GO, 0, none⟩) 0 0)).alloc (.cells CG 4))
    have EG2 := hidb ((EA.out.2.1.set (by rw [hT.out]; exact Nat.le_refl _) 2 (.slice (some ⟨GO, 0, none⟩) 0 0) : Gr w (wr.setCell ⟨T, 2, none⟩ (.slice (some ⟨GO, 0, none⟩) 0 0))).alloc (.cells CG 4))
    generalize (wr.setCell ⟨T, 2, none⟩ (.slice (some ⟨GO, 0, none⟩) 0 0)).alloc (.cells CG 4) = W5 at *
    obtain ⟨-, t1, -, -, -⟩ := at5 EB2.out
    have EA3 := hidb (EB2.out.alloc (.cells CC 3))
    have f3 := (EA3.out.1 3 (by simp)).2
    have g3 := (at5 EA3.out).2.2.2.1
    obtain ⟨CL, hCL⟩ : ∃ z, z = W5.heap.size := ⟨_, rfl⟩
    have mkC2 := mkC W5
    rw [← hCL] at mkC2
    clear mkC EA hCL
    go_wp2
    have E3 := hidb (EA3.out.put 3 (.slice (some ⟨CL, 0, none⟩) 0 0))
    go_ret
    exact ⟨T, rfl, (at5 E3.out).2.2.2.2, E3.out.2, (EG2.out.alloc (.cells CC 3)).set (by rw [hT.out]; exact Nat.le_refl _) _ _⟩
set_option maxRecDepth 4000 in
theorem round_nil {w W : World} {T : Nat} (h : T0 w W T) : Calls Tryd.prog 34 #[.pointer (some ⟨T, 0, none⟩)] W fun e w' => e = .returned (.bool false) ∧ T0 w w' T := by
  have E0 := hidb h
  have t4 := h.c
  clear h
  go_enter Tryd.func34, Tryd.ntmps34
  go_wp2
  clear t4
  go_loopw [3, 11] (fun s t wr => s = .bool false ∧ t = .int .i64 0 ∧ wr = W) (fun _ _ _ => 0)
  case atStart => exact ⟨rfl, rfl, rfl⟩
  case round =>
    obtain ⟨rfl, rfl, rfl⟩ := hrel
    go_wp2
    go_ret
    exact ⟨rfl, E0.out⟩
set_option maxRecDepth 4000 in
theorem left_nil {w W : World} {T : Nat} (h : T0 w W T) : Calls Tryd.prog 35 #[.pointer (some ⟨T, 0, none⟩)] W fun e w' => e = .returned (.slice none 0 0) ∧ T0 w w' T := by
  have E0 := hidb h
  have t4 := h.c
  clear h
  go_enter Tryd.func35, Tryd.ntmps35
  go_wp2
  clear t4
  go_loopw [3, 14] (fun v t wr => v = .slice none 0 0 ∧ t = .int .i64 0 ∧ wr = W) (fun _ _ _ => 0)
  case atStart => exact ⟨rfl, rfl, rfl⟩
  case round =>
    obtain ⟨rfl, rfl, rfl⟩ := hrel
    go_wp2
    go_ret
    exact ⟨rfl, E0.out⟩
set_option maxRecDepth 4000 in
theorem thin_nil (g : Nat → Addr) {ad : Option Addr} {b o cap : Nat} {most : Int} (hc : mcd [] = 0) (hm : 0 ≤ most) (w : World) (h : LLd w ad b o cap []) (hl : Lc w g) : Calls Tryd.prog 18 #[.agg #[.slice ad 0 cap], .int .i64 most] w fun e w' => e = .returned (.tuple #[.agg #[.slice none 0 0], .nilIface]) ∧ Gr w w' := by
  have PX := hidb (P2.start w (.slice ad 0 cap))
  have HV := hidb (fun W (hG : Gr w W) => mvalid_any g (Ls := []) (by simp) (by simp) W (h.below hG.out) (hl.below hG.out))
  rw [hc, show ev g 0 = .nilIface from rfl] at HV
  have cP := PX.out.m.c1
  have hm' : ¬ most < 0 := by omega
  clear h hl hc hm
  go_enter Tryd.func18, Tryd.ntmps18
  go_wp2_with (first | (go_at_call 10; refine (HV.out _ PX.out.gr).mono ?_; rintro e w2 ⟨rfl, hB⟩; replace PX := hidb (PX.out.below hB.out); clear hB cP; have cP := PX.out.m.c1) | (go_at_call 33; refine (thinnerOf_nil _).mono ?_; rintro e w3 ⟨T, rfl, hT⟩))
  have E0 := hidb hT
  have HG2 := hidb PX.out
  clear hT cP HV PX
  go_loopg [] 0 (fun gk wr => Hid (T0 w2 wr T))
  case atStart => exact E0
  case round =>
    clear E0
    have E := hidb hrel.out
    have HP4 := hidb (fun W (hT : T0 w2 W T) => HG2.out.below hT.g.out)
    go_wp2_with (first | (go_at_call 34; refine (round_nil E.out).mono ?_; rintro e w4 ⟨rfl, hT4⟩) | (go_at_call 35; refine (left_nil hT4).mono ?_; rintro e w5 ⟨rfl, hT5⟩; have HP5 := hidb (HP4.out _ hT5); have z1 := HP5.out.r.c1; have z2 := HP5.out.r.f1))
    have HP6 := hidb (HP5.out.put (.slice none 0 0))
    have z3 := HP6.out.r.c1
    refine bodyPost_ret (v := .tuple #[.agg #[.slice none 0 0], .nilIface]) (by simp [results, Tryd.results18, go_sem, z3]) rfl ⟨rfl, HP6.out.gr⟩
end Go.Proofs.YtnadgoomkaldkaaDoor
