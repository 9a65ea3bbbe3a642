/-
  SightNeeds, by its ways.
-/
import Derived.Test.YtpdiefmmenfpaaaDoorQSnF
import Derived.Deep.CutBlock
namespace Go.Proofs.YtpdiefmmenfpaaaDoor
open Go.RowKit
attribute [local go_sem ↓] Go.wp_at_zero Go.wp_at_succ

theorem nd_right {s : Int × Nat} (h0 : 0 ≤ s.1) (h1 : 1 ≤ s.2) (h2 : s.1 ≤ 2000000000) (h3 : s.2 ≤ 254) : Rgt (ndN s) (ndD s) := by
  obtain ⟨-, k1, k2⟩ := nd_eq h0 h1
  unfold Rgt ndN ndD at *
  have a1 := rn_le s.1.natAbs s.2
  have a2 := rd_le s.1.natAbs s.2
  refine ⟨by omega, ?_⟩
  rw [Int.natAbs_natCast, Int.natAbs_natCast]
  unfold rn rd
  exact Nat.coprime_div_gcd_div_gcd (Nat.gcd_pos_of_pos_right _ h1)
theorem At.new2e' (W : World) (a b : Value) (t : Nat) : At (W.drew.alloc (.cells #[a, b] t)) W.heap.size [a, b] := At.new2 W.drew a b t
theorem MF.up {w W : World} {pb po : Nat} {a b c x0 x1 x2 x3 : Value} (h : MF w W pb po a b c [x0, x1, x2, x3]) (v : Value) : MF w (W.setCell ⟨w.heap.size, 3, none⟩ v) pb po a b c [x0, x1, x2, v] := by
  have hlt := h.lt
  have n1 : ¬ pb = w.heap.size := by omega
  refine ⟨h.a0.put 3 v, ⟨?_, ?_, ?_⟩, h.gr.set (Nat.le_refl _) _ _, h.lt⟩
  · simp [go_sem, h.p.1]
  · simp [go_sem, h.p.2.1]
  · simp [go_sem, h.p.2.2]
set_option maxRecDepth 4000 in
set_option maxHeartbeats 4000000 in
theorem needs_no (g : Nat → Addr) (v : Value) (f t e u : Int) (w : World) (hl : Laid w g) (h1 : ∀ W, Gr w W → Calls Tryd.prog 17 #[v] W fun e w' => e = .returned (.bool false) ∧ w' = W) : Calls Tryd.prog 5 #[v, loV f t e u] w fun e w' => e = .returned (.bool true) ∧ Gr w w' := by
  have F := hidb (KB.new w f t e u)
  have CR := hidb (seen_any g _ (hl.below F.out.gr.out).lai)
  have S1 := hidb h1
  clear hl h1
  go_enter Tryd.func5, Tryd.ntmps5
  go_wp2_with fail
  refine CR.out.mono ?_
  rintro ee w1 ⟨rfl, hB⟩
  replace F := hidb (F.out.below hB.out)
  clear hB CR
  go_wp2_with fail
  refine (S1.out _ F.out.gr).mono ?_
  rintro ee w2 ⟨rfl, rfl⟩
  go_wp2
  go_ret
  exact ⟨rfl, F.out.gr⟩
theorem nedS_right {l : List Int} {m n f t : Nat} (ok : Ok l m n) (hf : f < l.length) (ht : t < l.length) {e : Int} (he : 0 ≤ e ∧ e ≤ 1048576) : Rgt (ndN (nedS l m n f t e)) (ndD (nedS l m n f t e)) := by
  have I := NdI.all' (lkK l m n (f % m) (f / m) (t % m) (t / m) (gl l f + e) (gl l t)) (sts (f % m) (f / m) (t % m) (t / m)) (fun q hq => (sts_in hq).1)
  have hm2 := ok.m2
  have hn2 := ok.n2
  have k1 := ok.div hf
  have k2 := ok.div ht
  have B : (nedS l m n f t e).1 ≤ 2000000000 ∧ (nedS l m n f t e).2 ≤ 254 := by
    rcases I.one with q | ⟨p, hp, q⟩
    · rw [show nedS l m n f t e = (0, 1) from q]; simp
    · rw [show nedS l m n f t e = _ from q]
      have hp2 := sts_in hp
      have hp3 := sts_le hp (by omega) (by omega) (by omega) (by omega)
      have := lkK_bd (m := m) (n := n) (c0 := f % m) (r0 := f / m) (c1 := t % m) (r1 := t / m) ok.hi (hiE_add (ok.hi f) he.1 he.2) (by have := hiE_add (ok.hi t) (Int.le_refl 0) (by decide); rwa [Int.add_zero] at this) hp2.1 hp2.2 hp3
      simp only
      omega
  exact nd_right I.num I.den B.1 B.2
set_option maxRecDepth 4000 in
set_option maxHeartbeats 16000000 in
theorem needs_ok (g : Nat → Addr) {m n pb po b o cap fN tN : Nat} {l : List Int} (f t e u : Int) (hf : f = (fN : Int)) (ht : t = (tN : Int)) (w : World) (hl : Laid w g) (ra : Rin w pb po m n (some ⟨b, o, none⟩) b o cap l) (hr : Rs w b o cap l) (ok : Ok l m n) (ll : l.length ≤ 80) (hv : vcode m n l = 0) (hb : loB l.length f t e 0 = true) : Calls Tryd.prog 5 #[.pointer (some ⟨pb, po, none⟩), loV f t e u] w fun e w' => e = .returned (.bool true) ∧ Gr w w' := by
  obtain ⟨⟨hf2, ht2⟩, he, hu⟩ := loB_yes hb
  have hfN : fN < l.length := by omega
  have htN : tN < l.length := by omega
  have F0 := hidb (KB.new w f t e u)
  have CR := hidb (seen_any g _ (hl.below F0.out.gr.out).lai)
  have S1 := hidb (fun W1 (hG : Gr w W1) => small4_any pb po m n (some ⟨b, o, none⟩) l.length cap W1 (ra.below hG).pt)
  rw [decide_eq_true ll] at S1
  have CL := hidb (fun W1 (hG : Gr w W1) => lookError_any f t e 0 W1 (ra.below hG) (by omega))
  have HLo := hidb (fun W1 => look_any f t e u W1)
  have HP := hidb (fun W1 (hG : Gr w W1) => (ra.below hG).pt.all)
  have HB := hidb (show pb < w.heap.size from lt_of_cell ra.pt.all.1)
  rw [show lcode m n l f t e 0 = 0 by unfold lcode; rw [if_pos hv, if_pos hb]] at CL
  have C12 := hidb (fun W1 (hG : Gr w W1) => need_ok g f t e u hf ht W1 (hr.below hG.out) ok hv (hl.below hG.out).lai hb)
  obtain ⟨nd0, nd1, nd2⟩ := nedS_ok ok hfN htN he
  have I := NdI.all' (lkK l m n (fN % m) (fN / m) (tN % m) (tN / m) (gl l fN + e) (gl l tN)) (sts (fN % m) (fN / m) (tN % m) (tN / m)) (fun q hq => (sts_in hq).1)
  have CI := hidb (fun W1 => isRight_any (ndN (nedS l m n fN tN e)) (ndD (nedS l m n fN tN e)) W1)
  have hrg : Rgt (ndN (nedS l m n fN tN e)) (ndD (nedS l m n fN tN e)) := nedS_right ok hfN htN he
  rw [decide_eq_true hrg] at CI
  have CN := hidb (fun W1 (hG : Gr w W1) => isNeed_any f t e 0 (ndN (nedS l m n fN tN e)) (ndD (nedS l m n fN tN e)) hf ht W1 (ra.below hG).pt (hr.below hG.out) ok hfN htN he nd2 nd1 nd0)
  generalize ndN (nedS l m n fN tN e) = fn at *
  generalize ndD (nedS l m n fN tN e) = fd at *
  obtain ⟨N, hN⟩ : ∃ N, N = l.length := ⟨_, rfl⟩
  rw [← hN] at C12 HP
  clear hf2 ht2 he hu hfN htN nd0 nd1 nd2 I hrg hb hv ll ok hr ra hl hf ht hN
  go_enter Tryd.func5, Tryd.ntmps5
  go_wp2_with fail
  refine CR.out.mono ?_
  rintro ee w1 ⟨rfl, hB⟩
  replace F0 := hidb (F0.out.below hB.out)
  clear hB CR
  go_wp2_with fail
  refine (S1.out _ F0.out.gr).mono ?_
  rintro ee w2 ⟨rfl, rfl⟩
  have E0 : Hid (MF w w2 pb po (.int .i64 (m : Int)) (.int .i64 (n : Int)) (.slice (some ⟨b, o, none⟩) N cap) [.int .i64 f, .int .i64 t, .int .i64 e, .int .i64 u]) := ⟨F0.out.a0, HP.out _ F0.out.gr, F0.out.gr, HB.out⟩
  clear F0 HP S1
  go_upto_region 5 with fail
  go_cut [7, 8] from 21 to 29 (fun s7 s8 wx => ∃ D, s7 = .pointer (some ⟨D, 0, none⟩) ∧ s8 = .nilIface ∧ Hid (At wx D [.int .i64 fn, .int .i64 fd] ∧ w.heap.size < D ∧ MF w wx pb po (.int .i64 (m : Int)) (.int .i64 (n : Int)) (.slice (some ⟨b, o, none⟩) N cap) [.int .i64 f, .int .i64 t, .int .i64 e, .int .i64 u]))
  case first =>
    have E := E0.out
    clear E0
    have NLw := E.a0.lt
    go_region_held (fun w' => (w'.cell? ⟨pb, po, none⟩ = some (.int .i64 (m : Int)) ∧ w'.cell? ⟨pb, po + 1, none⟩ = some (.int .i64 (n : Int)) ∧ w'.cell? ⟨pb, po + 2, none⟩ = some (.slice (some ⟨b, o, none⟩) N cap)) ∧ w'.cell? ⟨w.heap.size, 0, none⟩ = some (.int .i64 f) ∧ w'.cell? ⟨w.heap.size, 1, none⟩ = some (.int .i64 t) ∧ w'.cell? ⟨w.heap.size, 2, none⟩ = some (.int .i64 e) ∧ w'.cell? ⟨w.heap.size, 3, none⟩ = some (.int .i64 u))
      (with_reducible first | exact E.all | exact E.drew.all | exact (E.alloc _).all | exact (E.alloc _).drew.all | exact (E.drew.alloc _).all | exact ((E.set NL _ _).set NL _ _).all | exact ((E.set NL _ _).set NL _ _).drew.all | exact ((E.drew.set NL _ _).set NL _ _).all)
      ((first
        | (go_at_call 19; with_reducible refine (HLo.out _).mono ?_; rintro ee w8 ⟨rfl, hB8⟩; (with_reducible first | (have NA := At.below hB8.out (At.new2e' _ _ _ _); have NL := E.a0.lt) | (have NA := At.below hB8.out (At.drew (At.new2 _ _ _ _)); have NL := E.a0.lt) | (have NA := At.below hB8.out (At.new2 _ _ _ _); have NL := E.a0.lt) | (replace NA := At.below hB8.out NA) | (replace NA := At.below hB8.out (At.drew NA)) | skip); (with_reducible first | replace E := E.below hB8.out | replace E := E.drew.below hB8.out | replace E := (E.alloc _).below hB8.out | replace E := (E.drew.alloc _).below hB8.out | replace E := (E.alloc _).drew.below hB8.out); clear hB8; (first | (obtain ⟨n0, n1⟩ := NA.c2; obtain ⟨n3, n4⟩ := NA.f2; have NH := NA.has (n := 2) rfl) | skip))
        | (go_at_call 27; with_reducible refine (C12.out _ (by with_reducible first | exact E.gr | exact E.gr.drew | exact (E.alloc _).gr | exact (E.alloc _).gr.drew | exact (E.drew.alloc _).gr)).mono ?_; rintro ee w8 ⟨rfl, hB8⟩; (with_reducible first | (have NA := At.below hB8.out (At.new2e' _ _ _ _); have NL := E.a0.lt) | (have NA := At.below hB8.out (At.drew (At.new2 _ _ _ _)); have NL := E.a0.lt) | (have NA := At.below hB8.out (At.new2 _ _ _ _); have NL := E.a0.lt) | (replace NA := At.below hB8.out NA) | (replace NA := At.below hB8.out (At.drew NA)) | skip); (with_reducible first | replace E := E.below hB8.out | replace E := E.drew.below hB8.out | replace E := (E.alloc _).below hB8.out | replace E := (E.drew.alloc _).below hB8.out | replace E := (E.alloc _).drew.below hB8.out); clear hB8; (first | (obtain ⟨n0, n1⟩ := NA.c2; obtain ⟨n3, n4⟩ := NA.f2; have NH := NA.has (n := 2) rfl) | skip))
        | fail))
    all_goals
      go_wp2_with fail
      go_meet
      refine ⟨_, rfl, rfl, ?_, ?_, ?_⟩
    all_goals with_reducible first | exact At.new2 _ _ _ _ | exact (At.new2 _ _ _ _).drew | exact At.new2e' _ _ _ _ | exact At.fill2 NH _ _ | exact (At.fill2 NH _ _).drew | exact E.alloc _ | exact (E.alloc _).drew | exact E.drew.alloc _ | exact (E.set NL _ _).set NL _ _ | exact ((E.set NL _ _).set NL _ _).drew | exact NL | exact NLw | exact E.a0.lt
  case rest =>
    clear E0
    obtain ⟨D, rfl, rfl, EA⟩ := hcut
    obtain ⟨r0, r1, r2, r3⟩ := EA.out.2.2.a0.c4
    have r9 := (EA.out.2.2.a0.1 3 (by simp)).2
    have E1 := hidb (show At (wc.setCell ⟨w.heap.size, 3, none⟩ (.int .i64 0)) D [.int .i64 fn, .int .i64 fd] ∧ MF w (wc.setCell ⟨w.heap.size, 3, none⟩ (.int .i64 0)) pb po (.int .i64 (m : Int)) (.int .i64 (n : Int)) (.slice (some ⟨b, o, none⟩) N cap) [.int .i64 f, .int .i64 t, .int .i64 e, .int .i64 0] from ⟨EA.out.1.skip (by have := EA.out.2.1; omega) _ _, EA.out.2.2.up _⟩)
    go_upto_region 7 with fail
    clear EA r0 r1 r2 r3 r9
    generalize wc.setCell ⟨w.heap.size, 3, none⟩ (.int .i64 0) = w5 at *
    obtain ⟨r0, r1, r2, r3⟩ := E1.out.2.a0.c4
    go_wp2_with fail
    refine (CL.out _ E1.out.2.gr).mono ?_
    rintro ee w6 ⟨rfl, hB6⟩
    replace E1 := hidb (show At w6 D [.int .i64 fn, .int .i64 fd] ∧ MF w w6 pb po (.int .i64 (m : Int)) (.int .i64 (n : Int)) (.slice (some ⟨b, o, none⟩) N cap) [.int .i64 f, .int .i64 t, .int .i64 e, .int .i64 0] from ⟨At.below hB6.out E1.out.1, E1.out.2.below hB6.out⟩)
    clear hB6 CL r0 r1 r2 r3
    obtain ⟨n0, n1⟩ := E1.out.1.c2
    go_wp2_with fail
    refine (CI.out _).mono ?_
    rintro ee w7 ⟨rfl, hB7⟩
    replace E1 := hidb (show At w7 D [.int .i64 fn, .int .i64 fd] ∧ MF w w7 pb po (.int .i64 (m : Int)) (.int .i64 (n : Int)) (.slice (some ⟨b, o, none⟩) N cap) [.int .i64 f, .int .i64 t, .int .i64 e, .int .i64 0] from ⟨At.below hB7 E1.out.1, E1.out.2.below hB7⟩)
    clear hB7 n0 n1 CI
    obtain ⟨n0, n1⟩ := E1.out.1.c2
    obtain ⟨r0, r1, r2, r3⟩ := E1.out.2.a0.c4
    go_wp2_with fail
    refine (CN.out _ E1.out.2.gr).mono ?_
    rintro ee w8 ⟨rfl, hB8⟩
    have G9 := hidb (Gr.step E1.out.2.gr hB8.out)
    clear hB8 n0 n1 r0 r1 r2 r3 CN E1
    go_wp2
    go_ret
    exact ⟨rfl, G9.out⟩
set_option maxRecDepth 4000 in
set_option maxHeartbeats 16000000 in
theorem needs_err (g : Nat → Addr) {pb po : Nat} {W0 H0 : Int} {ad : Option Addr} {b o cap : Nat} {l : List Int} (f t e u : Int) (w : World) (hl : Laid w g) (ra : Rin w pb po W0 H0 ad b o cap l) (ll : l.length ≤ 80) (hc : ¬ lcode W0 H0 l f t e 0 = 0) (hn : ∀ W, Gr w W → Calls Tryd.prog 27 #[raV W0 H0 (.slice ad l.length cap), loV f t e u] W fun e' w' => e' = .returned (.tuple #[.agg #[.int .i64 0, .int .i64 0], errV g (lcode W0 H0 l f t e 0 - 1)]) ∧ Gr W w') : Calls Tryd.prog 5 #[.pointer (some ⟨pb, po, none⟩), loV f t e u] w fun e w' => e = .returned (.bool true) ∧ Gr w w' := by
  have F0 := hidb (KB.new w f t e u)
  have CR := hidb (seen_any g _ (hl.below F0.out.gr.out).lai)
  have S1 := hidb (fun W1 (hG : Gr w W1) => small4_any pb po W0 H0 ad l.length cap W1 (ra.below hG).pt)
  rw [decide_eq_true ll] at S1
  have CL := hidb (fun W1 (hG : Gr w W1) => lookError_any f t e 0 W1 (ra.below hG) (by omega))
  have HLo := hidb (fun W1 => look_any f t e u W1)
  have HP := hidb (fun W1 (hG : Gr w W1) => (ra.below hG).pt.all)
  have HB := hidb (show pb < w.heap.size from lt_of_cell ra.pt.all.1)
  have C12 := hidb hn
  have hv8 : vcode W0 H0 l ≤ 8 := by unfold vcode; split; omega; split; omega; split <;> omega
  have hc8 : lcode W0 H0 l f t e 0 ≤ 8 := by
    unfold lcode
    split
    · split <;> omega
    · exact hv8
  have CE := hidb (fun W1 (hG : Gr w W1) => coded4_sent g (lcode W0 H0 l f t e 0 - 1) (by omega) (lcode W0 H0 l f t e 0 : Int) W1 (hl.below hG.out) (by omega))
  have hc' : (0 : Int) < (lcode W0 H0 l f t e 0 : Int) := by omega
  generalize (lcode W0 H0 l f t e 0 : Int) = vc at *
  generalize lcode W0 H0 l f t e 0 - 1 = ei at *
  obtain ⟨N, hN⟩ : ∃ N, N = l.length := ⟨_, rfl⟩
  rw [← hN] at C12 HP
  clear ll ra hl hc hn hc8 hv8 hN
  go_enter Tryd.func5, Tryd.ntmps5
  go_wp2_with fail
  refine CR.out.mono ?_
  rintro ee w1 ⟨rfl, hB⟩
  replace F0 := hidb (F0.out.below hB.out)
  clear hB CR
  go_wp2_with fail
  refine (S1.out _ F0.out.gr).mono ?_
  rintro ee w2 ⟨rfl, rfl⟩
  have E0 : Hid (MF w w2 pb po (.int .i64 W0) (.int .i64 H0) (.slice ad N cap) [.int .i64 f, .int .i64 t, .int .i64 e, .int .i64 u]) := ⟨F0.out.a0, HP.out _ F0.out.gr, F0.out.gr, HB.out⟩
  clear F0 HP S1
  go_upto_region 5 with fail
  go_cut [7, 8] from 21 to 29 (fun s7 s8 wx => ∃ D, s7 = .pointer (some ⟨D, 0, none⟩) ∧ s8 = errV g ei ∧ Hid (At wx D [.int .i64 0, .int .i64 0] ∧ w.heap.size < D ∧ MF w wx pb po (.int .i64 W0) (.int .i64 H0) (.slice ad N cap) [.int .i64 f, .int .i64 t, .int .i64 e, .int .i64 u]))
  case first =>
    have E := E0.out
    clear E0
    have NLw := E.a0.lt
    go_region_held (fun w' => (w'.cell? ⟨pb, po, none⟩ = some (.int .i64 W0) ∧ w'.cell? ⟨pb, po + 1, none⟩ = some (.int .i64 H0) ∧ w'.cell? ⟨pb, po + 2, none⟩ = some (.slice ad N cap)) ∧ w'.cell? ⟨w.heap.size, 0, none⟩ = some (.int .i64 f) ∧ w'.cell? ⟨w.heap.size, 1, none⟩ = some (.int .i64 t) ∧ w'.cell? ⟨w.heap.size, 2, none⟩ = some (.int .i64 e) ∧ w'.cell? ⟨w.heap.size, 3, none⟩ = some (.int .i64 u))
      (with_reducible first | exact E.all | exact E.drew.all | exact (E.alloc _).all | exact (E.alloc _).drew.all | exact (E.drew.alloc _).all | exact ((E.set NL _ _).set NL _ _).all | exact ((E.set NL _ _).set NL _ _).drew.all | exact ((E.drew.set NL _ _).set NL _ _).all)
      ((first
        | (go_at_call 19; with_reducible refine (HLo.out _).mono ?_; rintro ee w8 ⟨rfl, hB8⟩; (with_reducible first | (have NA := At.below hB8.out (At.new2e' _ _ _ _); have NL := E.a0.lt) | (have NA := At.below hB8.out (At.drew (At.new2 _ _ _ _)); have NL := E.a0.lt) | (have NA := At.below hB8.out (At.new2 _ _ _ _); have NL := E.a0.lt) | (replace NA := At.below hB8.out NA) | (replace NA := At.below hB8.out (At.drew NA)) | skip); (with_reducible first | replace E := E.below hB8.out | replace E := E.drew.below hB8.out | replace E := (E.alloc _).below hB8.out | replace E := (E.drew.alloc _).below hB8.out | replace E := (E.alloc _).drew.below hB8.out); clear hB8; (first | (obtain ⟨n0, n1⟩ := NA.c2; obtain ⟨n3, n4⟩ := NA.f2; have NH := NA.has (n := 2) rfl) | skip))
        | (go_at_call 27; with_reducible refine (C12.out _ (by with_reducible first | exact E.gr | exact E.gr.drew | exact (E.alloc _).gr | exact (E.alloc _).gr.drew | exact (E.drew.alloc _).gr)).mono ?_; rintro ee w8 ⟨rfl, hB8⟩; (with_reducible first | (have NA := At.below hB8.out (At.new2e' _ _ _ _); have NL := E.a0.lt) | (have NA := At.below hB8.out (At.drew (At.new2 _ _ _ _)); have NL := E.a0.lt) | (have NA := At.below hB8.out (At.new2 _ _ _ _); have NL := E.a0.lt) | (replace NA := At.below hB8.out NA) | (replace NA := At.below hB8.out (At.drew NA)) | skip); (with_reducible first | replace E := E.below hB8.out | replace E := E.drew.below hB8.out | replace E := (E.alloc _).below hB8.out | replace E := (E.drew.alloc _).below hB8.out | replace E := (E.alloc _).drew.below hB8.out); clear hB8; (first | (obtain ⟨n0, n1⟩ := NA.c2; obtain ⟨n3, n4⟩ := NA.f2; have NH := NA.has (n := 2) rfl) | skip))
        | fail))
    all_goals
      go_wp2_with fail
      go_meet
      refine ⟨_, rfl, rfl, ?_, ?_, ?_⟩
    all_goals with_reducible first | exact At.new2 _ _ _ _ | exact (At.new2 _ _ _ _).drew | exact At.new2e' _ _ _ _ | exact At.fill2 NH _ _ | exact (At.fill2 NH _ _).drew | exact E.alloc _ | exact (E.alloc _).drew | exact E.drew.alloc _ | exact (E.set NL _ _).set NL _ _ | exact ((E.set NL _ _).set NL _ _).drew | exact NL | exact NLw | exact E.a0.lt
  case rest =>
    clear E0
    obtain ⟨D, rfl, rfl, EA⟩ := hcut
    obtain ⟨r0, r1, r2, r3⟩ := EA.out.2.2.a0.c4
    have r9 := (EA.out.2.2.a0.1 3 (by simp)).2
    have E1 := hidb (show At (wc.setCell ⟨w.heap.size, 3, none⟩ (.int .i64 0)) D [.int .i64 0, .int .i64 0] ∧ MF w (wc.setCell ⟨w.heap.size, 3, none⟩ (.int .i64 0)) pb po (.int .i64 W0) (.int .i64 H0) (.slice ad N cap) [.int .i64 f, .int .i64 t, .int .i64 e, .int .i64 0] from ⟨EA.out.1.skip (by have := EA.out.2.1; omega) _ _, EA.out.2.2.up _⟩)
    go_upto_region 7 with fail
    clear EA r0 r1 r2 r3 r9
    generalize wc.setCell ⟨w.heap.size, 3, none⟩ (.int .i64 0) = w5 at *
    obtain ⟨r0, r1, r2, r3⟩ := E1.out.2.a0.c4
    go_wp2_with fail
    refine (CL.out _ E1.out.2.gr).mono ?_
    rintro ee w6 ⟨rfl, hB6⟩
    replace E1 := hidb (show At w6 D [.int .i64 0, .int .i64 0] ∧ MF w w6 pb po (.int .i64 W0) (.int .i64 H0) (.slice ad N cap) [.int .i64 f, .int .i64 t, .int .i64 e, .int .i64 0] from ⟨At.below hB6.out E1.out.1, E1.out.2.below hB6.out⟩)
    clear hB6 CL r0 r1 r2 r3
    go_wp2_with fail
    refine (CE.out _ E1.out.2.gr).mono ?_
    rintro ee w7 ⟨rfl, hB7⟩
    replace E1 := hidb (show At w7 D [.int .i64 0, .int .i64 0] ∧ Gr w w7 from ⟨At.below hB7.out E1.out.1, Gr.step E1.out.2.gr hB7.out⟩)
    clear hB7 CE
    obtain ⟨n0, n1⟩ := E1.out.1.c2
    go_wp2
    go_ret
    exact ⟨rfl, E1.out.2⟩
theorem sightNeeds_law (g : Nat → Addr) (a : Option Addr) (f t e u : Int) (w : World) (hl : Laid w g) (ha : RArg w a) : Calls Tryd.prog 5 #[.pointer a, loV f t e u] w fun e w' => e = .returned (.bool true) ∧ Gr w w' := by
  obtain ⟨s, h1, h2⟩ := small4_arg ha
  cases s with
  | false => exact needs_no g _ f t e u w hl h1
  | true =>
    obtain ⟨pb, po, W, H, sd, b, o, cap, l, rfl, hr, hc, ll⟩ := h2 rfl
    by_cases hv1 : vcode W H l = 0
    · obtain ⟨m, n, rfl, rfl, ok⟩ := ok_of hv1
      have hN := Nat.mul_le_mul ok.m1 ok.n1
      have h0 : ¬ l.length = 0 := by rw [ok.len]; omega
      obtain ⟨rfl, hRs⟩ := hc h0
      by_cases hb : loB l.length f t e 0 = true
      · obtain ⟨⟨hf, ht⟩, he, hu⟩ := loB_yes hb
        exact needs_ok g (fN := f.toNat) (tN := t.toNat) f t e u (by omega) (by omega) w hl hr hRs ok ll hv1 hb
      · have hlc : lcode m n l f t e 0 = 4 := by unfold lcode; rw [if_pos hv1, if_neg hb]
        refine needs_err g f t e u w hl hr ll (by omega) (fun W hG => ?_)
        rw [hlc]
        exact need_bad g f t e u W (hRs.below hG.out) ok hv1 (hl.below hG.out).lai (by simpa using hb)
    · have hlc : lcode W H l f t e 0 = vcode W H l := by unfold lcode; rw [if_neg hv1]
      refine needs_err g f t e u w hl hr ll (by omega) (fun W1 hG => ?_)
      rw [hlc]
      exact need_no g f t e u W1 (hr.below hG).sl (by omega) (hl.below hG.out).lai hv1
end Go.Proofs.YtpdiefmmenfpaaaDoor
