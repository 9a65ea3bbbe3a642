/-
  SightMutual, where all is right and the one is seen.
-/
import Derived.Test.YtpdiefmmenfpaaaDoorQSiM
import Derived.Deep.DrawnRows
import Derived.Deep.CutBlock
namespace Go.Proofs.YtpdiefmmenfpaaaDoor
open Go.RowKit
attribute [local go_sem ↓] Go.wp_at_zero Go.wp_at_succ

theorem At.new2d' (W : World) (a b : Value) (t : Nat) : At (W.drew.alloc (.cells #[a, b] t)) W.heap.size [a, b] := At.new2 W.drew a b t
set_option maxRecDepth 4000 in
set_option maxHeartbeats 32000000 in
theorem mutual_T (g : Nat → Addr) {m n pb po b o cap fN tN : Nat} {l : List Int} (f t e u mo ce : Int) (hf : f = (fN : Int)) (ht : t = (tN : Int)) (w : World) (hl : Lai w g) (ra : Rin w pb po m n (some ⟨b, o, none⟩) b o cap l) (hr : Rs w b o cap l) (ok : Ok l m n) (ll : l.length ≤ 80) (hv : vcode m n l = 0) (hb : loB l.length f t e u = true) (hmo : 0 ≤ mo ∧ mo ≤ 1000) (hem : e + mo ≤ 1048576) (hs : seeP l m n fN tN e u) : Calls Tryd.prog 6 #[.pointer (some ⟨pb, po, none⟩), loV f t e u, .int .i64 mo, .int .i64 ce] w fun e w' => e = .returned (.bool true) ∧ Gr w w' := by
  obtain ⟨⟨hf2, ht2⟩, he, hu⟩ := loB_yes hb
  have hfN : fN < l.length := by omega
  have htN : tN < l.length := by omega
  have F0 := hidb (KB.new w f t e u)
  have CR := hidb (seen_any g _ (hl.below F0.out.gr.out))
  have S1 := hidb (fun W1 (hG : Gr w W1) => small4_any pb po m n (some ⟨b, o, none⟩) l.length cap W1 (ra.below hG).pt)
  rw [decide_eq_true ll] at S1
  have CL := hidb (fun W1 (hG : Gr w W1) => lookError_any f t e u W1 (ra.below hG) (by omega))
  rw [show lcode m n l f t e u = 0 by unfold lcode; rw [if_pos hv, if_pos hb]] at CL
  have C5 := hidb (fun W1 (hG : Gr w W1) => sees_ok g f t e u hf ht W1 (hr.below hG.out) ok hv (hl.below hG.out) hb)
  have C6 := hidb (fun W1 (hG : Gr w W1) => sees_ok g t f u e ht hf W1 (hr.below hG.out) ok hv (hl.below hG.out) (loB_is ⟨⟨ht2, hf2⟩, hu, he⟩))
  rw [seeP_turn] at C6
  rw [decide_eq_true hs] at C5 C6
  obtain ⟨em, hem1, e1⟩ : ∃ z : Int, z = e + mo ∧ IntKind.i64.wrap (e + mo) = z := ⟨_, rfl, wrap_in (by omega) (by omega)⟩
  have C9 := hidb (fun W1 (hG : Gr w W1) => sees_ok g f t em u hf ht W1 (hr.below hG.out) ok hv (hl.below hG.out) (loB_is ⟨⟨hf2, ht2⟩, by omega, hu⟩))
  rw [decide_eq_true (seeP_high (show e ≤ em by omega) hs)] at C9
  have C12 := hidb (fun W1 (hG : Gr w W1) => need_ok g f t e u hf ht W1 (hr.below hG.out) ok hv (hl.below hG.out) (loB_is ⟨⟨hf2, ht2⟩, he, Int.le_refl 0, by decide⟩))
  obtain ⟨-, nd1, nd2⟩ := nedS_ok ok hfN htN he
  have nd3 := seeP_need ok hfN htN he hu.1
  generalize ndN (nedS l m n fN tN e) = fn at *
  generalize ndD (nedS l m n fN tN e) = fd at *
  have nd4 := mul254 (k := fd) (x := u) (by omega) (by omega) (M := 1048576) (by omega) (by omega)
  rw [Int.mul_comm fd u] at nd4
  obtain ⟨p, hp, e2⟩ : ∃ z : Int, z = u * fd ∧ IntKind.i64.wrap (u * fd) = z := ⟨_, rfl, wrap_in (by omega) (by omega)⟩
  rw [← hp] at nd3
  have hfp : fn ≤ p := nd3.1 hs
  have hfd : ¬ fd < 1 := by omega
  have HLo := hidb (fun W1 => look_any f t e u W1)
  have HP := hidb (fun W1 (hG : Gr w W1) => (ra.below hG).pt.all)
  have HB := hidb (show pb < w.heap.size from lt_of_cell ra.pt.all.1)
  have hm1 : ¬ mo < 0 := by omega
  have hm2 : ¬ 1000 < mo := by omega
  have hm3 : ¬ 1048576 < em := by omega
  have HOk := hidb ok
  have HRs := hidb hr
  have HLd := hidb hl
  have HNb := hidb (show l.length ≤ 80 ∧ 0 < l.length from ⟨ll, by omega⟩)
  have HFT := hidb (show (f = (fN : Int) ∧ t = (tN : Int)) ∧ loB l.length f t e u = true ∧ seeP l m n fN tN e u from ⟨⟨hf, ht⟩, hb, hs⟩)
  have HMo := hidb hmo
  obtain ⟨N, hN⟩ : ∃ N, N = l.length := ⟨_, rfl⟩
  have HN := hidb hN
  rw [← hN] at C5 C6 C9 C12 HP HNb
  clear hf2 ht2 he hu hfN htN hem1 nd1 nd2 nd3 nd4 hp hmo hem hs hb hv ll ok hr ra hl hf ht hN
  go_enter Tryd.func6, Tryd.ntmps6
  go_wp2_with fail
  refine CR.out.mono ?_
  rintro ee w1 ⟨rfl, hB⟩
  replace F0 := hidb (F0.out.below hB.out)
  clear hB CR
  go_wp2_with fail
  refine (S1.out _ F0.out.gr).mono ?_
  rintro ee w2 ⟨rfl, rfl⟩
  obtain ⟨r0, r1, r2, r3⟩ := F0.out.a0.c4
  go_wp2_with fail
  refine (CL.out _ F0.out.gr).mono ?_
  rintro ee w3 ⟨rfl, hB⟩
  replace F0 := hidb (F0.out.below hB.out)
  clear hB r0 r1 r2 r3 CL S1
  have E0 : Hid (MF w w3 pb po (.int .i64 (m : Int)) (.int .i64 (n : Int)) (.slice (some ⟨b, o, none⟩) N cap) [.int .i64 f, .int .i64 t, .int .i64 e, .int .i64 u]) := ⟨F0.out.a0, HP.out _ F0.out.gr, F0.out.gr, HB.out⟩
  obtain ⟨r0, r1, r2, r3⟩ := E0.out.a0.c4
  clear F0 HP
  go_upto_region 5 with fail
  go_cut [11, 12] from 50 to 58 (fun s11 s12 wx => s11 = .bool true ∧ s12 = .nilIface ∧ Hid (MF w wx pb po (.int .i64 (m : Int)) (.int .i64 (n : Int)) (.slice (some ⟨b, o, none⟩) N cap) [.int .i64 f, .int .i64 t, .int .i64 e, .int .i64 u]))
  case first =>
    have E := E0.out
    clear E0
    go_region_held (fun w' => (w'.cell? ⟨pb, po, none⟩ = some (.int .i64 (m : Int)) ∧ w'.cell? ⟨pb, po + 1, none⟩ = some (.int .i64 (n : Int)) ∧ w'.cell? ⟨pb, po + 2, none⟩ = some (.slice (some ⟨b, o, none⟩) N cap)) ∧ w'.cell? ⟨w.heap.size, 0, none⟩ = some (.int .i64 f) ∧ w'.cell? ⟨w.heap.size, 1, none⟩ = some (.int .i64 t) ∧ w'.cell? ⟨w.heap.size, 2, none⟩ = some (.int .i64 e) ∧ w'.cell? ⟨w.heap.size, 3, none⟩ = some (.int .i64 u))
      (with_reducible first | exact E.all | exact E.drew.all)
      ((first | (go_at_call 19; with_reducible refine (HLo.out _).mono ?_; rintro ee w8 ⟨rfl, hB8⟩; (with_reducible first | replace E := E.below hB8.out | replace E := E.drew.below hB8.out); clear hB8) | (go_at_call 18; with_reducible refine (C5.out _ (by with_reducible first | exact E.gr | exact E.gr.drew)).mono ?_; rintro ee w8 ⟨rfl, hB8⟩; (with_reducible first | replace E := E.below hB8.out | replace E := E.drew.below hB8.out); clear hB8) | fail))
    all_goals
      go_wp2_with fail
      go_meet
      exact ⟨rfl, rfl, by with_reducible first | exact hidb E | exact hidb E.drew⟩
  case rest =>
    clear E0
    obtain ⟨rfl, rfl, E0⟩ := hcut
    go_upto_region 6 with fail
    go_cut [13, 14] from 59 to 74 (fun s13 s14 wx => s13 = .bool true ∧ s14 = .nilIface ∧ Hid (MF w wx pb po (.int .i64 (m : Int)) (.int .i64 (n : Int)) (.slice (some ⟨b, o, none⟩) N cap) [.int .i64 f, .int .i64 t, .int .i64 e, .int .i64 u]))
    case first =>
      have E := E0.out
      clear E0
      go_region_held (fun w' => (w'.cell? ⟨pb, po, none⟩ = some (.int .i64 (m : Int)) ∧ w'.cell? ⟨pb, po + 1, none⟩ = some (.int .i64 (n : Int)) ∧ w'.cell? ⟨pb, po + 2, none⟩ = some (.slice (some ⟨b, o, none⟩) N cap)) ∧ w'.cell? ⟨w.heap.size, 0, none⟩ = some (.int .i64 f) ∧ w'.cell? ⟨w.heap.size, 1, none⟩ = some (.int .i64 t) ∧ w'.cell? ⟨w.heap.size, 2, none⟩ = some (.int .i64 e) ∧ w'.cell? ⟨w.heap.size, 3, none⟩ = some (.int .i64 u))
        (with_reducible first | exact E.all | exact E.drew.all)
        ((first | (go_at_call 18; with_reducible refine (C6.out _ (by with_reducible first | exact E.gr | exact E.gr.drew)).mono ?_; rintro ee w8 ⟨rfl, hB8⟩; (with_reducible first | replace E := E.below hB8.out | replace E := E.drew.below hB8.out); clear hB8) | fail))
      all_goals
        go_wp2_with fail
        go_meet
        exact ⟨rfl, rfl, by with_reducible first | exact hidb E | exact hidb E.drew⟩
    case rest =>
      clear E0
      obtain ⟨rfl, rfl, E0⟩ := hcut
      go_upto_region 9 with fail
      go_cut [12, 15] from 86 to 103 (fun s12 s15 wx => s12 = .nilIface ∧ s15 = .bool true ∧ Hid (MF w wx pb po (.int .i64 (m : Int)) (.int .i64 (n : Int)) (.slice (some ⟨b, o, none⟩) N cap) [.int .i64 f, .int .i64 t, .int .i64 e, .int .i64 u]))
      case first =>
        have E := E0.out
        clear E0
        go_region_held (fun w' => (w'.cell? ⟨pb, po, none⟩ = some (.int .i64 (m : Int)) ∧ w'.cell? ⟨pb, po + 1, none⟩ = some (.int .i64 (n : Int)) ∧ w'.cell? ⟨pb, po + 2, none⟩ = some (.slice (some ⟨b, o, none⟩) N cap)) ∧ w'.cell? ⟨w.heap.size, 0, none⟩ = some (.int .i64 f) ∧ w'.cell? ⟨w.heap.size, 1, none⟩ = some (.int .i64 t) ∧ w'.cell? ⟨w.heap.size, 2, none⟩ = some (.int .i64 e) ∧ w'.cell? ⟨w.heap.size, 3, none⟩ = some (.int .i64 u))
          (with_reducible first | exact E.all | exact E.drew.all)
          ((first | (go_at_call 18; with_reducible refine (C9.out _ (by with_reducible first | exact E.gr | exact E.gr.drew)).mono ?_; rintro ee w8 ⟨rfl, hB8⟩; (with_reducible first | replace E := E.below hB8.out | replace E := E.drew.below hB8.out); clear hB8) | fail))
        all_goals
          go_wp2_with fail
          go_meet
          exact ⟨rfl, rfl, by with_reducible first | exact hidb E | exact hidb E.drew⟩
      case rest =>
        clear E0
        obtain ⟨rfl, rfl, E0⟩ := hcut
        go_upto_region 12 with fail
        go_cut [12, 16] from 113 to 121 (fun s12 s16 wx => ∃ D, s12 = .nilIface ∧ s16 = .pointer (some ⟨D, 0, none⟩) ∧ Hid (At wx D [.int .i64 fn, .int .i64 fd] ∧ MF w wx pb po (.int .i64 (m : Int)) (.int .i64 (n : Int)) (.slice (some ⟨b, o, none⟩) N cap) [.int .i64 f, .int .i64 t, .int .i64 e, .int .i64 u]))
        case first =>
          have E := E0.out
          clear E0
          have NLw := E.a0.lt
          go_region_held (fun w' => (w'.cell? ⟨pb, po, none⟩ = some (.int .i64 (m : Int)) ∧ w'.cell? ⟨pb, po + 1, none⟩ = some (.int .i64 (n : Int)) ∧ w'.cell? ⟨pb, po + 2, none⟩ = some (.slice (some ⟨b, o, none⟩) N cap)) ∧ w'.cell? ⟨w.heap.size, 0, none⟩ = some (.int .i64 f) ∧ w'.cell? ⟨w.heap.size, 1, none⟩ = some (.int .i64 t) ∧ w'.cell? ⟨w.heap.size, 2, none⟩ = some (.int .i64 e) ∧ w'.cell? ⟨w.heap.size, 3, none⟩ = some (.int .i64 u))
            (with_reducible first | exact E.all | exact E.drew.all | exact (E.alloc _).all | exact (E.alloc _).drew.all | exact (E.drew.alloc _).all | exact ((E.set NL _ _).set NL _ _).all | exact ((E.set NL _ _).set NL _ _).drew.all | exact ((E.drew.set NL _ _).set NL _ _).all)
            ((first
              | (go_at_call 19; with_reducible refine (HLo.out _).mono ?_; rintro ee w8 ⟨rfl, hB8⟩; (with_reducible first | (have NA := At.below hB8.out (At.new2d' _ _ _ _); have NL := E.a0.lt) | (have NA := At.below hB8.out (At.drew (At.new2 _ _ _ _)); have NL := E.a0.lt) | (have NA := At.below hB8.out (At.new2 _ _ _ _); have NL := E.a0.lt) | (replace NA := At.below hB8.out NA) | (replace NA := At.below hB8.out (At.drew NA)) | skip); (with_reducible first | replace E := E.below hB8.out | replace E := E.drew.below hB8.out | replace E := (E.alloc _).below hB8.out | replace E := (E.drew.alloc _).below hB8.out | replace E := (E.alloc _).drew.below hB8.out); clear hB8; (first | (obtain ⟨n0, n1⟩ := NA.c2; obtain ⟨n3, n4⟩ := NA.f2; have NH := NA.has (n := 2) rfl) | skip))
              | (go_at_call 27; with_reducible refine (C12.out _ (by with_reducible first | exact E.gr | exact E.gr.drew | exact (E.alloc _).gr | exact (E.alloc _).gr.drew | exact (E.drew.alloc _).gr)).mono ?_; rintro ee w8 ⟨rfl, hB8⟩; (with_reducible first | (have NA := At.below hB8.out (At.new2d' _ _ _ _); have NL := E.a0.lt) | (have NA := At.below hB8.out (At.drew (At.new2 _ _ _ _)); have NL := E.a0.lt) | (have NA := At.below hB8.out (At.new2 _ _ _ _); have NL := E.a0.lt) | (replace NA := At.below hB8.out NA) | (replace NA := At.below hB8.out (At.drew NA)) | skip); (with_reducible first | replace E := E.below hB8.out | replace E := E.drew.below hB8.out | replace E := (E.alloc _).below hB8.out | replace E := (E.drew.alloc _).below hB8.out | replace E := (E.alloc _).drew.below hB8.out); clear hB8; (first | (obtain ⟨n0, n1⟩ := NA.c2; obtain ⟨n3, n4⟩ := NA.f2; have NH := NA.has (n := 2) rfl) | skip))
              | fail))
          all_goals
            go_wp2_with fail
            go_meet
            refine ⟨_, rfl, rfl, ?_, ?_⟩
          all_goals with_reducible first | exact At.new2 _ _ _ _ | exact (At.new2 _ _ _ _).drew | exact At.new2d' _ _ _ _ | exact At.fill2 NH _ _ | exact (At.fill2 NH _ _).drew | exact E.alloc _ | exact (E.alloc _).drew | exact E.drew.alloc _ | exact (E.set NL _ _).set NL _ _ | exact ((E.set NL _ _).set NL _ _).drew
        case rest =>
          clear E0 r0 r1 r2 r3
          obtain ⟨D, rfl, rfl, EA⟩ := hcut
          obtain ⟨n0, n1⟩ := EA.out.1.c2
          obtain ⟨r0, r1, r2, r3⟩ := EA.out.2.a0.c4
          obtain ⟨p0, p1, p2⟩ := EA.out.2.p
          by_cases h0 : ce < 0
          · go_wp2
            go_ret
            exact ⟨rfl, EA.out.2.gr⟩
          · skip
            by_cases h1 : (N : Int) ≤ ce
            · go_wp2
              go_ret
              exact ⟨rfl, EA.out.2.gr⟩
            · skip
              by_cases h2 : ce = f
              · have k2 : (ce == f) = true := by simp [h2]
                go_wp2
                go_ret
                exact ⟨rfl, EA.out.2.gr⟩
              · have k2 : (ce == f) = false := by simp [h2]
                by_cases h3 : ce = t
                · have k3 : (ce == t) = true := by simp [h3]
                  go_wp2
                  go_ret
                  exact ⟨rfl, EA.out.2.gr⟩
                · have k3 : (ce == t) = false := by simp [h3]
                  obtain ⟨cN, hcN⟩ : ∃ k : Nat, ce = (k : Int) := ⟨ce.toNat, by omega⟩
                  have HC : Hid (ce = (cN : Int) ∧ cN < N ∧ ¬ cN = fN ∧ ¬ cN = tN) := ⟨hcN, by omega, fun k => h2 (by rw [hcN, k, HFT.out.1.1]), fun k => h3 (by rw [hcN, k, HFT.out.1.2])⟩
                  have E0 := hidb EA.out.2
                  clear hcN
                  go_upto_region 17 with fail
                  clear EA n0 n1 r0 r1 r2 r3 p0 p1 p2
                  go_cut [17] from 164 to 172 (fun s17 wx => ∃ Q, s17 = .pointer (some ⟨Q, 0, none⟩) ∧ Hid ((w.heap.size < Q ∧ At wx Q [(.int .i64 (m : Int)), (.int .i64 (n : Int)), .slice none 0 0]) ∧ MF w wx pb po (.int .i64 (m : Int)) (.int .i64 (n : Int)) (.slice (some ⟨b, o, none⟩) N cap) [.int .i64 f, .int .i64 t, .int .i64 e, .int .i64 u]))
                  case first =>
                    have E := E0.out
                    clear E0
                    have NLw := E.a0.lt
                    go_region_held (fun w' => (w'.cell? ⟨pb, po, none⟩ = some (.int .i64 (m : Int)) ∧ w'.cell? ⟨pb, po + 1, none⟩ = some (.int .i64 (n : Int)) ∧ w'.cell? ⟨pb, po + 2, none⟩ = some (.slice (some ⟨b, o, none⟩) N cap)) ∧ w'.cell? ⟨w.heap.size, 0, none⟩ = some (.int .i64 f) ∧ w'.cell? ⟨w.heap.size, 1, none⟩ = some (.int .i64 t) ∧ w'.cell? ⟨w.heap.size, 2, none⟩ = some (.int .i64 e) ∧ w'.cell? ⟨w.heap.size, 3, none⟩ = some (.int .i64 u))
                      (with_reducible first | exact E.all | exact E.drew.all | exact (E.alloc _).all | exact (E.alloc _).drew.all | exact (E.drew.alloc _).all | exact ((((E.alloc _).set NLw _ _).set NLw _ _).set NLw _ _).all | exact ((((E.alloc _).set NLw _ _).set NLw _ _).set NLw _ _).drew.all)
                      (fail)
                    all_goals
                      go_wp2_with fail
                      go_meet
                      refine ⟨_, rfl, ⟨?_, ?_⟩, ?_⟩
                    all_goals with_reducible first | exact NLw | exact At.new3 _ _ _ _ _ | exact (At.new3 _ _ _ _ _).drew | exact At.new3 _ _ _ _ _ | exact E.alloc _ | exact (E.alloc _).drew | exact E.drew.alloc _
                  case rest =>
                    clear E0
                    obtain ⟨Q, rfl, EQ⟩ := hcut
                    have HR0 := hidb (HRs.out.below EQ.out.2.gr.out)
                    have HGo := hidb (fun cp w4 (hA : At w4 wc.heap.size (ir l)) (hB : Below wc.heap.size wc w4) => MG.mk' (N := N) (cp := cp) EQ.out.2 EQ.out.1.2 EQ.out.1.1 hA hB)
                    have HQB := hidb (fun w4 (hB : Below wc.heap.size wc w4) => At.below hB EQ.out.1.2)
                    obtain ⟨p0, p1, p2⟩ := EQ.out.2.p
                    obtain ⟨q0, q1, q2⟩ := EQ.out.1.2.c3
                    have HGd := hidb (fun cp w4 (hA : At w4 wc.drew.heap.size (ir l)) (hB : Below wc.drew.heap.size wc.drew w4) => MG.mk' (N := N) (cp := cp) EQ.out.2.drew EQ.out.1.2.drew EQ.out.1.1 hA hB)
                    have HLe := hidb (show l.length = N ∧ 0 < N ∧ N ≤ 20000 from ⟨HN.out.symm, HNb.out.2, by have := HNb.out.1; omega⟩)
                    clear EQ
                    go_upto_region 18 with fail
                    obtain ⟨GB, hGB⟩ : ∃ G, G = wc.heap.size := ⟨_, rfl⟩
                    go_cut [17] from 173 to 180 (fun s17 wx => ∃ cp, s17 = .pointer (some ⟨Q, 0, none⟩) ∧ Hid (N ≤ cp ∧ MG w wx Q GB (.int .i64 (m : Int)) (.int .i64 (n : Int)) (.slice (some ⟨GB, 0, none⟩) N cp) [.int .i64 f, .int .i64 t, .int .i64 e, .int .i64 u] l))
                    case first =>
                      subst hGB
                      go_region_law ((first | (refine step_all _ N cap b o l _ _ rfl rfl rfl rfl HLe.out.1 HLe.out.2.1 HLe.out.2.2 HR0.out ?_; intro cp w4 hA hcp hB4; have HM := hidb (HGo.out cp w4 hA hB4); have HCp := hidb hcp; obtain ⟨z0, z1, z2⟩ := (HQB.out _ hB4).c3; have zf := ((HQB.out _ hB4).1 2 (by simp)).2; clear hA hcp hB4) | (refine step_all _ N cap b o l _ _ rfl rfl rfl rfl HLe.out.1 HLe.out.2.1 HLe.out.2.2 HR0.out.drew ?_; intro cp w4 hA hcp hB4; have HM := hidb (HGd.out cp w4 hA hB4); have HCp := hidb hcp; obtain ⟨z0, z1, z2⟩ := (At.below hB4 (HQB.out _ (Below.refl _ _)).drew).c3; have zf := ((At.below hB4 (HQB.out _ (Below.refl _ _)).drew).1 2 (by simp)).2; clear hA hcp hB4)))
                      all_goals
                        go_wp2_with fail
                        go_meet
                        exact ⟨_, rfl, HCp.out, by first | exact HM.out | exact HM.out.drew⟩
                    case rest =>
                      obtain ⟨cp, rfl, EM⟩ := hcut
                      clear hGB HGo HGd HQB HR0 p0 p1 p2 q0 q1 q2
                      obtain ⟨q0, q1, q2⟩ := EM.out.2.q.c3
                      obtain ⟨gx, gf⟩ := EM.out.2.g.get (j := cN) (by rw [HLe.out.1]; exact HC.out.2.1)
                      have ix := iindex GB 0 N cp cN HC.out.2.1
                      rw [Nat.zero_add, ← HC.out.1] at ix
                      have hcl : cN < l.length := by rw [HLe.out.1]; exact HC.out.2.1
                      rw [gl_get hcl] at gx
                      have hx1 := HOk.out.hi cN
                      obtain ⟨x, hx⟩ : ∃ x, x = gl l cN := ⟨_, rfl⟩
                      rw [← hx] at gx hx1
                      have HX := hidb hx
                      obtain ⟨x2, hx2, e3⟩ : ∃ z : Int, z = x + mo ∧ IntKind.i64.wrap (x + mo) = z := ⟨_, rfl, wrap_in (by have := HMo.out; unfold hiI at hx1; omega) (by have := HMo.out; unfold hiI at hx1; omega)⟩
                      have HX2 := hidb hx2
                      clear hx hx1 hx2 hcl
                      go_upto_region 19 with fail
                      go_cut [17] from 181 to 191 (fun s17 wx => s17 = .pointer (some ⟨Q, 0, none⟩) ∧ Hid (MG w wx Q GB (.int .i64 (m : Int)) (.int .i64 (n : Int)) (.slice (some ⟨GB, 0, none⟩) N cp) [.int .i64 f, .int .i64 t, .int .i64 e, .int .i64 u] (l.set cN x2)))
                      case first =>
                        go_region_law (fail)
                        all_goals
                          go_wp2_with fail
                          go_meet
                          exact ⟨rfl, by first | exact hidb (EM.out.2.put _ _) | exact hidb (EM.out.2.put _ _).drew | exact hidb (EM.out.2.drew.put _ _)⟩
                      case rest =>
                        obtain ⟨rfl, E2⟩ := hcut
                        have HCp := hidb EM.out.1
                        clear EM q0 q1 q2 gx gf ix
                        have hl2 : (l.set cN x2).length = N := by rw [List.length_set]; exact HLe.out.1
                        have HRe := hidb (rasterError_any Q 0 m n (some ⟨GB, 0, none⟩) GB 0 cp (l.set cN x2) _ ⟨E2.out.q.c3.1, E2.out.q.c3.2.1, by rw [hl2]; exact E2.out.q.c3.2.2⟩ (E2.out.rs hl2 HCp.out).isl (by rw [hl2]; exact HLe.out.2.2))
                        have HL2 := hidb hl2
                        clear hl2
                        by_cases hv : vcode m n (l.set cN x2) = 0
                        · have hok : Ok (l.set cN x2) m n := by
                              obtain ⟨m9, n9, h91, h92, h93⟩ := ok_of hv
                              have e91 : m9 = m := by omega
                              have e92 : n9 = n := by omega
                              rw [e91, e92] at h93
                              exact h93
                          have HS2 := hidb (fun W1 (hR : Rs W1 GB 0 cp (l.set cN x2)) (hG : Gr w W1) => sees_ok g f t e u HFT.out.1.1 HFT.out.1.2 W1 hR hok hv (HLd.out.below hG.out) (by rw [HL2.out, ← HLe.out.1]; exact HFT.out.2.1))
                          rw [HL2.out] at HS2
                          generalize decide (seeP (l.set cN x2) m n fN tN e u) = h22 at *
                          rw [hv] at HRe
                          clear hok hv
                          go_wp2_with fail
                          refine HRe.out.mono ?_
                          rintro ee w5 ⟨rfl, hB5⟩
                          replace E2 := hidb (E2.out.below hB5.out)
                          clear hB5 HRe
                          go_upto_region 22 with fail
                          go_cut [12, 18] from 194 to 200 (fun s12 s18 wx => s12 = .nilIface ∧ s18 = .bool h22 ∧ Hid (Gr w wx))
                          case first =>
                            have E := E2.out
                            clear E2
                            go_region_held (fun w' => (w'.cell? ⟨Q, 0, none⟩ = some (.int .i64 (m : Int)) ∧ w'.cell? ⟨Q, 1, none⟩ = some (.int .i64 (n : Int)) ∧ w'.cell? ⟨Q, 2, none⟩ = some (.slice (some ⟨GB, 0, none⟩) N cp)) ∧ w'.cell? ⟨w.heap.size, 0, none⟩ = some (.int .i64 f) ∧ w'.cell? ⟨w.heap.size, 1, none⟩ = some (.int .i64 t) ∧ w'.cell? ⟨w.heap.size, 2, none⟩ = some (.int .i64 e) ∧ w'.cell? ⟨w.heap.size, 3, none⟩ = some (.int .i64 u))
                              (with_reducible first | exact E.all | exact E.drew.all)
                              ((first | (go_at_call 19; with_reducible refine (HLo.out _).mono ?_; rintro ee w8 ⟨rfl, hB8⟩; (with_reducible first | replace E := E.below hB8.out | replace E := E.drew.below hB8.out); clear hB8) | (go_at_call 18; with_reducible refine (HS2.out _ (by with_reducible first | exact E.rs HL2.out HCp.out | exact E.drew.rs HL2.out HCp.out) (by with_reducible first | exact E.gr | exact E.gr.drew)).mono ?_; rintro ee w8 ⟨rfl, hB8⟩; (with_reducible first | replace E := E.below hB8.out | replace E := E.drew.below hB8.out); clear hB8) | fail))
                            all_goals
                              go_wp2_with fail
                              go_meet
                              exact ⟨rfl, rfl, by with_reducible first | exact hidb E.gr | exact hidb E.gr.drew⟩
                          case rest =>
                            obtain ⟨rfl, rfl, G9⟩ := hcut
                            go_wp2
                            go_ret
                            exact ⟨rfl, G9.out⟩
                        · have hv2 : (0 : Int) < (vcode m n (l.set cN x2) : Int) := by omega
                          generalize (vcode m n (l.set cN x2) : Int) = vc at *
                          clear hv
                          go_wp2_with fail
                          refine HRe.out.mono ?_
                          rintro ee w5 ⟨rfl, hB5⟩
                          have G9 := hidb (Gr.step E2.out.gr hB5.out)
                          clear hB5 HRe E2
                          go_wp2
                          go_ret
                          exact ⟨rfl, G9.out⟩
end Go.Proofs.YtpdiefmmenfpaaaDoor
