/-
  SightSees where all is right; the law.
-/
import Derived.Test.YtpdiefmmenfpaaaDoorQSsL
namespace Go.Proofs.YtpdiefmmenfpaaaDoor
open Go.RowKit
attribute [local go_sem ↓] Go.wp_at_zero Go.wp_at_succ

/-- What lies in memory while the stops are compared. -/
structure SX (w W : World) (G : Nat × Nat → Int) (ad : Option Addr) (b cap : Nat) (SL : List (Nat × Nat)) (ad2 : Option Addr) (b2 cap2 : Nat) (L : List (Int × Int)) : Prop where
  t : TSl W G ad b cap SL
  f : FSl W ad2 b2 cap2 L
  gr : Gr w W
theorem SX.below {w W w' : World} {G : Nat × Nat → Int} {ad ad2 : Option Addr} {b cap b2 cap2 : Nat} {SL : List (Nat × Nat)} {L : List (Int × Int)} (h : SX w W G ad b cap SL ad2 b2 cap2 L) (hB : Below W.heap.size W w') : SX w w' G ad b cap SL ad2 b2 cap2 L := ⟨h.t.below hB, h.f.below hB, Gr.step h.gr hB⟩
theorem SX.drew {w W : World} {G : Nat × Nat → Int} {ad ad2 : Option Addr} {b cap b2 cap2 : Nat} {SL : List (Nat × Nat)} {L : List (Int × Int)} (h : SX w W G ad b cap SL ad2 b2 cap2 L) : SX w W.drew G ad b cap SL ad2 b2 cap2 L := ⟨⟨h.t.row, h.t.ix, h.t.ad⟩, ⟨h.f.row, h.f.ix⟩, h.gr.drew⟩
theorem SX.drewN {w W : World} {G : Nat × Nat → Int} {ad ad2 : Option Addr} {b cap b2 cap2 : Nat} {SL : List (Nat × Nat)} {L : List (Int × Int)} (h : SX w W G ad b cap SL ad2 b2 cap2 L) (q : Nat) : SX w (W.drewN q) G ad b cap SL ad2 b2 cap2 L := ⟨⟨h.t.row, h.t.ix, h.t.ad⟩, ⟨h.f.row, h.f.ix⟩, h.gr.drewN q⟩
theorem SX.alloc {w W : World} {G : Nat × Nat → Int} {ad ad2 : Option Addr} {b cap b2 cap2 : Nat} {SL : List (Nat × Nat)} {L : List (Int × Int)} (h : SX w W G ad b cap SL ad2 b2 cap2 L) (o : Obj) : SX w (W.alloc o) G ad b cap SL ad2 b2 cap2 L := h.below ((Gr.refl W).alloc o).out
theorem SX.set {w W : World} {G : Nat × Nat → Int} {ad ad2 : Option Addr} {b cap b2 cap2 : Nat} {SL : List (Nat × Nat)} {L : List (Int × Int)} (h : SX w W G ad b cap SL ad2 b2 cap2 L) {D : Nat} (h1 : (b < D ∧ b2 < D) ∧ w.heap.size ≤ D) (o : Nat) (v : Value) : SX w (W.setCell ⟨D, o, none⟩ v) G ad b cap SL ad2 b2 cap2 L := by
  have k := (Onl.refl D W).set o v
  refine ⟨⟨fun j hj => ?_, h.t.ix, h.t.ad⟩, ⟨fun j hj => ?_, h.f.ix⟩, h.gr.set h1.2 _ _⟩
  · obtain ⟨⟨c1, c2, c3⟩, c4⟩ := h.t.row j hj
    have hb := k.block b c4 (fun e => by have := Option.some.inj e; omega)
    exact ⟨⟨(World.cell?_of_block (w := W) (a := ⟨b, j * 3, none⟩) hb).trans c1, (World.cell?_of_block (w := W) (a := ⟨b, j * 3 + 1, none⟩) hb).trans c2, (World.cell?_of_block (w := W) (a := ⟨b, j * 3 + 2, none⟩) hb).trans c3⟩, Nat.lt_of_lt_of_le c4 k.size⟩
  · obtain ⟨⟨c1, c2⟩, c4⟩ := h.f.row j hj
    have hb := k.block b2 c4 (fun e => by have := Option.some.inj e; omega)
    exact ⟨⟨(World.cell?_of_block (w := W) (a := ⟨b2, j * 2, none⟩) hb).trans c1, (World.cell?_of_block (w := W) (a := ⟨b2, j * 2 + 1, none⟩) hb).trans c2⟩, Nat.lt_of_lt_of_le c4 k.size⟩
set_option maxRecDepth 4000 in
set_option maxHeartbeats 16000000 in
theorem ssees_ok (g : Nat → Addr) {m n pb po b o cap fN tN : Nat} {l : List Int} (f t e u : Int) (hf : f = (fN : Int)) (ht : t = (tN : Int)) (w : World) (hl : Laid w g) (ra : Rin w pb po m n (some ⟨b, o, none⟩) b o cap l) (hr : Rs w b o cap l) (ok : Ok l m n) (ll : l.length ≤ 80) (hv : vcode m n l = 0) (hb : loB l.length f t e u = true) : Calls Tryd.prog 4 #[.pointer (some ⟨pb, po, none⟩), loV f t e u] w fun e w' => e = .returned (.bool true) ∧ Gr w w' := by
  obtain ⟨⟨hf2, ht2⟩, he, hu⟩ := loB_yes hb
  have hfN : fN < l.length := by omega
  have htN : tN < l.length := by omega
  have F0 := hidb (KB.new w f t e u)
  have CR := hidb (seen_any g _ (hl.below F0.out.gr.out).lai)
  have S1 := hidb (fun W1 (hG : Gr w W1) => small4_any pb po m n (some ⟨b, o, none⟩) l.length cap W1 (ra.below hG).pt)
  rw [decide_eq_true ll] at S1
  have CL := hidb (fun W1 (hG : Gr w W1) => lookError_any f t e u W1 (ra.below hG) (by omega))
  have HLo := hidb (fun W1 => look_any f t e u W1)
  have HP := hidb (fun W1 (hG : Gr w W1) => (ra.below hG).pt.all)
  have HB := hidb (show pb < w.heap.size from lt_of_cell ra.pt.all.1)
  rw [show lcode m n l f t e u = 0 by unfold lcode; rw [if_pos hv, if_pos hb]] at CL
  have C12 := hidb (fun W1 (hG : Gr w W1) => sees_ok g f t e u hf ht W1 (hr.below hG.out) ok hv (hl.below hG.out).lai hb)
  have C13 := hidb (fun W1 (hG : Gr w W1) => (stops_ok g f t e u hf ht W1 (hr.below hG.out) ok hv (hl.below hG.out).lai hb).mono fun _ _ h => sta_fsl h)
  have C14 := hidb (fun W1 (hG : Gr w W1) => stopsOf_any f t e u hf ht W1 (ra.below hG).pt (hr.below hG.out) ok hfN htN)
  have C15 := hidb (fun W1 (hG : Gr w W1) => seesOf_any f t e u hf ht W1 (ra.below hG).pt (hr.below hG.out) ok hfN htN he hu)
  have d1 := ok.div hfN
  have d2 := ok.div htN
  have hm2 := ok.m2
  have hn2 := ok.n2
  have ho := sts_ok2 (c0 := fN % m) (r0 := fN / m) (c1 := tN % m) (r1 := tN / m) (by omega) (by omega) (by omega) (by omega)
  rw [stF_eq _ ho] at C13
  have HO : Hid (∀ q ∈ stL (sts (fN % m) (fN / m) (tN % m) (tN / m)), Ok2 q) := fun q hq => ho q ((stL_in _ _ rfl).1 q hq)
  have hlen := sts_len (c0 := fN % m) (r0 := fN / m) (c1 := tN % m) (r1 := tN / m) (by omega) (by omega) (by omega) (by omega)
  have hlen2 := (stL_in _ (sts (fN % m) (fN / m) (tN % m) (tN / m)) rfl).2.2
  have HNL := hidb (show (stL (sts (fN % m) (fN / m) (tN % m) (tN / m))).length ≤ 20000 by omega)
  clear ho hlen hlen2 d1 d2 hm2 hn2
  generalize gK l m n (fN % m) (fN / m) (tN % m) (tN / m) = G at *
  generalize stL (sts (fN % m) (fN / m) (tN % m) (tN / m)) = SL at *
  generalize decide (seeP l m n fN tN e u) = bb at *
  obtain ⟨NL, hNL⟩ : ∃ z, z = SL.length := ⟨_, rfl⟩
  obtain ⟨L, hL⟩ : ∃ L, L = SL.map lowP := ⟨_, rfl⟩
  have hNL2 : L.length = NL := by rw [hL, hNL, List.length_map]
  rw [← hL, hNL2] at C13
  obtain ⟨N, hN⟩ : ∃ N, N = l.length := ⟨_, rfl⟩
  rw [← hN] at C12 C13 HP
  have HLL := hidb (show NL = SL.length ∧ L = SL.map lowP ∧ L.length = NL from ⟨hNL, hL, hNL2⟩)
  clear hf2 ht2 he hu hfN htN hb hv ll ok hr ra hl hf ht hN hNL hL hNL2
  go_enter Tryd.func4, Tryd.ntmps4
  go_wp2_with fail
  refine CR.out.mono ?_
  rintro ee w1 ⟨rfl, hB⟩
  replace F0 := hidb (F0.out.below hB.out)
  clear hB CR
  go_wp2_with fail
  refine (S1.out _ F0.out.gr).mono ?_
  rintro ee w2 ⟨rfl, rfl⟩
  have E0 : Hid (MF w w2 pb po (.int .i64 (m : Int)) (.int .i64 (n : Int)) (.slice (some ⟨b, o, none⟩) N cap) [.int .i64 f, .int .i64 t, .int .i64 e, .int .i64 u]) := ⟨F0.out.a0, HP.out _ F0.out.gr, F0.out.gr, HB.out⟩
  clear F0 HP S1
  go_upto_region 5 with fail
  go_cut [7, 8] from 26 to 34 (fun s7 s8 wx => s7 = .bool bb ∧ s8 = .nilIface ∧ Hid (MF w wx pb po (.int .i64 (m : Int)) (.int .i64 (n : Int)) (.slice (some ⟨b, o, none⟩) N cap) [.int .i64 f, .int .i64 t, .int .i64 e, .int .i64 u]))
  case first =>
    have E := E0.out
    clear E0
    go_region_held (fun w' => (w'.cell? ⟨pb, po, none⟩ = some (.int .i64 (m : Int)) ∧ w'.cell? ⟨pb, po + 1, none⟩ = some (.int .i64 (n : Int)) ∧ w'.cell? ⟨pb, po + 2, none⟩ = some (.slice (some ⟨b, o, none⟩) N cap)) ∧ w'.cell? ⟨w.heap.size, 0, none⟩ = some (.int .i64 f) ∧ w'.cell? ⟨w.heap.size, 1, none⟩ = some (.int .i64 t) ∧ w'.cell? ⟨w.heap.size, 2, none⟩ = some (.int .i64 e) ∧ w'.cell? ⟨w.heap.size, 3, none⟩ = some (.int .i64 u))
      (with_reducible first | exact E.all | exact E.drew.all)
      ((first
        | (go_at_call 19; with_reducible refine (HLo.out _).mono ?_; rintro ee w8 ⟨rfl, hB8⟩; (with_reducible first | replace E := E.below hB8.out | replace E := E.drew.below hB8.out); clear hB8)
        | (go_at_call 18; with_reducible refine (C12.out _ (by with_reducible first | exact E.gr | exact E.gr.drew)).mono ?_; rintro ee w8 ⟨rfl, hB8⟩; (with_reducible first | replace E := E.below hB8.out | replace E := E.drew.below hB8.out); clear hB8)
        | fail))
    all_goals
      go_wp2_with fail
      go_meet
      refine ⟨rfl, rfl, ?_⟩
      with_reducible first | exact hidb E | exact hidb E.drew
  case rest =>
    clear E0
    obtain ⟨rfl, rfl, E0⟩ := hcut
    clear C12
    go_upto_region 6 with fail
    go_cut [9, 10] from 35 to 43 (fun s9 s10 wx => ∃ (ad2 : Option Addr) (b2 cap2 : Nat), s9 = .slice ad2 NL cap2 ∧ s10 = .nilIface ∧ Hid (MF w wx pb po (.int .i64 (m : Int)) (.int .i64 (n : Int)) (.slice (some ⟨b, o, none⟩) N cap) [.int .i64 f, .int .i64 t, .int .i64 e, .int .i64 u] ∧ FSl wx ad2 b2 cap2 L))
    case first =>
      have E := E0.out
      clear E0
      go_region_held (fun w' => (w'.cell? ⟨pb, po, none⟩ = some (.int .i64 (m : Int)) ∧ w'.cell? ⟨pb, po + 1, none⟩ = some (.int .i64 (n : Int)) ∧ w'.cell? ⟨pb, po + 2, none⟩ = some (.slice (some ⟨b, o, none⟩) N cap)) ∧ w'.cell? ⟨w.heap.size, 0, none⟩ = some (.int .i64 f) ∧ w'.cell? ⟨w.heap.size, 1, none⟩ = some (.int .i64 t) ∧ w'.cell? ⟨w.heap.size, 2, none⟩ = some (.int .i64 e) ∧ w'.cell? ⟨w.heap.size, 3, none⟩ = some (.int .i64 u))
        (with_reducible first | exact E.all | exact E.drew.all)
        ((first
          | (go_at_call 19; with_reducible refine (HLo.out _).mono ?_; rintro ee w8 ⟨rfl, hB8⟩; (with_reducible first | replace E := E.below hB8.out | replace E := E.drew.below hB8.out); clear hB8)
          | (go_at_call 20; with_reducible refine (C13.out _ (by with_reducible first | exact E.gr | exact E.gr.drew)).mono ?_; rintro ee w8 ⟨ad8, b8, cap8, rfl, hF8, hB8⟩; (with_reducible first | replace E := E.below hB8.out | replace E := E.drew.below hB8.out); clear hB8)
          | fail))
      all_goals
        go_wp2_with fail
        go_meet
        refine ⟨ad8, b8, cap8, rfl, rfl, ?_⟩
        with_reducible first | exact hidb ⟨E, hF8⟩ | exact hidb ⟨E.drew, ⟨hF8.row, hF8.ix⟩⟩
    case rest =>
      clear E0
      obtain ⟨ad2, b2, cap2, rfl, rfl, E0⟩ := hcut
      obtain ⟨r0, r1, r2, r3⟩ := E0.out.1.a0.c4
      go_wp2_with fail
      refine (CL.out _ E0.out.1.gr).mono ?_
      rintro ee w6 ⟨rfl, hB6⟩
      replace E0 := hidb (show MF w w6 pb po (.int .i64 (m : Int)) (.int .i64 (n : Int)) (.slice (some ⟨b, o, none⟩) N cap) [.int .i64 f, .int .i64 t, .int .i64 e, .int .i64 u] ∧ FSl w6 ad2 b2 cap2 L from ⟨E0.out.1.below hB6.out, E0.out.2.below hB6.out⟩)
      clear hB6 CL r0 r1 r2 r3
      obtain ⟨r0, r1, r2, r3⟩ := E0.out.1.a0.c4
      go_wp2_with fail
      refine (C14.out _ E0.out.1.gr).mono ?_
      rintro ee w7 ⟨v7, rfl, hO7, hB7⟩
      obtain ⟨ad, bS, capS, rfl, hT7⟩ := ov_tsl hO7
      rw [← HLL.out.1]
      replace E0 := hidb (show (MF w w7 pb po (.int .i64 (m : Int)) (.int .i64 (n : Int)) (.slice (some ⟨b, o, none⟩) N cap) [.int .i64 f, .int .i64 t, .int .i64 e, .int .i64 u] ∧ FSl w7 ad2 b2 cap2 L) ∧ TSl w7 G ad bS capS SL from ⟨⟨E0.out.1.below hB7.out, E0.out.2.below hB7.out⟩, hT7⟩)
      clear hB7 C14 r0 r1 r2 r3 hO7 hT7
      obtain ⟨r0, r1, r2, r3⟩ := E0.out.1.1.a0.c4
      go_wp2_with fail
      refine (C15.out _ E0.out.1.1.gr).mono ?_
      rintro ee w8 ⟨rfl, hB8⟩
      have EX := hidb (show SX w w8 G ad bS capS SL ad2 b2 cap2 L from ⟨E0.out.2.below hB8.out, E0.out.1.2.below hB8.out, Gr.step E0.out.1.1.gr hB8.out⟩)
      clear hB8 C15 r0 r1 r2 r3 E0
      go_wp2
      go_loopw [13] (fun t wr => ∃ k : Nat, k ≤ NL ∧ t = .int .i64 (k : Int) ∧ Hid (SX w wr G ad bS capS SL ad2 b2 cap2 L)) (fun t _ => NL - (intOf t).toNat)
      case atStart => exact ⟨0, by omega, rfl, EX⟩
      case round =>
        clear EX
        obtain ⟨k, hk, rfl, EX⟩ := hrel
        by_cases h3 : ¬ k < NL
        · have h3' : ¬ (k : Int) < (NL : Int) := by omega
          clear h3
          go_wp2
          go_ret
          exact ⟨rfl, EX.out.gr⟩
        · have h3' : (k : Int) < (NL : Int) := by omega
          have hkS : k < SL.length := by have := HLL.out; omega
          have hq2 : k < L.length := by have := HLL.out; omega
          have ix := EX.out.t.ix k hkS
          have ix2 := EX.out.f.ix k hq2
          rw [← HLL.out.1] at ix
          rw [HLL.out.2.2] at ix2
          have hp : Ok2 (tx SL k) := HO.out _ (by rw [← tx_get hkS]; exact List.getElem_mem _)
          have hLk : L[k] = lowP (tx SL k) := by
            rw [← tx_get hkS]
            have e := HLL.out.2.1
            subst e
            simp
          have CT := hidb (fun W1 => signedOf_any ((tx SL k).1 : Int) (by omega) (by have := hp; unfold Ok2 at this; omega) W1)
          have CU := hidb (fun W1 => signedOf_any ((tx SL k).2 : Int) (by omega) (by have := hp; unfold Ok2 at this; omega) W1)
          have CV := hidb (fun (W1 : World) (p q : Bool) (x y : Value) (h : Sg W1 p x ((tx SL k).1 : Int)) (h' : Sg W1 q y ((tx SL k).2 : Int)) => red_low hp h h')
          have HX := hidb (fun (W1 : World) (h : SX w W1 G ad bS capS SL ad2 b2 cap2 L) => (h.t.row k hkS).1)
          have HY := hidb (fun (W1 : World) (h : SX w W1 G ad bS capS SL ad2 b2 cap2 L) => (h.f.row k hq2).1)
          rw [hLk] at HY
          have HZ := hidb (fun (W1 : World) (h : SX w W1 G ad bS capS SL ad2 b2 cap2 L) => show (bS < W1.heap.size ∧ b2 < W1.heap.size) ∧ w.heap.size ≤ W1.heap.size from ⟨⟨(h.t.row k hkS).2, (h.f.row k hq2).2⟩, h.gr.out.size⟩)
          have e1 : IntKind.i64.wrap ((k : Int) + 1) = ((k + 1 : Nat) : Int) := by rw [show (k : Int) + 1 = ((k + 1 : Nat) : Int) by omega]; exact wrap_in (by omega) (by have := HNL.out; omega)
          generalize ((tx SL k).1 : Int) = pI at *
          generalize ((tx SL k).2 : Int) = qI at *
          generalize G (tx SL k) = gI at *
          generalize (lowP (tx SL k)).1 = y1 at *
          generalize (lowP (tx SL k)).2 = y2 at *
          have Hk := hidb (show k < NL by omega)
          obtain ⟨o3, ho3⟩ : ∃ z, z = k * 3 := ⟨_, rfl⟩
          obtain ⟨o2, ho2⟩ : ∃ z, z = k * 2 := ⟨_, rfl⟩
          rw [← ho3] at ix HX
          rw [← ho2] at ix2 HY
          clear h3 hkS hq2 hp hLk hk ho3 ho2
          go_upto_region 16 with fail
          go_cut [14, 15] from 95 to 110 (fun s14 s15 wx => ∃ D : Nat, s14 = .pointer (some ⟨D, 0, none⟩) ∧ s15 = .bool true ∧ Hid (At wx D [.int .i64 y1, .int .i64 y2] ∧ SX w wx G ad bS capS SL ad2 b2 cap2 L))
          case first =>
            have E := EX.out
            clear EX
            go_region_held (fun w' => w'.cell? ⟨bS, o3, none⟩ = some (.int .i64 pI) ∧ w'.cell? ⟨bS, o3 + 1, none⟩ = some (.int .i64 qI) ∧ w'.cell? ⟨bS, o3 + 2, none⟩ = some (.int .i64 gI))
              (with_reducible first | exact HX.out _ E | exact HX.out _ E.drew | exact HX.out _ (E.alloc _) | exact HX.out _ (E.alloc _).drew | exact HX.out _ (E.drew.alloc _) | exact HX.out _ ((E.set NE _ _).set NE _ _) | exact HX.out _ ((E.set NE _ _).set NE _ _).drew | exact HX.out _ ((E.drew.set NE _ _).set NE _ _))
              ((first
                | (go_at_call 26; first | (with_reducible refine (CT.out _).mono ?_; rintro ee w8 ⟨mA, vA, rfl, hA, hB8, _⟩; (with_reducible first | (have NA := At.below hB8 (At.new2e' _ _ _ _); have NE := HZ.out _ E) | (have NA := At.below hB8 (At.drew (At.new2 _ _ _ _)); have NE := HZ.out _ E) | (have NA := At.below hB8 (At.new2 _ _ _ _); have NE := HZ.out _ E) | (replace NA := At.below hB8 NA) | (replace NA := At.below hB8 (At.drew NA)) | skip); (with_reducible first | replace E := E.below hB8 | replace E := E.drew.below hB8 | replace E := (E.alloc _).below hB8 | replace E := (E.drew.alloc _).below hB8 | replace E := (E.alloc _).drew.below hB8); (try (first | replace hQ := hQ.below hB8 | replace hQ := (hQ.below ((Gr.refl _).alloc _).out).below hB8)); clear hB8; (first | (obtain ⟨n0, n1⟩ := NA.c2; obtain ⟨n3, n4⟩ := NA.f2; have NH := NA.has (n := 2) rfl) | skip)) | (with_reducible refine (CU.out _).mono ?_; rintro ee w8 ⟨mQ, vQ, rfl, hQ, hB8, _⟩; (with_reducible first | (have NA := At.below hB8 (At.new2e' _ _ _ _); have NE := HZ.out _ E) | (have NA := At.below hB8 (At.drew (At.new2 _ _ _ _)); have NE := HZ.out _ E) | (have NA := At.below hB8 (At.new2 _ _ _ _); have NE := HZ.out _ E) | (replace NA := At.below hB8 NA) | (replace NA := At.below hB8 (At.drew NA)) | skip); (with_reducible first | replace E := E.below hB8 | replace E := E.drew.below hB8 | replace E := (E.alloc _).below hB8 | replace E := (E.drew.alloc _).below hB8 | replace E := (E.alloc _).drew.below hB8); (try (first | replace hA := hA.below hB8 | replace hA := (hA.below ((Gr.refl _).alloc _).out).below hB8)); clear hB8; (first | (obtain ⟨n0, n1⟩ := NA.c2; obtain ⟨n3, n4⟩ := NA.f2; have NH := NA.has (n := 2) rfl) | skip)))
                | (go_at_call 25; with_reducible refine (CV.out _ _ _ _ _ (by first | with_reducible exact hA | exact hA.below ((Gr.refl _).alloc _).out) (by first | with_reducible exact hQ | exact hQ.below ((Gr.refl _).alloc _).out)).mono ?_; rintro ee w8 ⟨rfl, hB8⟩; (with_reducible first | (have NA := At.below hB8 (At.new2e' _ _ _ _); have NE := HZ.out _ E) | (have NA := At.below hB8 (At.drew (At.new2 _ _ _ _)); have NE := HZ.out _ E) | (have NA := At.below hB8 (At.new2 _ _ _ _); have NE := HZ.out _ E) | (replace NA := At.below hB8 NA) | (replace NA := At.below hB8 (At.drew NA)) | skip); (with_reducible first | replace E := E.below hB8 | replace E := E.drew.below hB8 | replace E := (E.alloc _).below hB8 | replace E := (E.drew.alloc _).below hB8 | replace E := (E.alloc _).drew.below hB8); clear hB8; (first | (obtain ⟨n0, n1⟩ := NA.c2; obtain ⟨n3, n4⟩ := NA.f2; have NH := NA.has (n := 2) rfl) | skip))
                | fail))
            all_goals
              go_wp2_with fail
              go_meet
              refine ⟨_, rfl, rfl, ?_, ?_⟩
            all_goals with_reducible first | exact At.new2 _ _ _ _ | exact (At.new2 _ _ _ _).drew | exact At.new2e' _ _ _ _ | exact At.fill2 NH _ _ | exact (At.fill2 NH _ _).drew | exact E.alloc _ | exact (E.alloc _).drew | exact E.drew.alloc _ | exact (E.set NE _ _).set NE _ _ | exact ((E.set NE _ _).set NE _ _).drew
          case rest =>
            clear EX
            obtain ⟨D, rfl, rfl, EX⟩ := hcut
            obtain ⟨n0, n1⟩ := EX.out.1.c2
            obtain ⟨m0, m1⟩ := HY.out _ EX.out.2
            go_upto_region 17 with fail
            go_quiet (fail)
            go_wp2
            go_roundw
            case rel => exact ⟨k + 1, Hk.out, by go_num, hidb (EX.out.2.drewN _)⟩
            case measure => have := Hk.out; simp [intOf]; omega
end Go.Proofs.YtpdiefmmenfpaaaDoor
