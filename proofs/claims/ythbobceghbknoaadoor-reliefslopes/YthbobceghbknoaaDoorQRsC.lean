/-
  relief.Slope.
-/
import Derived.Test.YthbobceghbknoaaDoorQRsB
namespace Go.Proofs.YthbobceghbknoaaDoor
open Go.RowKit

set_option maxRecDepth 4000 in
set_option maxHeartbeats 4000000 in
theorem slope_A (g : Nat → Addr) {W H : Int} {ad : Option Addr} {b o cap : Nat} {l : List Int} (cell : Int) (w : World) (h : ISl w ad b o cap l) (ll : l.length ≤ 20000) (hl : Laid w g) (hv : ¬ vcode W H l = 0) : Calls Tryd.prog 7 #[raV W H (.slice ad l.length cap), .int .i64 cell] w fun e w' => e = .returned (.tuple #[.int .i64 0, .int .i64 0, errV g (vcode W H l - 1)]) ∧ Gr w w' := by
  have G0 := hidb ((Gr.refl w).alloc (.cells #[.int .i64 W, .int .i64 H, .slice ad l.length cap] 31))
  have C1 := hidb (valid_any g W H ad b o cap l _ (h.below G0.out.out) ll (hl.below G0.out.out))
  rw [evc_of hv] at C1
  generalize vcode W H l - 1 = ei at *
  clear h ll hl hv
  go_enter Tryd.func7, Tryd.ntmps7
  go_wp2_with fail
  refine C1.out.mono ?_
  rintro e w1 ⟨rfl, hB⟩
  have G1 := hidb (Gr.step G0.out hB.out)
  clear hB G0
  go_wp2
  go_ret3
  exact ⟨rfl, G1.out⟩
set_option maxRecDepth 4000 in
set_option maxHeartbeats 4000000 in
theorem slope_B (g : Nat → Addr) {m n b o cap : Nat} {l : List Int} (cell : Int) (w : World) (h : Rs w b o cap l) (ok : Ok l m n) (hv : vcode m n l = 0) (hl : Laid w g) (hc : ¬ (0 ≤ cell ∧ cell < l.length)) : Calls Tryd.prog 7 #[raV m n (.slice (some ⟨b, o, none⟩) l.length cap), .int .i64 cell] w fun e w' => e = .returned (.tuple #[.int .i64 0, .int .i64 0, errV g 3]) ∧ Gr w w' := by
  have ll := ok.len_le
  have G0 := hidb ((Gr.refl w).alloc (.cells #[.int .i64 m, .int .i64 n, .slice (some ⟨b, o, none⟩) l.length cap] 31))
  have A0 := hidb (At.new3 w (.int .i64 m) (.int .i64 n) (.slice (some ⟨b, o, none⟩) l.length cap) 31)
  have C1 := hidb (valid_any g m n (some ⟨b, o, none⟩) b o cap l _ (h.isl.below G0.out.out) (by omega) (hl.below G0.out.out))
  rw [hv, show evc g 0 = .nilIface from rfl] at C1
  obtain ⟨n1, hn1, e1⟩ : ∃ z : Int, z = (l.length : Int) - 1 ∧ IntKind.i64.wrap ((l.length : Int) - 1) = z := ⟨_, rfl, wrap_in (by omega) (by omega)⟩
  have C2 := hidb (fun W1 => rwithin_any cell 0 n1 W1)
  rw [show inI 0 n1 cell = false by unfold inI; simp; omega] at C2
  have HL := hidb hl
  clear h ok hl hv ll hc hn1
  generalize l.length = ln at *
  go_enter Tryd.func7, Tryd.ntmps7
  go_wp2_with fail
  refine C1.out.mono ?_
  rintro e w1 ⟨rfl, hB⟩
  have HG := hidb (Gr.step G0.out hB.out)
  have HA := hidb (At.below hB.out A0.out)
  clear hB G0 A0 C1
  obtain ⟨a0, a1, a2⟩ := HA.out.c3
  go_wp2_with fail
  refine (C2.out _).mono ?_
  rintro e w2 ⟨rfl, rfl⟩
  have cE : w2.cell? ⟨0, 0, none⟩ = some (errV g 3) := (HL.out.below HG.out.out).cell 3 (by decide)
  go_upto_region 5 with fail
  go_quiet (fail)
  go_wp2
  go_ret3
  exact ⟨rfl, by first | exact HG.out.drewN _ | exact HG.out.drew | exact HG.out⟩
set_option maxRecDepth 4000 in
set_option maxHeartbeats 16000000 in
theorem slope_C (g : Nat → Addr) {m n b o cap : Nat} {l : List Int} (i : Nat) (hi : i < l.length) (w : World) (h : Rs w b o cap l) (ok : Ok l m n) (hv : vcode m n l = 0) (hl : Laid w g) : Calls Tryd.prog 7 #[raV m n (.slice (some ⟨b, o, none⟩) l.length cap), .int .i64 (i : Int)] w fun e w' => e = .returned (.tuple #[.int .i64 (eaI l m n i), .int .i64 (noI l m n i), .nilIface]) ∧ Gr w w' := by
  have ll := ok.len_le
  have G0 := hidb ((Gr.refl w).alloc (.cells #[.int .i64 m, .int .i64 n, .slice (some ⟨b, o, none⟩) l.length cap] 31))
  have A0 := hidb (At.new3 w (.int .i64 m) (.int .i64 n) (.slice (some ⟨b, o, none⟩) l.length cap) 31)
  have C1 := hidb (valid_any g m n (some ⟨b, o, none⟩) b o cap l _ (h.isl.below G0.out.out) (by omega) (hl.below G0.out.out))
  rw [hv, show evc g 0 = .nilIface from rfl] at C1
  obtain ⟨n1, hn1, e1⟩ : ∃ z : Int, z = (l.length : Int) - 1 ∧ IntKind.i64.wrap ((l.length : Int) - 1) = z := ⟨_, rfl, wrap_in (by omega) (by omega)⟩
  have C2 := hidb (fun W1 => rwithin_any (i : Int) 0 n1 W1)
  rw [show inI 0 n1 (i : Int) = true by unfold inI; simp; omega] at C2
  have C_nw := hidb (fun W1 (hG : Gr w W1) => near_any i (-1) (-1) (by decide) (by decide) (by decide) (by decide) hi W1 (h.below hG.out) ok)
  have h_nw := nbr_hi (l := l) (m := m) (n := n) (i := i) (c := (-1)) (r := (-1)) ok
  rw [show nbI l m n i (((i % m : Nat) : Int) + (-1)) (((i / m : Nat) : Int) + (-1)) = nbr l m n i (-1) (-1) from rfl] at C_nw
  have C_n := hidb (fun W1 (hG : Gr w W1) => near_any i 0 (-1) (by decide) (by decide) (by decide) (by decide) hi W1 (h.below hG.out) ok)
  have h_n := nbr_hi (l := l) (m := m) (n := n) (i := i) (c := 0) (r := (-1)) ok
  rw [show nbI l m n i (((i % m : Nat) : Int) + 0) (((i / m : Nat) : Int) + (-1)) = nbr l m n i 0 (-1) from rfl] at C_n
  have C_ne := hidb (fun W1 (hG : Gr w W1) => near_any i 1 (-1) (by decide) (by decide) (by decide) (by decide) hi W1 (h.below hG.out) ok)
  have h_ne := nbr_hi (l := l) (m := m) (n := n) (i := i) (c := 1) (r := (-1)) ok
  rw [show nbI l m n i (((i % m : Nat) : Int) + 1) (((i / m : Nat) : Int) + (-1)) = nbr l m n i 1 (-1) from rfl] at C_ne
  have C_w := hidb (fun W1 (hG : Gr w W1) => near_any i (-1) 0 (by decide) (by decide) (by decide) (by decide) hi W1 (h.below hG.out) ok)
  have h_w := nbr_hi (l := l) (m := m) (n := n) (i := i) (c := (-1)) (r := 0) ok
  rw [show nbI l m n i (((i % m : Nat) : Int) + (-1)) (((i / m : Nat) : Int) + 0) = nbr l m n i (-1) 0 from rfl] at C_w
  have C_e := hidb (fun W1 (hG : Gr w W1) => near_any i 1 0 (by decide) (by decide) (by decide) (by decide) hi W1 (h.below hG.out) ok)
  have h_e := nbr_hi (l := l) (m := m) (n := n) (i := i) (c := 1) (r := 0) ok
  rw [show nbI l m n i (((i % m : Nat) : Int) + 1) (((i / m : Nat) : Int) + 0) = nbr l m n i 1 0 from rfl] at C_e
  have C_sw := hidb (fun W1 (hG : Gr w W1) => near_any i (-1) 1 (by decide) (by decide) (by decide) (by decide) hi W1 (h.below hG.out) ok)
  have h_sw := nbr_hi (l := l) (m := m) (n := n) (i := i) (c := (-1)) (r := 1) ok
  rw [show nbI l m n i (((i % m : Nat) : Int) + (-1)) (((i / m : Nat) : Int) + 1) = nbr l m n i (-1) 1 from rfl] at C_sw
  have C_s := hidb (fun W1 (hG : Gr w W1) => near_any i 0 1 (by decide) (by decide) (by decide) (by decide) hi W1 (h.below hG.out) ok)
  have h_s := nbr_hi (l := l) (m := m) (n := n) (i := i) (c := 0) (r := 1) ok
  rw [show nbI l m n i (((i % m : Nat) : Int) + 0) (((i / m : Nat) : Int) + 1) = nbr l m n i 0 1 from rfl] at C_s
  have C_se := hidb (fun W1 (hG : Gr w W1) => near_any i 1 1 (by decide) (by decide) (by decide) (by decide) hi W1 (h.below hG.out) ok)
  have h_se := nbr_hi (l := l) (m := m) (n := n) (i := i) (c := 1) (r := 1) ok
  rw [show nbI l m n i (((i % m : Nat) : Int) + 1) (((i / m : Nat) : Int) + 1) = nbr l m n i 1 1 from rfl] at C_se
  have HE : Hid (eaI l m n i = (nbr l m n i 1 (-1) + 2 * nbr l m n i 1 0 + nbr l m n i 1 1) - (nbr l m n i (-1) (-1) + 2 * nbr l m n i (-1) 0 + nbr l m n i (-1) 1)) := rfl
  have HNo : Hid (noI l m n i = (nbr l m n i (-1) (-1) + 2 * nbr l m n i 0 (-1) + nbr l m n i 1 (-1)) - (nbr l m n i (-1) 1 + 2 * nbr l m n i 0 1 + nbr l m n i 1 1)) := rfl
  generalize eaI l m n i = ea at *
  generalize noI l m n i = no at *
  generalize nbr l m n i (-1) (-1) = x_nw at *
  generalize nbr l m n i 0 (-1) = x_n at *
  generalize nbr l m n i 1 (-1) = x_ne at *
  generalize nbr l m n i (-1) 0 = x_w at *
  generalize nbr l m n i 1 0 = x_e at *
  generalize nbr l m n i (-1) 1 = x_sw at *
  generalize nbr l m n i 0 1 = x_s at *
  generalize nbr l m n i 1 1 = x_se at *
  unfold hiI at h_nw h_n h_ne h_w h_e h_sw h_s h_se
  obtain ⟨d0, hd0, p0⟩ : ∃ z : Int, z = 2 * x_e ∧ IntKind.i64.wrap (2 * x_e) = z := ⟨_, rfl, wrap_in (by omega) (by omega)⟩
  obtain ⟨f0, hf0, q0⟩ : ∃ z : Int, z = x_ne + d0 ∧ IntKind.i64.wrap (x_ne + d0) = z := ⟨_, rfl, wrap_in (by omega) (by omega)⟩
  obtain ⟨g0, hg0, r0⟩ : ∃ z : Int, z = f0 + x_se ∧ IntKind.i64.wrap (f0 + x_se) = z := ⟨_, rfl, wrap_in (by omega) (by omega)⟩
  obtain ⟨d1, hd1, p1⟩ : ∃ z : Int, z = 2 * x_w ∧ IntKind.i64.wrap (2 * x_w) = z := ⟨_, rfl, wrap_in (by omega) (by omega)⟩
  obtain ⟨f1, hf1, q1⟩ : ∃ z : Int, z = x_nw + d1 ∧ IntKind.i64.wrap (x_nw + d1) = z := ⟨_, rfl, wrap_in (by omega) (by omega)⟩
  obtain ⟨g1, hg1, r1⟩ : ∃ z : Int, z = f1 + x_sw ∧ IntKind.i64.wrap (f1 + x_sw) = z := ⟨_, rfl, wrap_in (by omega) (by omega)⟩
  obtain ⟨d2, hd2, p2⟩ : ∃ z : Int, z = 2 * x_n ∧ IntKind.i64.wrap (2 * x_n) = z := ⟨_, rfl, wrap_in (by omega) (by omega)⟩
  obtain ⟨f2, hf2, q2⟩ : ∃ z : Int, z = x_nw + d2 ∧ IntKind.i64.wrap (x_nw + d2) = z := ⟨_, rfl, wrap_in (by omega) (by omega)⟩
  obtain ⟨g2, hg2, r2⟩ : ∃ z : Int, z = f2 + x_ne ∧ IntKind.i64.wrap (f2 + x_ne) = z := ⟨_, rfl, wrap_in (by omega) (by omega)⟩
  obtain ⟨d3, hd3, p3⟩ : ∃ z : Int, z = 2 * x_s ∧ IntKind.i64.wrap (2 * x_s) = z := ⟨_, rfl, wrap_in (by omega) (by omega)⟩
  obtain ⟨f3, hf3, q3⟩ : ∃ z : Int, z = x_sw + d3 ∧ IntKind.i64.wrap (x_sw + d3) = z := ⟨_, rfl, wrap_in (by omega) (by omega)⟩
  obtain ⟨g3, hg3, r3⟩ : ∃ z : Int, z = f3 + x_se ∧ IntKind.i64.wrap (f3 + x_se) = z := ⟨_, rfl, wrap_in (by omega) (by omega)⟩
  have m9 : IntKind.i64.wrap (g0 - g1) = ea := by rw [show g0 - g1 = ea by rw [HE.out]; omega]; exact wrap_in (by rw [HE.out]; omega) (by rw [HE.out]; omega)
  have m10 : IntKind.i64.wrap (g2 - g3) = no := by rw [show g2 - g3 = no by rw [HNo.out]; omega]; exact wrap_in (by rw [HNo.out]; omega) (by rw [HNo.out]; omega)
  clear HE HNo h ok hl hv ll hn1 hi h_nw h_n h_ne h_w h_e h_sw h_s h_se hd0 hf0 hg0 hd1 hf1 hg1 hd2 hf2 hg2 hd3 hf3 hg3
  go_enter Tryd.func7, Tryd.ntmps7
  go_wp2_with fail
  refine C1.out.mono ?_
  rintro e w1 ⟨rfl, hB⟩
  have HG := hidb (Gr.step G0.out hB.out)
  have HA := hidb (At.below hB.out A0.out)
  clear hB G0 A0 C1
  obtain ⟨a0, a1, a2⟩ := HA.out.c3
  go_wp2_with fail
  clear a0 a1 a2
  refine (C2.out _).mono ?_
  rintro e w2 ⟨rfl, rfl⟩
  go_upto_region 6 with fail
  go_cut [8, 9, 10] from 29 to 37 (fun s8 s9 s10 wx => s8 = .int .i64 x_nw ∧ s9 = .int .i64 x_n ∧ s10 = .int .i64 x_ne ∧ Hid (At wx w.heap.size [.int .i64 m, .int .i64 n, .slice (some ⟨b, o, none⟩) l.length cap]) ∧ Hid (Gr w wx))
  case first =>
    have E0 := HA.out
    have E1 := HG.out
    go_region_held (fun w' => w'.cell? ⟨w.heap.size, 0, none⟩ = some (.int .i64 m) ∧ w'.cell? ⟨w.heap.size, 1, none⟩ = some (.int .i64 n) ∧ w'.cell? ⟨w.heap.size, 2, none⟩ = some (.slice (some ⟨b, o, none⟩) l.length cap))
      (first | (with_reducible exact E0.c3) | exact E0.c3)
      ((first
      | (go_at_call 21; with_reducible refine (C_nw.out _ (by with_reducible first | exact E1 | exact E1.drew)).mono ?_; rintro e w8 ⟨rfl, hB8⟩; (with_reducible first | (replace E1 := Gr.step E1 hB8.out; replace E0 := At.below hB8.out E0) | (replace E1 := Gr.step E1.drew hB8.out; replace E0 := At.below hB8.out E0.drew)); clear hB8)
      | (go_at_call 21; with_reducible refine (C_n.out _ (by with_reducible first | exact E1 | exact E1.drew)).mono ?_; rintro e w8 ⟨rfl, hB8⟩; (with_reducible first | (replace E1 := Gr.step E1 hB8.out; replace E0 := At.below hB8.out E0) | (replace E1 := Gr.step E1.drew hB8.out; replace E0 := At.below hB8.out E0.drew)); clear hB8)
      | (go_at_call 21; with_reducible refine (C_ne.out _ (by with_reducible first | exact E1 | exact E1.drew)).mono ?_; rintro e w8 ⟨rfl, hB8⟩; (with_reducible first | (replace E1 := Gr.step E1 hB8.out; replace E0 := At.below hB8.out E0) | (replace E1 := Gr.step E1.drew hB8.out; replace E0 := At.below hB8.out E0.drew)); clear hB8)))
    all_goals
      go_wp2_with fail
      go_meet
      first | exact ⟨rfl, rfl, rfl, hidb E0, hidb E1⟩ | exact ⟨rfl, rfl, rfl, hidb E0.drew, hidb E1.drew⟩
  case rest =>
    clear HA HG
    obtain ⟨rfl, rfl, rfl, HA, HG⟩ := hcut
    go_upto_region 7 with fail
    go_cut [11, 12] from 38 to 43 (fun s11 s12 wx => s11 = .int .i64 x_w ∧ s12 = .int .i64 x_e ∧ Hid (At wx w.heap.size [.int .i64 m, .int .i64 n, .slice (some ⟨b, o, none⟩) l.length cap]) ∧ Hid (Gr w wx))
    case first =>
      have E0 := HA.out
      have E1 := HG.out
      go_region_held (fun w' => w'.cell? ⟨w.heap.size, 0, none⟩ = some (.int .i64 m) ∧ w'.cell? ⟨w.heap.size, 1, none⟩ = some (.int .i64 n) ∧ w'.cell? ⟨w.heap.size, 2, none⟩ = some (.slice (some ⟨b, o, none⟩) l.length cap))
        (first | (with_reducible exact E0.c3) | exact E0.c3)
        ((first
        | (go_at_call 21; with_reducible refine (C_w.out _ (by with_reducible first | exact E1 | exact E1.drew)).mono ?_; rintro e w8 ⟨rfl, hB8⟩; (with_reducible first | (replace E1 := Gr.step E1 hB8.out; replace E0 := At.below hB8.out E0) | (replace E1 := Gr.step E1.drew hB8.out; replace E0 := At.below hB8.out E0.drew)); clear hB8)
        | (go_at_call 21; with_reducible refine (C_e.out _ (by with_reducible first | exact E1 | exact E1.drew)).mono ?_; rintro e w8 ⟨rfl, hB8⟩; (with_reducible first | (replace E1 := Gr.step E1 hB8.out; replace E0 := At.below hB8.out E0) | (replace E1 := Gr.step E1.drew hB8.out; replace E0 := At.below hB8.out E0.drew)); clear hB8)))
      all_goals
        go_wp2_with fail
        go_meet
        first | exact ⟨rfl, rfl, hidb E0, hidb E1⟩ | exact ⟨rfl, rfl, hidb E0.drew, hidb E1.drew⟩
    case rest =>
      clear HA HG
      obtain ⟨rfl, rfl, HA, HG⟩ := hcut
      go_upto_region 8 with fail
      go_cut [13, 14, 15] from 44 to 52 (fun s13 s14 s15 wx => s13 = .int .i64 x_sw ∧ s14 = .int .i64 x_s ∧ s15 = .int .i64 x_se ∧ Hid (At wx w.heap.size [.int .i64 m, .int .i64 n, .slice (some ⟨b, o, none⟩) l.length cap]) ∧ Hid (Gr w wx))
      case first =>
        have E0 := HA.out
        have E1 := HG.out
        go_region_held (fun w' => w'.cell? ⟨w.heap.size, 0, none⟩ = some (.int .i64 m) ∧ w'.cell? ⟨w.heap.size, 1, none⟩ = some (.int .i64 n) ∧ w'.cell? ⟨w.heap.size, 2, none⟩ = some (.slice (some ⟨b, o, none⟩) l.length cap))
          (first | (with_reducible exact E0.c3) | exact E0.c3)
          ((first
          | (go_at_call 21; with_reducible refine (C_sw.out _ (by with_reducible first | exact E1 | exact E1.drew)).mono ?_; rintro e w8 ⟨rfl, hB8⟩; (with_reducible first | (replace E1 := Gr.step E1 hB8.out; replace E0 := At.below hB8.out E0) | (replace E1 := Gr.step E1.drew hB8.out; replace E0 := At.below hB8.out E0.drew)); clear hB8)
          | (go_at_call 21; with_reducible refine (C_s.out _ (by with_reducible first | exact E1 | exact E1.drew)).mono ?_; rintro e w8 ⟨rfl, hB8⟩; (with_reducible first | (replace E1 := Gr.step E1 hB8.out; replace E0 := At.below hB8.out E0) | (replace E1 := Gr.step E1.drew hB8.out; replace E0 := At.below hB8.out E0.drew)); clear hB8)
          | (go_at_call 21; with_reducible refine (C_se.out _ (by with_reducible first | exact E1 | exact E1.drew)).mono ?_; rintro e w8 ⟨rfl, hB8⟩; (with_reducible first | (replace E1 := Gr.step E1 hB8.out; replace E0 := At.below hB8.out E0) | (replace E1 := Gr.step E1.drew hB8.out; replace E0 := At.below hB8.out E0.drew)); clear hB8)))
        all_goals
          go_wp2_with fail
          go_meet
          first | exact ⟨rfl, rfl, rfl, hidb E0, hidb E1⟩ | exact ⟨rfl, rfl, rfl, hidb E0.drew, hidb E1.drew⟩
      case rest =>
        clear HA HG
        obtain ⟨rfl, rfl, rfl, HA, HG⟩ := hcut
        go_wp2
        go_ret3
        exact ⟨rfl, HG.out⟩
end Go.Proofs.YthbobceghbknoaaDoor
