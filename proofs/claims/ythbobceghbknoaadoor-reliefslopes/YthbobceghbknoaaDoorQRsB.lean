/-
  mercatorref3.SlopeOf; relief.Slope.
-/
import Derived.Test.YthbobceghbknoaaDoorQRsA
namespace Go.Proofs.YthbobceghbknoaaDoor
open Go.RowKit

/-- A neighbour; the slope to the east, to the north. -/
def nbr (l : List Int) (m n i : Nat) (dc dr : Int) : Int := nbI l m n i (((i % m : Nat) : Int) + dc) (((i / m : Nat) : Int) + dr)
def eaI (l : List Int) (m n i : Nat) : Int := (nbr l m n i 1 (-1) + 2 * nbr l m n i 1 0 + nbr l m n i 1 1) - (nbr l m n i (-1) (-1) + 2 * nbr l m n i (-1) 0 + nbr l m n i (-1) 1)
def noI (l : List Int) (m n i : Nat) : Int := (nbr l m n i (-1) (-1) + 2 * nbr l m n i 0 (-1) + nbr l m n i 1 (-1)) - (nbr l m n i (-1) 1 + 2 * nbr l m n i 0 1 + nbr l m n i 1 1)
theorem nbr_hi {l : List Int} {m n i : Nat} {c r : Int} (ok : Ok l m n) : hiI (nbr l m n i c r) := nbI_hi ok
theorem ea_bd {l : List Int} {m n i : Nat} (ok : Ok l m n) : (-8388608 ≤ eaI l m n i ∧ eaI l m n i ≤ 8388608) ∧ (-8388608 ≤ noI l m n i ∧ noI l m n i ≤ 8388608) := by
  have h := fun c r => nbr_hi (l := l) (m := m) (n := n) (i := i) (c := c) (r := r) ok
  unfold hiI at h
  have h1 := h 1 (-1)
  have h2 := h 1 0
  have h3 := h 1 1
  have h4 := h (-1) (-1)
  have h5 := h (-1) 0
  have h6 := h (-1) 1
  have h7 := h 0 (-1)
  have h8 := h 0 1
  unfold eaI noI
  omega
set_option maxRecDepth 4000 in
set_option maxHeartbeats 16000000 in
theorem slopeOf_any {pb po b o cap m n : Nat} {l : List Int} (i : Nat) (hi : i < l.length) (w : World) (rp : PtR w pb po m n (.slice (some ⟨b, o, none⟩) l.length cap)) (rs : Rs w b o cap l) (ok : Ok l m n) : Calls Tryd.prog 11 #[.pointer (some ⟨pb, po, none⟩), .int .i64 (i : Int)] w fun e w' => e = .returned (.tuple #[.int .i64 (eaI l m n i), .int .i64 (noI l m n i)]) ∧ Gr w w' := by
  have ll := ok.len_le
  have hm1 := ok.m1
  have hm2 := ok.m2
  have hn2 := ok.n2
  have RP := hidb rp
  have CC := hidb (fun (c r : Int) W1 (hG : Gr w W1) => cellAt_any i c r W1 (rp.below hG.out) (rs.below hG.out) ok)
  have HN := hidb (fun c r => nbr_hi (l := l) (m := m) (n := n) (i := i) (c := c) (r := r) ok)
  obtain ⟨iI, hiI'⟩ : ∃ z : Int, z = (i : Int) := ⟨_, rfl⟩
  obtain ⟨mI, hmI⟩ : ∃ z : Int, z = (m : Int) := ⟨_, rfl⟩
  obtain ⟨q1, r1, s1, s2⟩ := nat_q hiI' hmI (by omega)
  have hcm : i % m < m := Nat.mod_lt _ (by omega)
  have hrn : i / m < n := Nat.div_lt_of_lt_mul (by rw [← ok.len]; exact hi)
  have K := hidb (fun (dc dr cx rx : Int) (h1 : cx = ((i % m : Nat) : Int) + dc) (h2 : rx = ((i / m : Nat) : Int) + dr) => (show nbI l m n i cx rx = nbr l m n i dc dr by rw [h1, h2]; rfl))
  have ix : ∀ w, (Instr.indexAt 29 (.slice (some ⟨b, o, none⟩) l.length cap) (.int .i64 iI)).run Tryd.prog w = .ok (.pointer (some ⟨b, o + i, none⟩)) w := by rw [hiI']; exact iindex b o l.length cap i hi
  have cI := rs.get hi
  have HE : Hid (eaI l m n i = (nbr l m n i 1 (-1) + 2 * nbr l m n i 1 0 + nbr l m n i 1 1) - (nbr l m n i (-1) (-1) + 2 * nbr l m n i (-1) 0 + nbr l m n i (-1) 1)) := rfl
  have HNo : Hid (noI l m n i = (nbr l m n i (-1) (-1) + 2 * nbr l m n i 0 (-1) + nbr l m n i 1 (-1)) - (nbr l m n i (-1) 1 + 2 * nbr l m n i 0 1 + nbr l m n i 1 1)) := rfl
  generalize eaI l m n i = ea at *
  generalize noI l m n i = no at *
  generalize i % m = c at *
  generalize i / m = r at *
  rw [← hmI] at RP
  rw [← hiI']
  have e0 : ¬ mI = 0 := by omega
  obtain ⟨cp, hcp, f1⟩ : ∃ z : Int, z = (c : Int) + 1 ∧ IntKind.i64.wrap ((c : Int) + 1) = z := ⟨_, rfl, wrap_in (by omega) (by omega)⟩
  obtain ⟨cm, hcm', f2⟩ : ∃ z : Int, z = (c : Int) - 1 ∧ IntKind.i64.wrap ((c : Int) - 1) = z := ⟨_, rfl, wrap_in (by omega) (by omega)⟩
  obtain ⟨rq, hrq, f3⟩ : ∃ z : Int, z = (r : Int) + 1 ∧ IntKind.i64.wrap ((r : Int) + 1) = z := ⟨_, rfl, wrap_in (by omega) (by omega)⟩
  obtain ⟨rm, hrm, f4⟩ : ∃ z : Int, z = (r : Int) - 1 ∧ IntKind.i64.wrap ((r : Int) - 1) = z := ⟨_, rfl, wrap_in (by omega) (by omega)⟩
  have f5 : IntKind.i64.wrap ((c : Int) + -1) = cm := by rw [show (c : Int) + -1 = cm by omega]; exact wrap_in (by omega) (by omega)
  have f6 : IntKind.i64.wrap ((r : Int) + -1) = rm := by rw [show (r : Int) + -1 = rm by omega]; exact wrap_in (by omega) (by omega)
  have k_ne := K.out 1 (-1) cp rm hcp (by omega)
  have k_e := K.out 1 0 cp r hcp (by omega)
  have k_se := K.out 1 1 cp rq hcp hrq
  have k_nw := K.out (-1) (-1) cm rm (by omega) (by omega)
  have k_w := K.out (-1) 0 cm r (by omega) (by omega)
  have k_sw := K.out (-1) 1 cm rq (by omega) hrq
  have k_n := K.out 0 (-1) c rm (by omega) (by omega)
  have k_s := K.out 0 1 c rq (by omega) hrq
  have h_ne := HN.out 1 (-1)
  have h_e := HN.out 1 0
  have h_se := HN.out 1 1
  have h_nw := HN.out (-1) (-1)
  have h_w := HN.out (-1) 0
  have h_sw := HN.out (-1) 1
  have h_n := HN.out 0 (-1)
  have h_s := HN.out 0 1
  have C_nw := hidb (CC.out cm rm)
  rw [k_nw] at C_nw
  have C_n := hidb (CC.out (c : Int) rm)
  rw [k_n] at C_n
  have C_ne := hidb (CC.out cp rm)
  rw [k_ne] at C_ne
  have C_w := hidb (CC.out cm (r : Int))
  rw [k_w] at C_w
  have C_e := hidb (CC.out cp (r : Int))
  rw [k_e] at C_e
  have C_sw := hidb (CC.out cm rq)
  rw [k_sw] at C_sw
  have C_s := hidb (CC.out (c : Int) rq)
  rw [k_s] at C_s
  have C_se := hidb (CC.out cp rq)
  rw [k_se] at C_se
  generalize nbr l m n i (-1) (-1) = x_nw at *
  generalize nbr l m n i 0 (-1) = x_n at *
  generalize nbr l m n i 1 (-1) = x_ne at *
  generalize nbr l m n i (-1) 0 = x_w at *
  generalize nbr l m n i 1 0 = x_e at *
  generalize nbr l m n i (-1) 1 = x_sw at *
  generalize nbr l m n i 0 1 = x_s at *
  generalize nbr l m n i 1 1 = x_se at *
  generalize gl l i = h0 at *
  unfold hiI at h_ne h_e h_se h_nw h_w h_sw h_n h_s
  obtain ⟨d0, hd0, p0⟩ : ∃ z : Int, z = x_ne - x_nw ∧ IntKind.i64.wrap (x_ne - x_nw) = z := ⟨_, rfl, wrap_in (by omega) (by omega)⟩
  obtain ⟨g0, hg0, p3⟩ : ∃ z : Int, z = x_nw - x_sw ∧ IntKind.i64.wrap (x_nw - x_sw) = z := ⟨_, rfl, wrap_in (by omega) (by omega)⟩
  obtain ⟨d1, hd1, p1⟩ : ∃ z : Int, z = x_e - x_w ∧ IntKind.i64.wrap (x_e - x_w) = z := ⟨_, rfl, wrap_in (by omega) (by omega)⟩
  obtain ⟨g1, hg1, p4⟩ : ∃ z : Int, z = x_n - x_s ∧ IntKind.i64.wrap (x_n - x_s) = z := ⟨_, rfl, wrap_in (by omega) (by omega)⟩
  obtain ⟨d2, hd2, p2⟩ : ∃ z : Int, z = x_se - x_sw ∧ IntKind.i64.wrap (x_se - x_sw) = z := ⟨_, rfl, wrap_in (by omega) (by omega)⟩
  obtain ⟨g2, hg2, p5⟩ : ∃ z : Int, z = x_ne - x_se ∧ IntKind.i64.wrap (x_ne - x_se) = z := ⟨_, rfl, wrap_in (by omega) (by omega)⟩
  have m1 : IntKind.i64.wrap d0 = d0 := wrap_in (by omega) (by omega)
  have m2 : IntKind.i64.wrap g0 = g0 := wrap_in (by omega) (by omega)
  obtain ⟨t1, ht1, m3⟩ : ∃ z : Int, z = 2 * d1 ∧ IntKind.i64.wrap (2 * d1) = z := ⟨_, rfl, wrap_in (by omega) (by omega)⟩
  obtain ⟨t2, ht2, m4⟩ : ∃ z : Int, z = 2 * g1 ∧ IntKind.i64.wrap (2 * g1) = z := ⟨_, rfl, wrap_in (by omega) (by omega)⟩
  obtain ⟨u1, hu1, m5⟩ : ∃ z : Int, z = d0 + t1 ∧ IntKind.i64.wrap (d0 + t1) = z := ⟨_, rfl, wrap_in (by omega) (by omega)⟩
  obtain ⟨u2, hu2, m6⟩ : ∃ z : Int, z = g0 + t2 ∧ IntKind.i64.wrap (g0 + t2) = z := ⟨_, rfl, wrap_in (by omega) (by omega)⟩
  have m7 : IntKind.i64.wrap d2 = d2 := wrap_in (by omega) (by omega)
  have m8 : IntKind.i64.wrap g2 = g2 := wrap_in (by omega) (by omega)
  have m9 : IntKind.i64.wrap (u1 + d2) = ea := by rw [show u1 + d2 = ea by rw [HE.out]; omega]; exact wrap_in (by rw [HE.out]; omega) (by rw [HE.out]; omega)
  have m10 : IntKind.i64.wrap (u2 + g2) = no := by rw [show u2 + g2 = no by rw [HNo.out]; omega]; exact wrap_in (by rw [HNo.out]; omega) (by rw [HNo.out]; omega)
  clear ht1 ht2 hu1 hu2 hd0 hd1 hd2 hg0 hg1 hg2 h_ne h_e h_se h_nw h_w h_sw h_n h_s k_ne k_e k_se k_nw k_w k_sw k_n k_s hcp hcm' hrq hrm HE HNo K HN hcm hrn rp rs ok ll hm1 hm2 hn2 hmI hiI' hi CC
  obtain ⟨p0', p1', p2'⟩ := RP.out
  go_enter Tryd.func11, Tryd.ntmps11
  go_wp2
  clear p0' p1' p2' cI
  go_loopw [9, 10, 11] (fun a b' t wr => (t = .int .i64 (-1) ∧ a = .int .i64 0 ∧ b' = .int .i64 0 ∨ t = .int .i64 0 ∧ a = .int .i64 d0 ∧ b' = .int .i64 g0 ∨ t = .int .i64 1 ∧ a = .int .i64 u1 ∧ b' = .int .i64 u2 ∨ t = .int .i64 2 ∧ a = .int .i64 ea ∧ b' = .int .i64 no) ∧ Hid (Gr w wr)) (fun _ _ t _ => (2 - intOf t).toNat)
  case atStart => exact ⟨.inl ⟨rfl, rfl, rfl⟩, hidb (Gr.refl _)⟩
  case round =>
    obtain ⟨⟨rfl, rfl, rfl⟩ | ⟨rfl, rfl, rfl⟩ | ⟨rfl, rfl, rfl⟩ | ⟨rfl, rfl, rfl⟩, HG⟩ := hrel
    · go_wp2_with fail
      refine (C_ne.out _ HG.out).mono ?_
      rintro e w2 ⟨rfl, hB⟩
      replace HG := hidb (Gr.step HG.out hB.out)
      clear hB
      go_wp2_with fail
      refine (C_nw.out _ HG.out).mono ?_
      rintro e w2 ⟨rfl, hB⟩
      replace HG := hidb (Gr.step HG.out hB.out)
      clear hB
      go_wp2_with fail
      refine (C_nw.out _ HG.out).mono ?_
      rintro e w2 ⟨rfl, hB⟩
      replace HG := hidb (Gr.step HG.out hB.out)
      clear hB
      go_wp2_with fail
      refine (C_sw.out _ HG.out).mono ?_
      rintro e w2 ⟨rfl, hB⟩
      replace HG := hidb (Gr.step HG.out hB.out)
      clear hB
      go_wp2
      go_roundw
      case rel => exact ⟨.inr (.inl ⟨rfl, rfl, rfl⟩), HG⟩
      case measure => simp [intOf]
    · go_wp2_with fail
      refine (C_e.out _ HG.out).mono ?_
      rintro e w2 ⟨rfl, hB⟩
      replace HG := hidb (Gr.step HG.out hB.out)
      clear hB
      go_wp2_with fail
      refine (C_w.out _ HG.out).mono ?_
      rintro e w2 ⟨rfl, hB⟩
      replace HG := hidb (Gr.step HG.out hB.out)
      clear hB
      go_wp2_with fail
      refine (C_n.out _ HG.out).mono ?_
      rintro e w2 ⟨rfl, hB⟩
      replace HG := hidb (Gr.step HG.out hB.out)
      clear hB
      go_wp2_with fail
      refine (C_s.out _ HG.out).mono ?_
      rintro e w2 ⟨rfl, hB⟩
      replace HG := hidb (Gr.step HG.out hB.out)
      clear hB
      go_wp2
      go_roundw
      case rel => exact ⟨.inr (.inr (.inl ⟨rfl, rfl, rfl⟩)), HG⟩
      case measure => simp [intOf]
    · go_wp2_with fail
      refine (C_se.out _ HG.out).mono ?_
      rintro e w2 ⟨rfl, hB⟩
      replace HG := hidb (Gr.step HG.out hB.out)
      clear hB
      go_wp2_with fail
      refine (C_sw.out _ HG.out).mono ?_
      rintro e w2 ⟨rfl, hB⟩
      replace HG := hidb (Gr.step HG.out hB.out)
      clear hB
      go_wp2_with fail
      refine (C_ne.out _ HG.out).mono ?_
      rintro e w2 ⟨rfl, hB⟩
      replace HG := hidb (Gr.step HG.out hB.out)
      clear hB
      go_wp2_with fail
      refine (C_se.out _ HG.out).mono ?_
      rintro e w2 ⟨rfl, hB⟩
      replace HG := hidb (Gr.step HG.out hB.out)
      clear hB
      go_wp2
      go_roundw
      case rel => exact ⟨.inr (.inr (.inr (⟨rfl, rfl, rfl⟩))), HG⟩
      case measure => simp [intOf]
    · go_wp2
      go_ret2
      exact ⟨rfl, HG.out⟩
end Go.Proofs.YthbobceghbknoaaDoor
