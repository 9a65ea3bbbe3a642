/-
  relief.near; mercatorref3.cellAt, SlopeOf; relief.Slope.
-/
import Derived.Test.YthbobceghbknoaaDoorQRlD
namespace Go.Proofs.YthbobceghbknoaaDoor
open Go.RowKit

/-- The height at a column and a row; another one's, where there is none. -/
def inB (m n : Nat) (c r : Int) : Prop := (0 ≤ c ∧ c < m) ∧ (0 ≤ r ∧ r < n)
instance (m n : Nat) (c r : Int) : Decidable (inB m n c r) := by unfold inB; exact inferInstance
def nbI (l : List Int) (m n i : Nat) (c r : Int) : Int := if inB m n c r then gl l (r.toNat * m + c.toNat) else gl l i
theorem nbI_hi {l : List Int} {m n i : Nat} {c r : Int} (ok : Ok l m n) : hiI (nbI l m n i c r) := by unfold nbI; split <;> exact ok.hi _
set_option maxRecDepth 4000 in
set_option maxHeartbeats 4000000 in
theorem near_any {b o cap m n : Nat} {l : List Int} (i : Nat) (dc dr : Int) (hdc : -1 ≤ dc) (hdc2 : dc ≤ 1) (hdr : -1 ≤ dr) (hdr2 : dr ≤ 1) (hi : i < l.length) (w : World) (h : Rs w b o cap l) (ok : Ok l m n) : Calls Tryd.prog 21 #[raV m n (.slice (some ⟨b, o, none⟩) l.length cap), .int .i64 (i : Int), .int .i64 dc, .int .i64 dr] w fun e w' => e = .returned (.int .i64 (nbI l m n i (((i % m : Nat) : Int) + dc) (((i / m : Nat) : Int) + dr))) ∧ Gr w w' := by
  have ll := ok.len_le
  have hm1 := ok.m1
  have hn1 := ok.n1
  have hm2 := ok.m2
  have hn2 := ok.n2
  have hcm : i % m < m := Nat.mod_lt _ (by omega)
  have hrn : i / m < n := Nat.div_lt_of_lt_mul (by rw [← ok.len]; exact hi)
  obtain ⟨iI, hiI'⟩ : ∃ z : Int, z = (i : Int) := ⟨_, rfl⟩
  obtain ⟨mI, hmI⟩ : ∃ z : Int, z = (m : Int) := ⟨_, rfl⟩
  obtain ⟨q1, r1, s1, s2⟩ := nat_q hiI' hmI (by omega)
  generalize i % m = c at *
  generalize i / m = r at *
  obtain ⟨cx, hcx, e1⟩ : ∃ z : Int, z = (c : Int) + dc ∧ IntKind.i64.wrap ((c : Int) + dc) = z := ⟨_, rfl, wrap_in (by omega) (by omega)⟩
  obtain ⟨rx, hrx, e2⟩ : ∃ z : Int, z = (r : Int) + dr ∧ IntKind.i64.wrap ((r : Int) + dr) = z := ⟨_, rfl, wrap_in (by omega) (by omega)⟩
  rw [← hcx, ← hrx]
  obtain ⟨m1, hm3, e5⟩ : ∃ z : Int, z = mI - 1 ∧ IntKind.i64.wrap (mI - 1) = z := ⟨_, rfl, wrap_in (by omega) (by omega)⟩
  obtain ⟨n1, hn3, e6⟩ : ∃ z : Int, z = (n : Int) - 1 ∧ IntKind.i64.wrap ((n : Int) - 1) = z := ⟨_, rfl, wrap_in (by omega) (by omega)⟩
  have C1 := hidb (fun W => rwithin_any cx 0 m1 W)
  have C2 := hidb (fun W => rwithin_any rx 0 n1 W)
  have G0 := hidb ((Gr.refl w).alloc (.cells #[.int .i64 mI, .int .i64 n, .slice (some ⟨b, o, none⟩) l.length cap] 31))
  have A0 := hidb (At.new3 w (.int .i64 mI) (.int .i64 n) (.slice (some ⟨b, o, none⟩) l.length cap) 31)
  have e0 : ¬ mI = 0 := by omega
  by_cases hb : inB m n cx rx
  · have hb' := hb
    unfold inB at hb'
    obtain ⟨K, hK⟩ : ∃ K, K = rx.toNat * m + cx.toNat := ⟨_, rfl⟩
    have hKl : K < l.length := by rw [hK]; exact ok.cell (by omega) (by omega)
    have hn : nbI l m n i cx rx = gl l K := by unfold nbI; rw [if_pos hb, hK]
    rw [hn]
    rw [show inI 0 m1 cx = true by unfold inI; simp; omega] at C1
    rw [show inI 0 n1 rx = true by unfold inI; simp; omega] at C2
    obtain ⟨k0, hk0, w0⟩ : ∃ z : Int, z = ((rx.toNat * m : Nat) : Int) ∧ IntKind.i64.wrap (rx * mI) = z := ⟨_, rfl, by rw [hmI, show rx = ((rx.toNat : Nat) : Int) by omega, ← Int.natCast_mul, show ((rx.toNat : Nat) : Int).toNat = rx.toNat by omega]; exact wrap_in (by omega) (by omega)⟩
    have w1 : IntKind.i64.wrap (k0 + cx) = (K : Int) := by rw [show k0 + cx = (K : Int) by omega]; exact wrap_in (by omega) (by omega)
    have ix := iindex b o l.length cap K hKl
    have HC := hidb (fun (W : World) (hG : Gr w W) => (h.below hG.out).get hKl)
    generalize gl l K = x at *
    rw [← hmI, ← hiI']
    clear hcx hrx hm3 hn3 hk0 hK hKl hn hb hb' h ok ll hm1 hn1 hm2 hn2 hcm hrn hdc hdc2 hdr hdr2 hmI hiI' hi
    go_enter Tryd.func21, Tryd.ntmps21
    go_upto_region 1 with fail
    generalize w.alloc (.cells #[.int .i64 mI, .int .i64 n, .slice (some ⟨b, o, none⟩) l.length cap] 31) = wa at *
    obtain ⟨a0, a1, a2⟩ := A0.out.c3
    go_quiet (fail)
    go_wp2_with fail
    clear a0 a1 a2
    generalize hwb : World.drewN wa _ = wb
    have HA : Hid (At wb w.heap.size [.int .i64 mI, .int .i64 n, .slice (some ⟨b, o, none⟩) l.length cap]) := by rw [← hwb]; exact A0.out.drewN _
    have HG : Hid (Gr w wb) := by rw [← hwb]; exact G0.out.drewN _
    clear hwb
    obtain ⟨a0, a1, a2⟩ := HA.out.c3
    have cc := HC.out _ HG.out
    refine (C1.out _).mono ?_
    rintro e w2 ⟨rfl, rfl⟩
    go_wp2_with fail
    refine (C2.out _).mono ?_
    rintro e w3 ⟨rfl, rfl⟩
    go_wp2
    go_ret
    exact ⟨rfl, HG.out⟩
  · have hn : nbI l m n i cx rx = gl l i := by unfold nbI; rw [if_neg hb]
    rw [hn]
    have hor : (inI 0 m1 cx = false) ∨ (inI 0 m1 cx = true ∧ inI 0 n1 rx = false) := by
      unfold inB at hb
      unfold inI
      by_cases t : 0 ≤ cx ∧ cx ≤ m1
      · right; simp; omega
      · left; simp; omega
    have ix : ∀ w, (Instr.indexAt 29 (.slice (some ⟨b, o, none⟩) l.length cap) (.int .i64 iI)).run Tryd.prog w = .ok (.pointer (some ⟨b, o + i, none⟩)) w := by rw [hiI']; exact iindex b o l.length cap i hi
    have HC := hidb (fun (W : World) (hG : Gr w W) => (h.below hG.out).get hi)
    generalize gl l i = x at *
    rw [← hmI, ← hiI']
    clear hcx hrx hm3 hn3 hn hb h ok ll hm1 hn1 hm2 hn2 hcm hrn hdc hdc2 hdr hdr2 hmI hiI' hi
    rcases hor with b1 | ⟨b1, b2⟩
    · rw [b1] at C1
      clear b1
      go_enter Tryd.func21, Tryd.ntmps21
      go_upto_region 1 with fail
      generalize w.alloc (.cells #[.int .i64 mI, .int .i64 n, .slice (some ⟨b, o, none⟩) l.length cap] 31) = wa at *
      obtain ⟨a0, a1, a2⟩ := A0.out.c3
      go_quiet (fail)
      go_wp2_with fail
      clear a0 a1 a2
      generalize hwb : World.drewN wa _ = wb
      have HA : Hid (At wb w.heap.size [.int .i64 mI, .int .i64 n, .slice (some ⟨b, o, none⟩) l.length cap]) := by rw [← hwb]; exact A0.out.drewN _
      have HG : Hid (Gr w wb) := by rw [← hwb]; exact G0.out.drewN _
      clear hwb
      obtain ⟨a0, a1, a2⟩ := HA.out.c3
      have cc := HC.out _ HG.out
      refine (C1.out _).mono ?_
      rintro e w2 ⟨rfl, rfl⟩
      go_wp2
      go_ret
      exact ⟨rfl, HG.out⟩
    · rw [b1] at C1
      rw [b2] at C2
      clear b1 b2
      go_enter Tryd.func21, Tryd.ntmps21
      go_upto_region 1 with fail
      generalize w.alloc (.cells #[.int .i64 mI, .int .i64 n, .slice (some ⟨b, o, none⟩) l.length cap] 31) = wa at *
      obtain ⟨a0, a1, a2⟩ := A0.out.c3
      go_quiet (fail)
      go_wp2_with fail
      clear a0 a1 a2
      generalize hwb : World.drewN wa _ = wb
      have HA : Hid (At wb w.heap.size [.int .i64 mI, .int .i64 n, .slice (some ⟨b, o, none⟩) l.length cap]) := by rw [← hwb]; exact A0.out.drewN _
      have HG : Hid (Gr w wb) := by rw [← hwb]; exact G0.out.drewN _
      clear hwb
      obtain ⟨a0, a1, a2⟩ := HA.out.c3
      have cc := HC.out _ HG.out
      refine (C1.out _).mono ?_
      rintro e w2 ⟨rfl, rfl⟩
      go_wp2_with fail
      refine (C2.out _).mono ?_
      rintro e w3 ⟨rfl, rfl⟩
      go_wp2
      go_ret
      exact ⟨rfl, HG.out⟩
set_option maxRecDepth 4000 in
set_option maxHeartbeats 4000000 in
theorem cellAt_any {pb po b o cap m n : Nat} {l : List Int} (i : Nat) (c r : Int) (w : World) (rp : PtR w pb po m n (.slice (some ⟨b, o, none⟩) l.length cap)) (rs : Rs w b o cap l) (ok : Ok l m n) : Calls Tryd.prog 26 #[.pointer (some ⟨pb, po, none⟩), .int .i64 c, .int .i64 r, .int .i64 (gl l i)] w fun e w' => e = .returned (.int .i64 (nbI l m n i c r)) ∧ Gr w w' := by
  have ll := ok.len_le
  have RP := hidb rp
  by_cases hb : inB m n c r
  · have hb' := hb
    unfold inB at hb'
    obtain ⟨K, hK⟩ : ∃ K, K = r.toNat * m + c.toNat := ⟨_, rfl⟩
    have hKl : K < l.length := by rw [hK]; exact ok.cell (by omega) (by omega)
    have hn : nbI l m n i c r = gl l K := by unfold nbI; rw [if_pos hb, hK]
    rw [hn]
    obtain ⟨k0, hk0, w0⟩ : ∃ z : Int, z = ((r.toNat * m : Nat) : Int) ∧ IntKind.i64.wrap (r * (m : Int)) = z := ⟨_, rfl, by rw [show r = ((r.toNat : Nat) : Int) by omega, ← Int.natCast_mul, show ((r.toNat : Nat) : Int).toNat = r.toNat by omega]; exact wrap_in (by omega) (by omega)⟩
    have w1 : IntKind.i64.wrap (k0 + c) = (K : Int) := by rw [show k0 + c = (K : Int) by omega]; exact wrap_in (by omega) (by omega)
    have ix := iindex b o l.length cap K hKl
    have cc := rs.get hKl
    generalize gl l K = x at *
    have d1 : ¬ c < 0 := by omega
    have d2 : ¬ r < 0 := by omega
    have d3 : ¬ (m : Int) ≤ c := by omega
    have d4 : ¬ (n : Int) ≤ r := by omega
    clear hk0 hK hKl hn hb hb' rp rs ok ll
    obtain ⟨p0, p1, p2⟩ := RP.out
    go_enter Tryd.func26, Tryd.ntmps26
    go_upto_region 3 with fail
    go_quiet (fail)
    go_wp2
    go_ret
    exact ⟨rfl, (Gr.refl w).drewN _⟩
  · have hn : nbI l m n i c r = gl l i := by unfold nbI; rw [if_neg hb]
    rw [hn]
    have hor : c < 0 ∨ (¬ c < 0 ∧ r < 0) ∨ (¬ c < 0 ∧ ¬ r < 0 ∧ (m : Int) ≤ c) ∨ (¬ c < 0 ∧ ¬ r < 0 ∧ ¬ (m : Int) ≤ c ∧ (n : Int) ≤ r) := by unfold inB at hb; omega
    generalize gl l i = x at *
    clear hn hb rp rs ok ll
    obtain ⟨p0, p1, p2⟩ := RP.out
    rcases hor with d1 | ⟨d1, d2⟩ | ⟨d1, d2, d3⟩ | ⟨d1, d2, d3, d4⟩
    all_goals
      go_enter Tryd.func26, Tryd.ntmps26
      go_wp2
      go_ret
      exact ⟨rfl, Gr.refl w⟩
end Go.Proofs.YthbobceghbknoaaDoor
