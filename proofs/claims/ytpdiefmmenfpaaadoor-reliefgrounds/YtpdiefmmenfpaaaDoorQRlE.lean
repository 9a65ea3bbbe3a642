/-
  mercatorref3.GroundAt.
-/
import Derived.Test.YtpdiefmmenfpaaaDoorQRlD
namespace Go.Proofs.YtpdiefmmenfpaaaDoor
open Go.RowKit

/-- What GroundAt reads: the raster behind its pointer, the point's own block. -/
structure RF (w W : World) (pb po : Nat) (m n : Nat) (b o cap : Nat) (l : List Int) (B : Nat) (x y : Int) : Prop where
  pt : PtR W pb po m n (.slice (some ⟨b, o, none⟩) l.length cap)
  sl : Rs W b o cap l
  a0 : At W B [.int .i64 x, .int .i64 y]
  gr : Gr w W
theorem RF.drewN {w W : World} {pb po m n b o cap : Nat} {l : List Int} {B : Nat} {x y : Int} (h : RF w W pb po m n b o cap l B x y) {k : Nat} {W' : World} (e : World.drewN W k = W') : RF w W' pb po m n b o cap l B x y := by
  subst e
  exact ⟨⟨h.pt.c0, h.pt.c1, h.pt.c2⟩, ⟨h.sl.row, h.sl.lt, h.sl.cap⟩, h.a0.drewN k, h.gr.drewN k⟩
theorem RF.new {w : World} {pb po m n b o cap : Nat} {l : List Int} (x y : Int) (t : Nat) (hp : PtR w pb po m n (.slice (some ⟨b, o, none⟩) l.length cap)) (hs : Rs w b o cap l) : RF w (w.alloc (.cells #[.int .i64 x, .int .i64 y] t)) pb po m n b o cap l w.heap.size x y := by
  have G := (Gr.refl w).alloc (.cells #[.int .i64 x, .int .i64 y] t)
  exact ⟨hp.below G.out, hs.below G.out, At.new2 w _ _ t, G⟩
theorem mul_hi {x a : Int} (x0 : 0 ≤ x) (x1 : x ≤ 256) (ha : hiI a) : -268435456 ≤ a * x ∧ a * x ≤ 268435456 := by
  obtain ⟨a1, a2⟩ := ha
  have h1 : a * x ≤ 1048576 * x := Int.mul_le_mul_of_nonneg_right (by omega) x0
  have h2 : (-1048576) * x ≤ a * x := Int.mul_le_mul_of_nonneg_right (by omega) x0
  omega
/-- Not on the ground: as the reference asks. -/
theorem off_or {m n : Nat} {x y : Int} (_hm : 1 ≤ m) (_hn : 1 ≤ n) (h1 : -9223372036854775808 ≤ y) (h2 : y ≤ 9223372036854775807) (h : onI m n x y = false) : x < 0 ∨ IntKind.i64.wrap (-y) < 0 ∨ 256 * ((m : Int) - 1) < x ∨ 256 * ((n : Int) - 1) < IntKind.i64.wrap (-y) := by
  by_cases c : y = -9223372036854775808
  · subst c
    exact .inr (.inl (by decide))
  · rw [wrap_in (n := -y) (by omega) (by omega)]
    unfold onI inI at h
    simp only [Bool.and_eq_false_iff, decide_eq_false_iff_not] at h
    omega
set_option maxRecDepth 4000 in
set_option maxHeartbeats 4000000 in
theorem groundAt_off {pb po m n b o cap : Nat} {l : List Int} (x y : Int) (h1 : -9223372036854775808 ≤ y) (h2 : y ≤ 9223372036854775807) (w : World) (hp : PtR w pb po m n (.slice (some ⟨b, o, none⟩) l.length cap)) (hs : Rs w b o cap l) (hm : 1 ≤ m) (hm2 : m ≤ 128) (hn : 1 ≤ n) (hn2 : n ≤ 128) (ho : onI m n x y = false) : Calls Tryd.prog 13 #[.pointer (some ⟨pb, po, none⟩), spV x y] w fun e w' => e = .returned (.tuple #[.int .i64 0, .bool false]) ∧ Gr w w' := by
  have hor := off_or hm hn h1 h2 ho
  have F := hidb (RF.new x y 24 hp hs)
  obtain ⟨s, hs', e0⟩ : ∃ z : Int, z = IntKind.i64.wrap (-y) ∧ IntKind.i64.wrap (-y) = z := ⟨_, rfl, rfl⟩
  obtain ⟨m1, hm1, e1⟩ : ∃ z : Int, z = (m : Int) - 1 ∧ IntKind.i64.wrap ((m : Int) - 1) = z := ⟨_, rfl, wrap_in (by omega) (by omega)⟩
  obtain ⟨n1, hn1, e3⟩ : ∃ z : Int, z = (n : Int) - 1 ∧ IntKind.i64.wrap ((n : Int) - 1) = z := ⟨_, rfl, wrap_in (by omega) (by omega)⟩
  obtain ⟨mm, hm3, e2⟩ : ∃ z : Int, z = 256 * m1 ∧ IntKind.i64.wrap (256 * m1) = z := ⟨_, rfl, wrap_in (by omega) (by omega)⟩
  obtain ⟨nn, hn3, e4⟩ : ∃ z : Int, z = 256 * n1 ∧ IntKind.i64.wrap (256 * n1) = z := ⟨_, rfl, wrap_in (by omega) (by omega)⟩
  rw [← hs', ← hm1, ← hn1, ← hm3, ← hn3] at hor
  clear hs' hm1 hn1 hm3 hn3 hm hm2 hn hn2 ho h1 h2 hp hs
  obtain ⟨p0, p1, p2⟩ := F.out.pt
  have hor' : x < 0 ∨ (¬ x < 0 ∧ s < 0) ∨ (¬ x < 0 ∧ ¬ s < 0 ∧ mm < x) ∨ (¬ x < 0 ∧ ¬ s < 0 ∧ ¬ mm < x ∧ nn < s) := by omega
  clear hor
  rcases hor' with c1 | ⟨c1, c2⟩ | ⟨c1, c2, c3⟩ | ⟨c1, c2, c3, c4⟩
  all_goals
    go_enter Tryd.func13, Tryd.ntmps13
    go_wp2
    go_ret2
    exact ⟨rfl, F.out.gr⟩
set_option maxRecDepth 4000 in
set_option maxHeartbeats 4000000 in
theorem groundAt_1 {pb po m n b o cap X S : Nat} {l : List Int} (x y u v : Int) (hx : x = (X : Int)) (hy : -y = (S : Int)) (w : World) (hp : PtR w pb po m n (.slice (some ⟨b, o, none⟩) l.length cap)) (hs : Rs w b o cap l) (ok : Ok l m n) (hX : X ≤ 256 * (m - 1)) (hS : S ≤ 256 * (n - 1)) (hU : u = ((X % 256 : Nat) : Int)) (hV : v = ((S % 256 : Nat) : Int)) (hu : u = 0) (hv : v = 0) : Calls Tryd.prog 13 #[.pointer (some ⟨pb, po, none⟩), spV x y] w fun e w' => e = .returned (.tuple #[.int .i64 (gh l m n X S), .bool true]) ∧ Gr w w' := by
  have hm1 := ok.m1
  have hm2 := ok.m2
  have hn1 := ok.n1
  have hn2 := ok.n2
  have ll := ok.len_le
  obtain ⟨c, hc⟩ : ∃ c, c = X / 256 := ⟨_, rfl⟩
  obtain ⟨r, hr⟩ : ∃ c, c = S / 256 := ⟨_, rfl⟩
  have hcm : c < m := by omega
  have hrn : r < n := by omega
  obtain ⟨i0, hi0⟩ : ∃ i, i = r * m + c := ⟨_, rfl⟩
  obtain ⟨i1, hi1⟩ : ∃ i, i = i0 + 1 := ⟨_, rfl⟩
  obtain ⟨i2, hi2⟩ : ∃ i, i = (r + 1) * m + c := ⟨_, rfl⟩
  obtain ⟨i3, hi3⟩ : ∃ i, i = i2 + 1 := ⟨_, rfl⟩
  obtain ⟨q0, hq0⟩ : ∃ q, q = gl l i0 := ⟨_, rfl⟩
  obtain ⟨q1, hq1⟩ : ∃ q, q = gl l i1 := ⟨_, rfl⟩
  obtain ⟨q2, hq2⟩ : ∃ q, q = gl l i2 := ⟨_, rfl⟩
  obtain ⟨q3, hq3⟩ : ∃ q, q = gl l i3 := ⟨_, rfl⟩
  have g0 : hiI q0 := by rw [hq0]; exact ok.hi _
  have g1 : hiI q1 := by rw [hq1]; exact ok.hi _
  have g2 : hiI q2 := by rw [hq2]; exact ok.hi _
  have g3 : hiI q3 := by rw [hq3]; exact ok.hi _
  have bnd : 0 ≤ u ∧ u < 256 ∧ 0 ≤ v ∧ v < 256 := by omega
  have j0 : i0 < l.length := by rw [hi0]; exact ok.cell hcm hrn
  obtain ⟨t1, Ht1, Et1⟩ : ∃ z : Int, z = 256 - u ∧ IntKind.i64.wrap (256 - u) = z := ⟨_, rfl, wrap_in (by omega) (by omega)⟩
  have Bt2 := mul_hi (x := 256 - u) (by omega) (by omega) g0
  rw [← Ht1] at Bt2
  obtain ⟨t2, Ht2, Et2⟩ : ∃ z : Int, z = q0 * t1 ∧ IntKind.i64.wrap (q0 * t1) = z := ⟨_, rfl, wrap_in (by omega) (by omega)⟩
  rw [← Ht2] at Bt2
  have Bt3 := mul_hi (x := u) (by omega) (by omega) g0
  obtain ⟨t3, Ht3, Et3⟩ : ∃ z : Int, z = q0 * u ∧ IntKind.i64.wrap (q0 * u) = z := ⟨_, rfl, wrap_in (by omega) (by omega)⟩
  rw [← Ht3] at Bt3
  obtain ⟨z, Hz, Ez⟩ : ∃ z : Int, z = t2 + t3 ∧ IntKind.i64.wrap (t2 + t3) = z := ⟨_, rfl, wrap_in (by omega) (by omega)⟩
  have HZ : gh l m n X S = z := by
    unfold gh sq0 sq1 sq2 sq3
    rw [← hc, ← hr, ← hi0, ← hU, ← hV, ← hq0]
    unfold rise
    rw [if_neg (by omega)]
    clear bnd
    rw [Hz, Ht2, Ht3, Ht1, hu, hv]; simp
  rw [HZ]
  obtain ⟨t1', t3', t5', t7'⟩ := nat_q hx (show (256 : Int) = ((256 : Nat) : Int) from rfl) (by omega)
  obtain ⟨s, hs0⟩ : ∃ s : Int, s = (S : Int) := ⟨_, rfl⟩
  obtain ⟨t2', t4', t6', t8'⟩ := nat_q hs0 (show (256 : Int) = ((256 : Nat) : Int) from rfl) (by omega)
  have e0 : IntKind.i64.wrap (-y) = s := by rw [hy, hs0]; exact wrap_in (by omega) (by omega)
  rw [← hc] at t1' t5'
  rw [← hr] at t2' t6'
  rw [← hU] at t3' t7'
  rw [← hV] at t4' t8'
  have d1 : ¬ x < 0 := by omega
  have d2 : ¬ s < 0 := by omega
  obtain ⟨m1, hm1', e1⟩ : ∃ z : Int, z = (m : Int) - 1 ∧ IntKind.i64.wrap ((m : Int) - 1) = z := ⟨_, rfl, wrap_in (by omega) (by omega)⟩
  obtain ⟨n1, hn1', e3⟩ : ∃ z : Int, z = (n : Int) - 1 ∧ IntKind.i64.wrap ((n : Int) - 1) = z := ⟨_, rfl, wrap_in (by omega) (by omega)⟩
  obtain ⟨mm, hm3, e2⟩ : ∃ z : Int, z = 256 * m1 ∧ IntKind.i64.wrap (256 * m1) = z := ⟨_, rfl, wrap_in (by omega) (by omega)⟩
  obtain ⟨nn, hn3, e4⟩ : ∃ z : Int, z = 256 * n1 ∧ IntKind.i64.wrap (256 * n1) = z := ⟨_, rfl, wrap_in (by omega) (by omega)⟩
  have d3 : ¬ mm < x := by omega
  have d4 : ¬ nn < s := by omega
  obtain ⟨k0, hk0, w0⟩ : ∃ z : Int, z = ((r * m : Nat) : Int) ∧ IntKind.i64.wrap ((r : Int) * (m : Int)) = z := ⟨_, rfl, by rw [← Int.natCast_mul]; exact wrap_in (by omega) (by omega)⟩
  have w1 : IntKind.i64.wrap (k0 + (c : Int)) = (i0 : Int) := by rw [show k0 + (c : Int) = (i0 : Int) by omega]; exact wrap_in (by omega) (by omega)
  have I0 := hidb (iindex b o l.length cap i0 j0)
  have L0 : Hid (∀ W : World, Rs W b o cap l → W.cell? ⟨b, o + i0, none⟩ = some (.int .i64 q0)) := fun W hR => by rw [hq0]; exact hR.get j0
  have F := hidb (RF.new x y 24 hp hs)
  have c1 : ¬ 0 < u := by omega
  have c2 : ¬ 0 < v := by omega
  have c3 : v ≤ u := by omega
  have c4 : v = 0 := hv
  have f0 : (u : Int) = u := rfl
  clear f0 hs0 hm1' hn1' hm3 hn3 hk0 hm1 hm2 hn1 hn2 ll hcm hrn hi0 hi1 hi2 hi3 hX hS hx hy hp hs ok g0 g1 g2 g3 bnd HZ Ht1 Ht2 Ht3 Hz Bt2 Bt3
  have HCL := hidb (And.intro hc (And.intro hr (And.intro hU (And.intro hV (And.intro hq0 (And.intro hq1 (And.intro hq2 hq3)))))))
  clear HCL hc hr hU hV hq0 hq1 hq2 hq3 j0 hu hv
  go_enter Tryd.func13, Tryd.ntmps13
  obtain ⟨p0, p1, p2⟩ := F.out.pt
  go_upto_region 9 with fail
  generalize w.alloc (.cells #[.int .i64 x, .int .i64 y] 24) = wr9 at *
  have ix := I0.out
  have ce : wr9.cell? ⟨b, o + i0, none⟩ = some (.int .i64 q0) := L0.out wr9 F.out.sl
  go_quiet (fail)
  go_wp2
  go_ret2
  exact ⟨rfl, F.out.gr.drewN _⟩
set_option maxRecDepth 4000 in
set_option maxHeartbeats 4000000 in
theorem groundAt_2 {pb po m n b o cap X S : Nat} {l : List Int} (x y u v : Int) (hx : x = (X : Int)) (hy : -y = (S : Int)) (w : World) (hp : PtR w pb po m n (.slice (some ⟨b, o, none⟩) l.length cap)) (hs : Rs w b o cap l) (ok : Ok l m n) (hX : X ≤ 256 * (m - 1)) (hS : S ≤ 256 * (n - 1)) (hU : u = ((X % 256 : Nat) : Int)) (hV : v = ((S % 256 : Nat) : Int)) (hu : 0 < u) (hv : v = 0) : Calls Tryd.prog 13 #[.pointer (some ⟨pb, po, none⟩), spV x y] w fun e w' => e = .returned (.tuple #[.int .i64 (gh l m n X S), .bool true]) ∧ Gr w w' := by
  have hm1 := ok.m1
  have hm2 := ok.m2
  have hn1 := ok.n1
  have hn2 := ok.n2
  have ll := ok.len_le
  obtain ⟨c, hc⟩ : ∃ c, c = X / 256 := ⟨_, rfl⟩
  obtain ⟨r, hr⟩ : ∃ c, c = S / 256 := ⟨_, rfl⟩
  have hcm : c < m := by omega
  have hrn : r < n := by omega
  obtain ⟨i0, hi0⟩ : ∃ i, i = r * m + c := ⟨_, rfl⟩
  obtain ⟨i1, hi1⟩ : ∃ i, i = i0 + 1 := ⟨_, rfl⟩
  obtain ⟨i2, hi2⟩ : ∃ i, i = (r + 1) * m + c := ⟨_, rfl⟩
  obtain ⟨i3, hi3⟩ : ∃ i, i = i2 + 1 := ⟨_, rfl⟩
  obtain ⟨q0, hq0⟩ : ∃ q, q = gl l i0 := ⟨_, rfl⟩
  obtain ⟨q1, hq1⟩ : ∃ q, q = gl l i1 := ⟨_, rfl⟩
  obtain ⟨q2, hq2⟩ : ∃ q, q = gl l i2 := ⟨_, rfl⟩
  obtain ⟨q3, hq3⟩ : ∃ q, q = gl l i3 := ⟨_, rfl⟩
  have g0 : hiI q0 := by rw [hq0]; exact ok.hi _
  have g1 : hiI q1 := by rw [hq1]; exact ok.hi _
  have g2 : hiI q2 := by rw [hq2]; exact ok.hi _
  have g3 : hiI q3 := by rw [hq3]; exact ok.hi _
  have bnd : 0 ≤ u ∧ u < 256 ∧ 0 ≤ v ∧ v < 256 := by omega
  have j0 : i0 < l.length := by rw [hi0]; exact ok.cell hcm hrn
  have hc1 : c + 1 < m := by omega
  have j1 : i1 < l.length := by rw [hi1, hi0, Nat.add_assoc]; exact ok.cell hc1 hrn
  obtain ⟨t1, Ht1, Et1⟩ : ∃ z : Int, z = 256 - u ∧ IntKind.i64.wrap (256 - u) = z := ⟨_, rfl, wrap_in (by omega) (by omega)⟩
  have Bt2 := mul_hi (x := 256 - u) (by omega) (by omega) g0
  rw [← Ht1] at Bt2
  obtain ⟨t2, Ht2, Et2⟩ : ∃ z : Int, z = q0 * t1 ∧ IntKind.i64.wrap (q0 * t1) = z := ⟨_, rfl, wrap_in (by omega) (by omega)⟩
  rw [← Ht2] at Bt2
  have Bt3 := mul_hi (x := u) (by omega) (by omega) g1
  obtain ⟨t3, Ht3, Et3⟩ : ∃ z : Int, z = q1 * u ∧ IntKind.i64.wrap (q1 * u) = z := ⟨_, rfl, wrap_in (by omega) (by omega)⟩
  rw [← Ht3] at Bt3
  obtain ⟨z, Hz, Ez⟩ : ∃ z : Int, z = t2 + t3 ∧ IntKind.i64.wrap (t2 + t3) = z := ⟨_, rfl, wrap_in (by omega) (by omega)⟩
  have HZ : gh l m n X S = z := by
    unfold gh sq0 sq1 sq2 sq3
    rw [← hc, ← hr, ← hi0, ← hU, ← hV, ← hq0]
    unfold rise
    rw [show min (c + 1) (m - 1) = c + 1 by omega, show r * m + (c + 1) = i1 by omega, ← hq1]
    rw [if_neg (by omega)]
    clear bnd
    rw [Hz, Ht2, Ht3, Ht1, hv]; grind
  rw [HZ]
  obtain ⟨t1', t3', t5', t7'⟩ := nat_q hx (show (256 : Int) = ((256 : Nat) : Int) from rfl) (by omega)
  obtain ⟨s, hs0⟩ : ∃ s : Int, s = (S : Int) := ⟨_, rfl⟩
  obtain ⟨t2', t4', t6', t8'⟩ := nat_q hs0 (show (256 : Int) = ((256 : Nat) : Int) from rfl) (by omega)
  have e0 : IntKind.i64.wrap (-y) = s := by rw [hy, hs0]; exact wrap_in (by omega) (by omega)
  rw [← hc] at t1' t5'
  rw [← hr] at t2' t6'
  rw [← hU] at t3' t7'
  rw [← hV] at t4' t8'
  have d1 : ¬ x < 0 := by omega
  have d2 : ¬ s < 0 := by omega
  obtain ⟨m1, hm1', e1⟩ : ∃ z : Int, z = (m : Int) - 1 ∧ IntKind.i64.wrap ((m : Int) - 1) = z := ⟨_, rfl, wrap_in (by omega) (by omega)⟩
  obtain ⟨n1, hn1', e3⟩ : ∃ z : Int, z = (n : Int) - 1 ∧ IntKind.i64.wrap ((n : Int) - 1) = z := ⟨_, rfl, wrap_in (by omega) (by omega)⟩
  obtain ⟨mm, hm3, e2⟩ : ∃ z : Int, z = 256 * m1 ∧ IntKind.i64.wrap (256 * m1) = z := ⟨_, rfl, wrap_in (by omega) (by omega)⟩
  obtain ⟨nn, hn3, e4⟩ : ∃ z : Int, z = 256 * n1 ∧ IntKind.i64.wrap (256 * n1) = z := ⟨_, rfl, wrap_in (by omega) (by omega)⟩
  have d3 : ¬ mm < x := by omega
  have d4 : ¬ nn < s := by omega
  obtain ⟨k0, hk0, w0⟩ : ∃ z : Int, z = ((r * m : Nat) : Int) ∧ IntKind.i64.wrap ((r : Int) * (m : Int)) = z := ⟨_, rfl, by rw [← Int.natCast_mul]; exact wrap_in (by omega) (by omega)⟩
  have w1 : IntKind.i64.wrap (k0 + (c : Int)) = (i0 : Int) := by rw [show k0 + (c : Int) = (i0 : Int) by omega]; exact wrap_in (by omega) (by omega)
  have w2 : IntKind.i64.wrap ((i0 : Int) + 1) = (i1 : Int) := by rw [show (i0 : Int) + 1 = (i1 : Int) by omega]; exact wrap_in (by omega) (by omega)
  have I0 := hidb (iindex b o l.length cap i0 j0)
  have L0 : Hid (∀ W : World, Rs W b o cap l → W.cell? ⟨b, o + i0, none⟩ = some (.int .i64 q0)) := fun W hR => by rw [hq0]; exact hR.get j0
  have I1 := hidb (iindex b o l.length cap i1 j1)
  have L1 : Hid (∀ W : World, Rs W b o cap l → W.cell? ⟨b, o + i1, none⟩ = some (.int .i64 q1)) := fun W hR => by rw [hq1]; exact hR.get j1
  have F := hidb (RF.new x y 24 hp hs)
  have c1 : 0 < u := hu
  have c2 : ¬ 0 < v := by omega
  have c3 : v ≤ u := by omega
  have c4 : v = 0 := hv
  have f0 : (u : Int) = u := rfl
  clear f0 hs0 hm1' hn1' hm3 hn3 hk0 hm1 hm2 hn1 hn2 ll hcm hrn hi0 hi1 hi2 hi3 hX hS hx hy hp hs ok g0 g1 g2 g3 bnd HZ Ht1 Ht2 Ht3 Hz Bt2 Bt3
  have HCL := hidb (And.intro hc (And.intro hr (And.intro hU (And.intro hV (And.intro hq0 (And.intro hq1 (And.intro hq2 hq3)))))))
  clear HCL hc hr hU hV hq0 hq1 hq2 hq3 j0 hc1 j1 hu hv
  go_enter Tryd.func13, Tryd.ntmps13
  obtain ⟨p0, p1, p2⟩ := F.out.pt
  go_upto_region 9 with fail
  generalize w.alloc (.cells #[.int .i64 x, .int .i64 y] 24) = wr9 at *
  have ix := I0.out
  have ce : wr9.cell? ⟨b, o + i0, none⟩ = some (.int .i64 q0) := L0.out wr9 F.out.sl
  go_quiet (fail)
  go_upto_region 12 with fail
  generalize hw : World.drewN wr9 _ = wr12
  replace F := hidb (F.out.drewN hw)
  clear hw p0 p1 p2 ix ce
  obtain ⟨p0, p1, p2⟩ := F.out.pt
  have ix := I1.out
  have ce : wr12.cell? ⟨b, o + i1, none⟩ = some (.int .i64 q1) := L1.out wr12 F.out.sl
  go_quiet (fail)
  go_wp2
  go_ret2
  exact ⟨rfl, F.out.gr.drewN _⟩
set_option maxRecDepth 4000 in
set_option maxHeartbeats 4000000 in
theorem groundAt_3 {pb po m n b o cap X S : Nat} {l : List Int} (x y u v : Int) (hx : x = (X : Int)) (hy : -y = (S : Int)) (w : World) (hp : PtR w pb po m n (.slice (some ⟨b, o, none⟩) l.length cap)) (hs : Rs w b o cap l) (ok : Ok l m n) (hX : X ≤ 256 * (m - 1)) (hS : S ≤ 256 * (n - 1)) (hU : u = ((X % 256 : Nat) : Int)) (hV : v = ((S % 256 : Nat) : Int)) (hu : u = 0) (hv : 0 < v) : Calls Tryd.prog 13 #[.pointer (some ⟨pb, po, none⟩), spV x y] w fun e w' => e = .returned (.tuple #[.int .i64 (gh l m n X S), .bool true]) ∧ Gr w w' := by
  have hm1 := ok.m1
  have hm2 := ok.m2
  have hn1 := ok.n1
  have hn2 := ok.n2
  have ll := ok.len_le
  obtain ⟨c, hc⟩ : ∃ c, c = X / 256 := ⟨_, rfl⟩
  obtain ⟨r, hr⟩ : ∃ c, c = S / 256 := ⟨_, rfl⟩
  have hcm : c < m := by omega
  have hrn : r < n := by omega
  obtain ⟨i0, hi0⟩ : ∃ i, i = r * m + c := ⟨_, rfl⟩
  obtain ⟨i1, hi1⟩ : ∃ i, i = i0 + 1 := ⟨_, rfl⟩
  obtain ⟨i2, hi2⟩ : ∃ i, i = (r + 1) * m + c := ⟨_, rfl⟩
  obtain ⟨i3, hi3⟩ : ∃ i, i = i2 + 1 := ⟨_, rfl⟩
  obtain ⟨q0, hq0⟩ : ∃ q, q = gl l i0 := ⟨_, rfl⟩
  obtain ⟨q1, hq1⟩ : ∃ q, q = gl l i1 := ⟨_, rfl⟩
  obtain ⟨q2, hq2⟩ : ∃ q, q = gl l i2 := ⟨_, rfl⟩
  obtain ⟨q3, hq3⟩ : ∃ q, q = gl l i3 := ⟨_, rfl⟩
  have g0 : hiI q0 := by rw [hq0]; exact ok.hi _
  have g1 : hiI q1 := by rw [hq1]; exact ok.hi _
  have g2 : hiI q2 := by rw [hq2]; exact ok.hi _
  have g3 : hiI q3 := by rw [hq3]; exact ok.hi _
  have bnd : 0 ≤ u ∧ u < 256 ∧ 0 ≤ v ∧ v < 256 := by omega
  have j0 : i0 < l.length := by rw [hi0]; exact ok.cell hcm hrn
  have hr1 : r + 1 < n := by omega
  have j2 : i2 < l.length := by rw [hi2]; exact ok.cell hcm hr1
  obtain ⟨t1, Ht1, Et1⟩ : ∃ z : Int, z = 256 - v ∧ IntKind.i64.wrap (256 - v) = z := ⟨_, rfl, wrap_in (by omega) (by omega)⟩
  have Bt2 := mul_hi (x := 256 - v) (by omega) (by omega) g0
  rw [← Ht1] at Bt2
  obtain ⟨t2, Ht2, Et2⟩ : ∃ z : Int, z = q0 * t1 ∧ IntKind.i64.wrap (q0 * t1) = z := ⟨_, rfl, wrap_in (by omega) (by omega)⟩
  rw [← Ht2] at Bt2
  have Bt3 := mul_hi (x := v) (by omega) (by omega) g2
  obtain ⟨t3, Ht3, Et3⟩ : ∃ z : Int, z = q2 * v ∧ IntKind.i64.wrap (q2 * v) = z := ⟨_, rfl, wrap_in (by omega) (by omega)⟩
  rw [← Ht3] at Bt3
  obtain ⟨z, Hz, Ez⟩ : ∃ z : Int, z = t2 + t3 ∧ IntKind.i64.wrap (t2 + t3) = z := ⟨_, rfl, wrap_in (by omega) (by omega)⟩
  have HZ : gh l m n X S = z := by
    unfold gh sq0 sq1 sq2 sq3
    rw [← hc, ← hr, ← hi0, ← hU, ← hV, ← hq0]
    unfold rise
    rw [show min (r + 1) (n - 1) = r + 1 by omega, show (r + 1) * m + c = i2 by omega, ← hq2]
    rw [if_pos (by omega)]
    clear bnd
    rw [Hz, Ht2, Ht3, Ht1, hu]; grind
  rw [HZ]
  obtain ⟨t1', t3', t5', t7'⟩ := nat_q hx (show (256 : Int) = ((256 : Nat) : Int) from rfl) (by omega)
  obtain ⟨s, hs0⟩ : ∃ s : Int, s = (S : Int) := ⟨_, rfl⟩
  obtain ⟨t2', t4', t6', t8'⟩ := nat_q hs0 (show (256 : Int) = ((256 : Nat) : Int) from rfl) (by omega)
  have e0 : IntKind.i64.wrap (-y) = s := by rw [hy, hs0]; exact wrap_in (by omega) (by omega)
  rw [← hc] at t1' t5'
  rw [← hr] at t2' t6'
  rw [← hU] at t3' t7'
  rw [← hV] at t4' t8'
  have d1 : ¬ x < 0 := by omega
  have d2 : ¬ s < 0 := by omega
  obtain ⟨m1, hm1', e1⟩ : ∃ z : Int, z = (m : Int) - 1 ∧ IntKind.i64.wrap ((m : Int) - 1) = z := ⟨_, rfl, wrap_in (by omega) (by omega)⟩
  obtain ⟨n1, hn1', e3⟩ : ∃ z : Int, z = (n : Int) - 1 ∧ IntKind.i64.wrap ((n : Int) - 1) = z := ⟨_, rfl, wrap_in (by omega) (by omega)⟩
  obtain ⟨mm, hm3, e2⟩ : ∃ z : Int, z = 256 * m1 ∧ IntKind.i64.wrap (256 * m1) = z := ⟨_, rfl, wrap_in (by omega) (by omega)⟩
  obtain ⟨nn, hn3, e4⟩ : ∃ z : Int, z = 256 * n1 ∧ IntKind.i64.wrap (256 * n1) = z := ⟨_, rfl, wrap_in (by omega) (by omega)⟩
  have d3 : ¬ mm < x := by omega
  have d4 : ¬ nn < s := by omega
  obtain ⟨k0, hk0, w0⟩ : ∃ z : Int, z = ((r * m : Nat) : Int) ∧ IntKind.i64.wrap ((r : Int) * (m : Int)) = z := ⟨_, rfl, by rw [← Int.natCast_mul]; exact wrap_in (by omega) (by omega)⟩
  have w1 : IntKind.i64.wrap (k0 + (c : Int)) = (i0 : Int) := by rw [show k0 + (c : Int) = (i0 : Int) by omega]; exact wrap_in (by omega) (by omega)
  obtain ⟨r1, hr1', w3⟩ : ∃ z : Int, z = ((r + 1 : Nat) : Int) ∧ IntKind.i64.wrap ((r : Int) + 1) = z := ⟨_, rfl, wrap_in (by omega) (by omega)⟩
  obtain ⟨k2, hk2, w4⟩ : ∃ z : Int, z = (((r + 1) * m : Nat) : Int) ∧ IntKind.i64.wrap (r1 * (m : Int)) = z := ⟨_, rfl, by rw [hr1', ← Int.natCast_mul]; exact wrap_in (by omega) (by omega)⟩
  have w5 : IntKind.i64.wrap (k2 + (c : Int)) = (i2 : Int) := by rw [show k2 + (c : Int) = (i2 : Int) by omega]; exact wrap_in (by omega) (by omega)
  have I0 := hidb (iindex b o l.length cap i0 j0)
  have L0 : Hid (∀ W : World, Rs W b o cap l → W.cell? ⟨b, o + i0, none⟩ = some (.int .i64 q0)) := fun W hR => by rw [hq0]; exact hR.get j0
  have I2 := hidb (iindex b o l.length cap i2 j2)
  have L2 : Hid (∀ W : World, Rs W b o cap l → W.cell? ⟨b, o + i2, none⟩ = some (.int .i64 q2)) := fun W hR => by rw [hq2]; exact hR.get j2
  have F := hidb (RF.new x y 24 hp hs)
  have c1 : ¬ 0 < u := by omega
  have c2 : 0 < v := hv
  have c3 : ¬ v ≤ u := by omega
  have c4 : u = 0 := hu
  have f0 : (u : Int) = u := rfl
  clear f0 hs0 hm1' hn1' hm3 hn3 hk0 hm1 hm2 hn1 hn2 ll hcm hrn hi0 hi1 hi2 hi3 hX hS hx hy hp hs ok g0 g1 g2 g3 bnd HZ Ht1 Ht2 Ht3 Hz Bt2 Bt3
  have HCL := hidb (And.intro hc (And.intro hr (And.intro hU (And.intro hV (And.intro hq0 (And.intro hq1 (And.intro hq2 hq3)))))))
  clear HCL hc hr hU hV hq0 hq1 hq2 hq3 j0 hr1 j2 hr1' hk2 hu hv
  go_enter Tryd.func13, Tryd.ntmps13
  obtain ⟨p0, p1, p2⟩ := F.out.pt
  go_upto_region 9 with fail
  generalize w.alloc (.cells #[.int .i64 x, .int .i64 y] 24) = wr9 at *
  have ix := I0.out
  have ce : wr9.cell? ⟨b, o + i0, none⟩ = some (.int .i64 q0) := L0.out wr9 F.out.sl
  go_quiet (fail)
  go_upto_region 15 with fail
  generalize hw : World.drewN wr9 _ = wr15
  replace F := hidb (F.out.drewN hw)
  clear hw p0 p1 p2 ix ce
  obtain ⟨p0, p1, p2⟩ := F.out.pt
  have ix := I2.out
  have ce : wr15.cell? ⟨b, o + i2, none⟩ = some (.int .i64 q2) := L2.out wr15 F.out.sl
  go_quiet (fail)
  go_wp2
  go_ret2
  exact ⟨rfl, F.out.gr.drewN _⟩
set_option maxRecDepth 4000 in
set_option maxHeartbeats 4000000 in
theorem groundAt_4 {pb po m n b o cap X S : Nat} {l : List Int} (x y u v : Int) (hx : x = (X : Int)) (hy : -y = (S : Int)) (w : World) (hp : PtR w pb po m n (.slice (some ⟨b, o, none⟩) l.length cap)) (hs : Rs w b o cap l) (ok : Ok l m n) (hX : X ≤ 256 * (m - 1)) (hS : S ≤ 256 * (n - 1)) (hU : u = ((X % 256 : Nat) : Int)) (hV : v = ((S % 256 : Nat) : Int)) (hu : 0 < u) (hv : 0 < v) (huv : v ≤ u) : Calls Tryd.prog 13 #[.pointer (some ⟨pb, po, none⟩), spV x y] w fun e w' => e = .returned (.tuple #[.int .i64 (gh l m n X S), .bool true]) ∧ Gr w w' := by
  have hm1 := ok.m1
  have hm2 := ok.m2
  have hn1 := ok.n1
  have hn2 := ok.n2
  have ll := ok.len_le
  obtain ⟨c, hc⟩ : ∃ c, c = X / 256 := ⟨_, rfl⟩
  obtain ⟨r, hr⟩ : ∃ c, c = S / 256 := ⟨_, rfl⟩
  have hcm : c < m := by omega
  have hrn : r < n := by omega
  obtain ⟨i0, hi0⟩ : ∃ i, i = r * m + c := ⟨_, rfl⟩
  obtain ⟨i1, hi1⟩ : ∃ i, i = i0 + 1 := ⟨_, rfl⟩
  obtain ⟨i2, hi2⟩ : ∃ i, i = (r + 1) * m + c := ⟨_, rfl⟩
  obtain ⟨i3, hi3⟩ : ∃ i, i = i2 + 1 := ⟨_, rfl⟩
  obtain ⟨q0, hq0⟩ : ∃ q, q = gl l i0 := ⟨_, rfl⟩
  obtain ⟨q1, hq1⟩ : ∃ q, q = gl l i1 := ⟨_, rfl⟩
  obtain ⟨q2, hq2⟩ : ∃ q, q = gl l i2 := ⟨_, rfl⟩
  obtain ⟨q3, hq3⟩ : ∃ q, q = gl l i3 := ⟨_, rfl⟩
  have g0 : hiI q0 := by rw [hq0]; exact ok.hi _
  have g1 : hiI q1 := by rw [hq1]; exact ok.hi _
  have g2 : hiI q2 := by rw [hq2]; exact ok.hi _
  have g3 : hiI q3 := by rw [hq3]; exact ok.hi _
  have bnd : 0 ≤ u ∧ u < 256 ∧ 0 ≤ v ∧ v < 256 := by omega
  have j0 : i0 < l.length := by rw [hi0]; exact ok.cell hcm hrn
  have hc1 : c + 1 < m := by omega
  have j1 : i1 < l.length := by rw [hi1, hi0, Nat.add_assoc]; exact ok.cell hc1 hrn
  have hr1 : r + 1 < n := by omega
  have j2 : i2 < l.length := by rw [hi2]; exact ok.cell hcm hr1
  have j3 : i3 < l.length := by rw [hi3, hi2, Nat.add_assoc]; exact ok.cell hc1 hr1
  obtain ⟨t1, Ht1, Et1⟩ : ∃ z : Int, z = 256 - u ∧ IntKind.i64.wrap (256 - u) = z := ⟨_, rfl, wrap_in (by omega) (by omega)⟩
  have Bt2 := mul_hi (x := 256 - u) (by omega) (by omega) g0
  rw [← Ht1] at Bt2
  obtain ⟨t2, Ht2, Et2⟩ : ∃ z : Int, z = q0 * t1 ∧ IntKind.i64.wrap (q0 * t1) = z := ⟨_, rfl, wrap_in (by omega) (by omega)⟩
  rw [← Ht2] at Bt2
  obtain ⟨t3, Ht3, Et3⟩ : ∃ z : Int, z = u - v ∧ IntKind.i64.wrap (u - v) = z := ⟨_, rfl, wrap_in (by omega) (by omega)⟩
  have Bt4 := mul_hi (x := u - v) (by omega) (by omega) g1
  rw [← Ht3] at Bt4
  obtain ⟨t4, Ht4, Et4⟩ : ∃ z : Int, z = q1 * t3 ∧ IntKind.i64.wrap (q1 * t3) = z := ⟨_, rfl, wrap_in (by omega) (by omega)⟩
  rw [← Ht4] at Bt4
  obtain ⟨t5, Ht5, Et5⟩ : ∃ z : Int, z = t2 + t4 ∧ IntKind.i64.wrap (t2 + t4) = z := ⟨_, rfl, wrap_in (by omega) (by omega)⟩
  have Bt6 := mul_hi (x := v) (by omega) (by omega) g3
  obtain ⟨t6, Ht6, Et6⟩ : ∃ z : Int, z = q3 * v ∧ IntKind.i64.wrap (q3 * v) = z := ⟨_, rfl, wrap_in (by omega) (by omega)⟩
  rw [← Ht6] at Bt6
  obtain ⟨z, Hz, Ez⟩ : ∃ z : Int, z = t5 + t6 ∧ IntKind.i64.wrap (t5 + t6) = z := ⟨_, rfl, wrap_in (by omega) (by omega)⟩
  have HZ : gh l m n X S = z := by
    unfold gh sq0 sq1 sq2 sq3
    rw [← hc, ← hr, ← hi0, ← hU, ← hV, ← hq0]
    unfold rise
    rw [show min (c + 1) (m - 1) = c + 1 by omega, show r * m + (c + 1) = i1 by omega, ← hq1, show min (r + 1) (n - 1) = r + 1 by omega, show (r + 1) * m + c = i2 by omega, ← hq2, show (r + 1) * m + (c + 1) = i3 by omega, ← hq3]
    rw [if_neg (by omega)]
    clear bnd
    rw [Hz, Ht5, Ht6, Ht2, Ht4, Ht1, Ht3]; grind
  rw [HZ]
  obtain ⟨t1', t3', t5', t7'⟩ := nat_q hx (show (256 : Int) = ((256 : Nat) : Int) from rfl) (by omega)
  obtain ⟨s, hs0⟩ : ∃ s : Int, s = (S : Int) := ⟨_, rfl⟩
  obtain ⟨t2', t4', t6', t8'⟩ := nat_q hs0 (show (256 : Int) = ((256 : Nat) : Int) from rfl) (by omega)
  have e0 : IntKind.i64.wrap (-y) = s := by rw [hy, hs0]; exact wrap_in (by omega) (by omega)
  rw [← hc] at t1' t5'
  rw [← hr] at t2' t6'
  rw [← hU] at t3' t7'
  rw [← hV] at t4' t8'
  have d1 : ¬ x < 0 := by omega
  have d2 : ¬ s < 0 := by omega
  obtain ⟨m1, hm1', e1⟩ : ∃ z : Int, z = (m : Int) - 1 ∧ IntKind.i64.wrap ((m : Int) - 1) = z := ⟨_, rfl, wrap_in (by omega) (by omega)⟩
  obtain ⟨n1, hn1', e3⟩ : ∃ z : Int, z = (n : Int) - 1 ∧ IntKind.i64.wrap ((n : Int) - 1) = z := ⟨_, rfl, wrap_in (by omega) (by omega)⟩
  obtain ⟨mm, hm3, e2⟩ : ∃ z : Int, z = 256 * m1 ∧ IntKind.i64.wrap (256 * m1) = z := ⟨_, rfl, wrap_in (by omega) (by omega)⟩
  obtain ⟨nn, hn3, e4⟩ : ∃ z : Int, z = 256 * n1 ∧ IntKind.i64.wrap (256 * n1) = z := ⟨_, rfl, wrap_in (by omega) (by omega)⟩
  have d3 : ¬ mm < x := by omega
  have d4 : ¬ nn < s := by omega
  obtain ⟨k0, hk0, w0⟩ : ∃ z : Int, z = ((r * m : Nat) : Int) ∧ IntKind.i64.wrap ((r : Int) * (m : Int)) = z := ⟨_, rfl, by rw [← Int.natCast_mul]; exact wrap_in (by omega) (by omega)⟩
  have w1 : IntKind.i64.wrap (k0 + (c : Int)) = (i0 : Int) := by rw [show k0 + (c : Int) = (i0 : Int) by omega]; exact wrap_in (by omega) (by omega)
  have w2 : IntKind.i64.wrap ((i0 : Int) + 1) = (i1 : Int) := by rw [show (i0 : Int) + 1 = (i1 : Int) by omega]; exact wrap_in (by omega) (by omega)
  obtain ⟨r1, hr1', w3⟩ : ∃ z : Int, z = ((r + 1 : Nat) : Int) ∧ IntKind.i64.wrap ((r : Int) + 1) = z := ⟨_, rfl, wrap_in (by omega) (by omega)⟩
  obtain ⟨k2, hk2, w4⟩ : ∃ z : Int, z = (((r + 1) * m : Nat) : Int) ∧ IntKind.i64.wrap (r1 * (m : Int)) = z := ⟨_, rfl, by rw [hr1', ← Int.natCast_mul]; exact wrap_in (by omega) (by omega)⟩
  have w5 : IntKind.i64.wrap (k2 + (c : Int)) = (i2 : Int) := by rw [show k2 + (c : Int) = (i2 : Int) by omega]; exact wrap_in (by omega) (by omega)
  have w6 : IntKind.i64.wrap ((i2 : Int) + 1) = (i3 : Int) := by rw [show (i2 : Int) + 1 = (i3 : Int) by omega]; exact wrap_in (by omega) (by omega)
  have I0 := hidb (iindex b o l.length cap i0 j0)
  have L0 : Hid (∀ W : World, Rs W b o cap l → W.cell? ⟨b, o + i0, none⟩ = some (.int .i64 q0)) := fun W hR => by rw [hq0]; exact hR.get j0
  have I1 := hidb (iindex b o l.length cap i1 j1)
  have L1 : Hid (∀ W : World, Rs W b o cap l → W.cell? ⟨b, o + i1, none⟩ = some (.int .i64 q1)) := fun W hR => by rw [hq1]; exact hR.get j1
  have I2 := hidb (iindex b o l.length cap i2 j2)
  have L2 : Hid (∀ W : World, Rs W b o cap l → W.cell? ⟨b, o + i2, none⟩ = some (.int .i64 q2)) := fun W hR => by rw [hq2]; exact hR.get j2
  have I3 := hidb (iindex b o l.length cap i3 j3)
  have L3 : Hid (∀ W : World, Rs W b o cap l → W.cell? ⟨b, o + i3, none⟩ = some (.int .i64 q3)) := fun W hR => by rw [hq3]; exact hR.get j3
  have F := hidb (RF.new x y 24 hp hs)
  have c1 : 0 < u := hu
  have c2 : 0 < v := hv
  have c3 : v ≤ u := huv
  have c4 : ¬ v = 0 := by omega
  have f0 : (u : Int) = u := rfl
  clear f0 hs0 hm1' hn1' hm3 hn3 hk0 hm1 hm2 hn1 hn2 ll hcm hrn hi0 hi1 hi2 hi3 hX hS hx hy hp hs ok g0 g1 g2 g3 bnd HZ Ht1 Ht2 Ht3 Ht4 Ht5 Ht6 Hz Bt2 Bt4 Bt6
  have HCL := hidb (And.intro hc (And.intro hr (And.intro hU (And.intro hV (And.intro hq0 (And.intro hq1 (And.intro hq2 hq3)))))))
  clear HCL hc hr hU hV hq0 hq1 hq2 hq3 j0 hc1 j1 hr1 j2 hr1' hk2 j3 hu hv huv
  go_enter Tryd.func13, Tryd.ntmps13
  obtain ⟨p0, p1, p2⟩ := F.out.pt
  go_upto_region 9 with fail
  generalize w.alloc (.cells #[.int .i64 x, .int .i64 y] 24) = wr9 at *
  have ix := I0.out
  have ce : wr9.cell? ⟨b, o + i0, none⟩ = some (.int .i64 q0) := L0.out wr9 F.out.sl
  go_quiet (fail)
  go_upto_region 12 with fail
  generalize hw : World.drewN wr9 _ = wr12
  replace F := hidb (F.out.drewN hw)
  clear hw p0 p1 p2 ix ce
  obtain ⟨p0, p1, p2⟩ := F.out.pt
  have ix := I1.out
  have ce : wr12.cell? ⟨b, o + i1, none⟩ = some (.int .i64 q1) := L1.out wr12 F.out.sl
  go_quiet (fail)
  go_upto_region 15 with fail
  generalize hw : World.drewN wr12 _ = wr15
  replace F := hidb (F.out.drewN hw)
  clear hw p0 p1 p2 ix ce
  obtain ⟨p0, p1, p2⟩ := F.out.pt
  have ix := I2.out
  have ce : wr15.cell? ⟨b, o + i2, none⟩ = some (.int .i64 q2) := L2.out wr15 F.out.sl
  go_quiet (fail)
  go_upto_region 18 with fail
  generalize hw : World.drewN wr15 _ = wr18
  replace F := hidb (F.out.drewN hw)
  clear hw p0 p1 p2 ix ce
  obtain ⟨p0, p1, p2⟩ := F.out.pt
  have ix := I3.out
  have ce : wr18.cell? ⟨b, o + i3, none⟩ = some (.int .i64 q3) := L3.out wr18 F.out.sl
  go_quiet (fail)
  go_wp2
  go_ret2
  exact ⟨rfl, F.out.gr.drewN _⟩
set_option maxRecDepth 4000 in
set_option maxHeartbeats 4000000 in
theorem groundAt_5 {pb po m n b o cap X S : Nat} {l : List Int} (x y u v : Int) (hx : x = (X : Int)) (hy : -y = (S : Int)) (w : World) (hp : PtR w pb po m n (.slice (some ⟨b, o, none⟩) l.length cap)) (hs : Rs w b o cap l) (ok : Ok l m n) (hX : X ≤ 256 * (m - 1)) (hS : S ≤ 256 * (n - 1)) (hU : u = ((X % 256 : Nat) : Int)) (hV : v = ((S % 256 : Nat) : Int)) (hu : 0 < u) (hv : 0 < v) (huv : ¬ v ≤ u) : Calls Tryd.prog 13 #[.pointer (some ⟨pb, po, none⟩), spV x y] w fun e w' => e = .returned (.tuple #[.int .i64 (gh l m n X S), .bool true]) ∧ Gr w w' := by
  have hm1 := ok.m1
  have hm2 := ok.m2
  have hn1 := ok.n1
  have hn2 := ok.n2
  have ll := ok.len_le
  obtain ⟨c, hc⟩ : ∃ c, c = X / 256 := ⟨_, rfl⟩
  obtain ⟨r, hr⟩ : ∃ c, c = S / 256 := ⟨_, rfl⟩
  have hcm : c < m := by omega
  have hrn : r < n := by omega
  obtain ⟨i0, hi0⟩ : ∃ i, i = r * m + c := ⟨_, rfl⟩
  obtain ⟨i1, hi1⟩ : ∃ i, i = i0 + 1 := ⟨_, rfl⟩
  obtain ⟨i2, hi2⟩ : ∃ i, i = (r + 1) * m + c := ⟨_, rfl⟩
  obtain ⟨i3, hi3⟩ : ∃ i, i = i2 + 1 := ⟨_, rfl⟩
  obtain ⟨q0, hq0⟩ : ∃ q, q = gl l i0 := ⟨_, rfl⟩
  obtain ⟨q1, hq1⟩ : ∃ q, q = gl l i1 := ⟨_, rfl⟩
  obtain ⟨q2, hq2⟩ : ∃ q, q = gl l i2 := ⟨_, rfl⟩
  obtain ⟨q3, hq3⟩ : ∃ q, q = gl l i3 := ⟨_, rfl⟩
  have g0 : hiI q0 := by rw [hq0]; exact ok.hi _
  have g1 : hiI q1 := by rw [hq1]; exact ok.hi _
  have g2 : hiI q2 := by rw [hq2]; exact ok.hi _
  have g3 : hiI q3 := by rw [hq3]; exact ok.hi _
  have bnd : 0 ≤ u ∧ u < 256 ∧ 0 ≤ v ∧ v < 256 := by omega
  have j0 : i0 < l.length := by rw [hi0]; exact ok.cell hcm hrn
  have hc1 : c + 1 < m := by omega
  have j1 : i1 < l.length := by rw [hi1, hi0, Nat.add_assoc]; exact ok.cell hc1 hrn
  have hr1 : r + 1 < n := by omega
  have j2 : i2 < l.length := by rw [hi2]; exact ok.cell hcm hr1
  have j3 : i3 < l.length := by rw [hi3, hi2, Nat.add_assoc]; exact ok.cell hc1 hr1
  obtain ⟨t1, Ht1, Et1⟩ : ∃ z : Int, z = 256 - v ∧ IntKind.i64.wrap (256 - v) = z := ⟨_, rfl, wrap_in (by omega) (by omega)⟩
  have Bt2 := mul_hi (x := 256 - v) (by omega) (by omega) g0
  rw [← Ht1] at Bt2
  obtain ⟨t2, Ht2, Et2⟩ : ∃ z : Int, z = q0 * t1 ∧ IntKind.i64.wrap (q0 * t1) = z := ⟨_, rfl, wrap_in (by omega) (by omega)⟩
  rw [← Ht2] at Bt2
  obtain ⟨t3, Ht3, Et3⟩ : ∃ z : Int, z = v - u ∧ IntKind.i64.wrap (v - u) = z := ⟨_, rfl, wrap_in (by omega) (by omega)⟩
  have Bt4 := mul_hi (x := v - u) (by omega) (by omega) g2
  rw [← Ht3] at Bt4
  obtain ⟨t4, Ht4, Et4⟩ : ∃ z : Int, z = q2 * t3 ∧ IntKind.i64.wrap (q2 * t3) = z := ⟨_, rfl, wrap_in (by omega) (by omega)⟩
  rw [← Ht4] at Bt4
  obtain ⟨t5, Ht5, Et5⟩ : ∃ z : Int, z = t2 + t4 ∧ IntKind.i64.wrap (t2 + t4) = z := ⟨_, rfl, wrap_in (by omega) (by omega)⟩
  have Bt6 := mul_hi (x := u) (by omega) (by omega) g3
  obtain ⟨t6, Ht6, Et6⟩ : ∃ z : Int, z = q3 * u ∧ IntKind.i64.wrap (q3 * u) = z := ⟨_, rfl, wrap_in (by omega) (by omega)⟩
  rw [← Ht6] at Bt6
  obtain ⟨z, Hz, Ez⟩ : ∃ z : Int, z = t5 + t6 ∧ IntKind.i64.wrap (t5 + t6) = z := ⟨_, rfl, wrap_in (by omega) (by omega)⟩
  have HZ : gh l m n X S = z := by
    unfold gh sq0 sq1 sq2 sq3
    rw [← hc, ← hr, ← hi0, ← hU, ← hV, ← hq0]
    unfold rise
    rw [show min (c + 1) (m - 1) = c + 1 by omega, show r * m + (c + 1) = i1 by omega, ← hq1, show min (r + 1) (n - 1) = r + 1 by omega, show (r + 1) * m + c = i2 by omega, ← hq2, show (r + 1) * m + (c + 1) = i3 by omega, ← hq3]
    rw [if_pos (by omega)]
    clear bnd
    rw [Hz, Ht5, Ht6, Ht2, Ht4, Ht1, Ht3]; grind
  rw [HZ]
  obtain ⟨t1', t3', t5', t7'⟩ := nat_q hx (show (256 : Int) = ((256 : Nat) : Int) from rfl) (by omega)
  obtain ⟨s, hs0⟩ : ∃ s : Int, s = (S : Int) := ⟨_, rfl⟩
  obtain ⟨t2', t4', t6', t8'⟩ := nat_q hs0 (show (256 : Int) = ((256 : Nat) : Int) from rfl) (by omega)
  have e0 : IntKind.i64.wrap (-y) = s := by rw [hy, hs0]; exact wrap_in (by omega) (by omega)
  rw [← hc] at t1' t5'
  rw [← hr] at t2' t6'
  rw [← hU] at t3' t7'
  rw [← hV] at t4' t8'
  have d1 : ¬ x < 0 := by omega
  have d2 : ¬ s < 0 := by omega
  obtain ⟨m1, hm1', e1⟩ : ∃ z : Int, z = (m : Int) - 1 ∧ IntKind.i64.wrap ((m : Int) - 1) = z := ⟨_, rfl, wrap_in (by omega) (by omega)⟩
  obtain ⟨n1, hn1', e3⟩ : ∃ z : Int, z = (n : Int) - 1 ∧ IntKind.i64.wrap ((n : Int) - 1) = z := ⟨_, rfl, wrap_in (by omega) (by omega)⟩
  obtain ⟨mm, hm3, e2⟩ : ∃ z : Int, z = 256 * m1 ∧ IntKind.i64.wrap (256 * m1) = z := ⟨_, rfl, wrap_in (by omega) (by omega)⟩
  obtain ⟨nn, hn3, e4⟩ : ∃ z : Int, z = 256 * n1 ∧ IntKind.i64.wrap (256 * n1) = z := ⟨_, rfl, wrap_in (by omega) (by omega)⟩
  have d3 : ¬ mm < x := by omega
  have d4 : ¬ nn < s := by omega
  obtain ⟨k0, hk0, w0⟩ : ∃ z : Int, z = ((r * m : Nat) : Int) ∧ IntKind.i64.wrap ((r : Int) * (m : Int)) = z := ⟨_, rfl, by rw [← Int.natCast_mul]; exact wrap_in (by omega) (by omega)⟩
  have w1 : IntKind.i64.wrap (k0 + (c : Int)) = (i0 : Int) := by rw [show k0 + (c : Int) = (i0 : Int) by omega]; exact wrap_in (by omega) (by omega)
  have w2 : IntKind.i64.wrap ((i0 : Int) + 1) = (i1 : Int) := by rw [show (i0 : Int) + 1 = (i1 : Int) by omega]; exact wrap_in (by omega) (by omega)
  obtain ⟨r1, hr1', w3⟩ : ∃ z : Int, z = ((r + 1 : Nat) : Int) ∧ IntKind.i64.wrap ((r : Int) + 1) = z := ⟨_, rfl, wrap_in (by omega) (by omega)⟩
  obtain ⟨k2, hk2, w4⟩ : ∃ z : Int, z = (((r + 1) * m : Nat) : Int) ∧ IntKind.i64.wrap (r1 * (m : Int)) = z := ⟨_, rfl, by rw [hr1', ← Int.natCast_mul]; exact wrap_in (by omega) (by omega)⟩
  have w5 : IntKind.i64.wrap (k2 + (c : Int)) = (i2 : Int) := by rw [show k2 + (c : Int) = (i2 : Int) by omega]; exact wrap_in (by omega) (by omega)
  have w6 : IntKind.i64.wrap ((i2 : Int) + 1) = (i3 : Int) := by rw [show (i2 : Int) + 1 = (i3 : Int) by omega]; exact wrap_in (by omega) (by omega)
  have I0 := hidb (iindex b o l.length cap i0 j0)
  have L0 : Hid (∀ W : World, Rs W b o cap l → W.cell? ⟨b, o + i0, none⟩ = some (.int .i64 q0)) := fun W hR => by rw [hq0]; exact hR.get j0
  have I1 := hidb (iindex b o l.length cap i1 j1)
  have L1 : Hid (∀ W : World, Rs W b o cap l → W.cell? ⟨b, o + i1, none⟩ = some (.int .i64 q1)) := fun W hR => by rw [hq1]; exact hR.get j1
  have I2 := hidb (iindex b o l.length cap i2 j2)
  have L2 : Hid (∀ W : World, Rs W b o cap l → W.cell? ⟨b, o + i2, none⟩ = some (.int .i64 q2)) := fun W hR => by rw [hq2]; exact hR.get j2
  have I3 := hidb (iindex b o l.length cap i3 j3)
  have L3 : Hid (∀ W : World, Rs W b o cap l → W.cell? ⟨b, o + i3, none⟩ = some (.int .i64 q3)) := fun W hR => by rw [hq3]; exact hR.get j3
  have F := hidb (RF.new x y 24 hp hs)
  have c1 : 0 < u := hu
  have c2 : 0 < v := hv
  have c3 : ¬ v ≤ u := huv
  have c4 : ¬ u = 0 := by omega
  have f0 : (u : Int) = u := rfl
  clear f0 hs0 hm1' hn1' hm3 hn3 hk0 hm1 hm2 hn1 hn2 ll hcm hrn hi0 hi1 hi2 hi3 hX hS hx hy hp hs ok g0 g1 g2 g3 bnd HZ Ht1 Ht2 Ht3 Ht4 Ht5 Ht6 Hz Bt2 Bt4 Bt6
  have HCL := hidb (And.intro hc (And.intro hr (And.intro hU (And.intro hV (And.intro hq0 (And.intro hq1 (And.intro hq2 hq3)))))))
  clear HCL hc hr hU hV hq0 hq1 hq2 hq3 j0 hc1 j1 hr1 j2 hr1' hk2 j3 hu hv huv
  go_enter Tryd.func13, Tryd.ntmps13
  obtain ⟨p0, p1, p2⟩ := F.out.pt
  go_upto_region 9 with fail
  generalize w.alloc (.cells #[.int .i64 x, .int .i64 y] 24) = wr9 at *
  have ix := I0.out
  have ce : wr9.cell? ⟨b, o + i0, none⟩ = some (.int .i64 q0) := L0.out wr9 F.out.sl
  go_quiet (fail)
  go_upto_region 12 with fail
  generalize hw : World.drewN wr9 _ = wr12
  replace F := hidb (F.out.drewN hw)
  clear hw p0 p1 p2 ix ce
  obtain ⟨p0, p1, p2⟩ := F.out.pt
  have ix := I1.out
  have ce : wr12.cell? ⟨b, o + i1, none⟩ = some (.int .i64 q1) := L1.out wr12 F.out.sl
  go_quiet (fail)
  go_upto_region 15 with fail
  generalize hw : World.drewN wr12 _ = wr15
  replace F := hidb (F.out.drewN hw)
  clear hw p0 p1 p2 ix ce
  obtain ⟨p0, p1, p2⟩ := F.out.pt
  have ix := I2.out
  have ce : wr15.cell? ⟨b, o + i2, none⟩ = some (.int .i64 q2) := L2.out wr15 F.out.sl
  go_quiet (fail)
  go_upto_region 18 with fail
  generalize hw : World.drewN wr15 _ = wr18
  replace F := hidb (F.out.drewN hw)
  clear hw p0 p1 p2 ix ce
  obtain ⟨p0, p1, p2⟩ := F.out.pt
  have ix := I3.out
  have ce : wr18.cell? ⟨b, o + i3, none⟩ = some (.int .i64 q3) := L3.out wr18 F.out.sl
  go_quiet (fail)
  go_wp2
  go_ret2
  exact ⟨rfl, F.out.gr.drewN _⟩
end Go.Proofs.YtpdiefmmenfpaaaDoor
