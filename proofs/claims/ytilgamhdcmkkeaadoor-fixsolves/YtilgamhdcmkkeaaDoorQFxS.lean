/-
  mercatorref3.Solved, whole.
-/
import Derived.Test.YtilgamhdcmkkeaaDoorQFxR
import Derived.Test.YtilgamhdcmkkeaaDoorQJ8
namespace Go.Proofs.YtilgamhdcmkkeaaDoor
open Go.RowKit BG
attribute [local go_sem ↓] Go.wp_at_zero Go.wp_at_succ

/-- What the sums are below. -/
structure Brs (z0 z1 z2 z3 z4 : Int) : Prop where
  b0 : Br z0
  b1 : Br z1
  b2 : Br z2
  b3 : Br z3
  b4 : Br z4
  m02 : Br (z0 * z2)
  m11 : Br (z1 * z1)
  m32 : Br (z3 * z2)
  m41 : Br (z4 * z1)
  m04 : Br (z0 * z4)
  m13 : Br (z1 * z3)
theorem sums_br {l : List Rg} (hok : ∀ r ∈ l, okR r) (ll : l.length ≤ 70) : Brs (sm (difs l) 0 0) (sm (difs l) 0 1) (sm (difs l) 1 1) (sm (difs l) 0 2) (sm (difs l) 1 2) := by
  have h : ∀ i j, (sm (difs l) i j).natAbs < 2 ^ 116 := fun i j => Nat.lt_of_le_of_lt (sm_bd (fun e he => difs_sme hok e he) i j) (Nat.lt_of_le_of_lt (Nat.mul_le_mul_right _ (show _ ≤ 70 by have := difs_len l; omega)) (by decide))
  have b := fun i j => br_lt (h i j) (by decide)
  have m := fun i j i' j' => br_lt (br_mul (h i j) (h i' j')) (by decide)
  exact ⟨b _ _, b _ _, b _ _, b _ _, b _ _, m _ _ _ _, m _ _ _ _, m _ _ _ _, m _ _ _ _, m _ _ _ _, m _ _ _ _⟩
theorem sm_comm (l : List Rg) (i j : Nat) : sm l i j = sm l j i := by unfold sm; congr 1; exact List.map_congr_left fun e _ => Int.mul_comm _ _
theorem sol_vals (l : List Rg) : sOv l = sm (difs l) 0 0 * sm (difs l) 1 1 - sm (difs l) 0 1 * sm (difs l) 0 1 ∧ sX l = sm (difs l) 0 2 * sm (difs l) 1 1 - sm (difs l) 1 2 * sm (difs l) 0 1 ∧ sY l = sm (difs l) 0 0 * sm (difs l) 1 2 - sm (difs l) 0 1 * sm (difs l) 0 2 := by
  have e : ∀ t, t < 9 → (sms (difs l)).getD t 0 = sm (difs l) (t / 3) (t % 3) := by intro t ht; simp [sms, ht]
  have c := sm_comm (difs l) 1 0
  refine ⟨?_, ?_, ?_⟩
  · unfold sOv crs; rw [e 0 (by omega), e 4 (by omega), e 1 (by omega), e 3 (by omega)]; simp only [Nat.reduceDiv, Nat.reduceMod, c]
  · unfold sX crs; rw [e 2 (by omega), e 4 (by omega), e 1 (by omega), e 5 (by omega)]; simp only [Nat.reduceDiv, Nat.reduceMod, Int.mul_comm]
  · unfold sY crs; rw [e 0 (by omega), e 5 (by omega), e 2 (by omega), e 3 (by omega)]; simp only [Nat.reduceDiv, Nat.reduceMod, c]; rw [Int.mul_comm (sm (difs l) 0 2)]
theorem sg_alloc {W : World} {m : Bool} {v : Value} {x : Int} (h : Sg W m v x) (o : Obj) : Sg (W.alloc o) m v x := h.below ((Below.refl _ _).alloc (Nat.le_refl _) o)
/-- What a region keeps. -/
structure Kq (Q : World → Prop) (M : Nat) : Prop where
  below : ∀ {W w' : World}, Below W.heap.size W w' → Q W → Q w'
  skip : ∀ {W : World} {C : Nat} {m' : Bool} {u : Value}, Q W → At W C [.bool m', u] → M ≤ C → ∀ (n : Bool) (v : Value), Q ((W.setCell ⟨C, 0, none⟩ (.bool n)).setCell ⟨C, 1, none⟩ v)
structure Ev (Q : World → Prop) (M : Nat) (w : World) (S : Nat) (m : Nat → Bool) (ad : Nat → Option Addr) (L cap : Nat → Nat) (z : Nat → Int) (W : World) : Prop where
  rs : Rs W w S (z 0) (z 1) (z 2) (z 3) (z 4)
  x0 : Ac W (S + 1 + 1 + 1) (m 0) (ad 0) (L 0) (cap 0) (z 0)
  x1 : Ac W (S + 1 + 1 + 1 + 1) (m 1) (ad 1) (L 1) (cap 1) (z 1)
  x2 : Ac W (S + 1 + 1 + 1 + 1 + 1) (m 2) (ad 2) (L 2) (cap 2) (z 2)
  x3 : Ac W (S + 1 + 1 + 1 + 1 + 1 + 1) (m 3) (ad 3) (L 3) (cap 3) (z 3)
  x4 : Ac W (S + 1 + 1 + 1 + 1 + 1 + 1 + 1) (m 4) (ad 4) (L 4) (cap 4) (z 4)
  lo : S + 1 + 1 + 1 + 1 + 1 + 1 + 1 < M
  hi : M ≤ W.heap.size
  q : Q W
section
variable {Q : World → Prop} {M : Nat} {w : World} {S : Nat} {m : Nat → Bool} {ad : Nat → Option Addr} {L cap : Nat → Nat} {z : Nat → Int} {W w' : World}
theorem Ev.below (K : Kq Q M) (hB : Below W.heap.size W w') (h : Ev Q M w S m ad L cap z W) : Ev Q M w S m ad L cap z w' :=
  ⟨h.rs.below hB, h.x0.below hB, h.x1.below hB, h.x2.below hB, h.x3.below hB, h.x4.below hB, h.lo, Nat.le_trans h.hi hB.size, K.below hB h.q⟩
theorem Ev.alloc (h : Ev Q M w S m ad L cap z W) (K : Kq Q M) (o : Obj) : Ev Q M w S m ad L cap z (W.alloc o) := h.below K ((Below.refl _ _).alloc (Nat.le_refl _) o)
theorem Ev.drew (h : Ev Q M w S m ad L cap z W) (K : Kq Q M) : Ev Q M w S m ad L cap z W.drew := h.below K (Below.refl _ _).drew
theorem Ev.skip (h : Ev Q M w S m ad L cap z W) (K : Kq Q M) {C : Nat} {m' : Bool} {u : Value} (hA : At W C [.bool m', u]) (hC : M ≤ C) (n : Bool) (v : Value) : Ev Q M w S m ad L cap z ((W.setCell ⟨C, 0, none⟩ (.bool n)).setCell ⟨C, 1, none⟩ v) := by
  have lo := h.lo
  exact ⟨h.rs.skip hA (by omega) n v, h.x0.skip hA (by omega) n v, h.x1.skip hA (by omega) n v, h.x2.skip hA (by omega) n v, h.x3.skip hA (by omega) n v, h.x4.skip hA (by omega) n v, h.lo, by simpa using h.hi, K.skip h.q hA hC n v⟩
theorem Ev.withQ {Q' : World → Prop} (h : Ev Q' M w S m ad L cap z W) (hq : Q W) : Ev Q M w S m ad L cap z W := ⟨h.rs, h.x0, h.x1, h.x2, h.x3, h.x4, h.lo, h.hi, hq⟩
theorem ev_of {z0 z1 z2 z3 z4 : Int} (h : Rs W w S z0 z1 z2 z3 z4) : ∃ (m : Nat → Bool) (ad : Nat → Option Addr) (L cp : Nat → Nat) (z : Nat → Int) (M : Nat), M = W.heap.size ∧ z0 = z 0 ∧ z1 = z 1 ∧ z2 = z 2 ∧ z3 = z 3 ∧ z4 = z 4 ∧ S + 1 + 1 + 1 + 1 + 1 + 1 + 1 < M ∧ Ev (fun _ => True) M w S m ad L cp z W := by
  obtain ⟨m0, a0, L0, c0, h0⟩ := h.a0
  obtain ⟨m1, a1, L1, c1, h1⟩ := h.a1
  obtain ⟨m2, a2, L2, c2, h2⟩ := h.a2
  obtain ⟨m3, a3, L3, c3, h3⟩ := h.a3
  obtain ⟨m4, a4, L4, c4, h4⟩ := h.a4
  refine ⟨fun i => [m0, m1, m2, m3, m4].getD i false, fun i => [a0, a1, a2, a3, a4].getD i none, fun i => [L0, L1, L2, L3, L4].getD i 0, fun i => [c0, c1, c2, c3, c4].getD i 0, fun i => [z0, z1, z2, z3, z4].getD i 0, W.heap.size, rfl, rfl, rfl, rfl, rfl, rfl, h4.at_.lt, ?_⟩
  exact ⟨h, h0, h1, h2, h3, h4, h4.at_.lt, Nat.le_refl _, trivial⟩
end
theorem difs_len2 (l : List Rg) : (difs l).length = l.length - 1 := by cases l <;> simp [difs]
set_option maxRecDepth 8000 in
set_option maxHeartbeats 32000000 in
theorem solved_any (ad : Option Addr) (b o cap : Nat) (l : List Rg) (w : World) (h : RSo w ad b o cap l) (ll : l.length ≤ 70) (hok : ∀ r ∈ l, okR r) : Calls Tryd.prog 12 #[.slice ad l.length cap] w fun e w' => ∃ m1 m2 m3 v1 v2 v3, e = .returned (.tuple #[.agg #[.bool m1, v1], .agg #[.bool m2, v2], .agg #[.bool m3, v3], .bool (decide (¬ sOv l = 0))]) ∧ Sg w' m1 v1 (sX l) ∧ Sg w' m2 v2 (sY l) ∧ Sg w' m3 v3 (sOv l) ∧ Gr w w' := by
  have HR := hidb h
  have HO := hidb hok
  clear h hok
  have R0 := hidb (Rs.init w 38)
  go_enter Tryd.func12, Tryd.ntmps12
  go_wp2
  generalize hS : w.heap.size = S at *
  clear hS
  go_loopw [11] (fun t wr => ∃ (k : Nat), k ≤ (difs l).length ∧ t = .int .i64 ((k : Int) + 1) ∧ Hid (Rs wr w S (sm ((difs l).take k) 0 0) (sm ((difs l).take k) 0 1) (sm ((difs l).take k) 1 1) (sm ((difs l).take k) 0 2) (sm ((difs l).take k) 1 2))) (fun t _ => l.length + 1 - (intOf t).toNat)
  case atStart => exact ⟨0, Nat.zero_le _, rfl, R0.out⟩
  case round =>
    clear R0
    obtain ⟨k, hk, rfl, HS⟩ := hrel
    by_cases h1 : k + 1 < l.length
    · obtain ⟨hk1, hdk⟩ := difs_at h1
      obtain ⟨c0, c1, c2⟩ := (HR.out.below HS.out.gr.out).cell h1
      obtain ⟨d0, d1, d2⟩ := (HR.out.below HS.out.gr.out).cell (k := 0) (by omega)
      have ix := HR.out.ix (k + 1) h1
      have ix0 := HR.out.ix 0 (by omega)
      have o1 := HO.out l[k + 1] (List.getElem_mem h1)
      have o0 := HO.out (l[0]'(by omega)) (List.getElem_mem _)
      have HT : Hid ((difs l).take (k + 1) = (difs l).take k ++ [(difs l)[k]]) := List.take_succ_eq_append_getElem hk1
      rw [hdk] at HT
      have SL : Hid (∀ i j, (sm ((difs l).take k) i j).natAbs ≤ 70 * 2 ^ 108) := fun i j => Nat.le_trans (sm_bd (fun e he => difs_sme HO.out e (List.mem_of_mem_take he)) i j) (Nat.mul_le_mul_right _ (by rw [List.length_take]; have := difs_len l; omega))
      obtain ⟨r, hr⟩ : ∃ r, r = l[k + 1] := ⟨_, rfl⟩
      obtain ⟨f, hf⟩ : ∃ f, f = l[0]'(by omega) := ⟨_, rfl⟩
      rw [← hr] at c0 c1 c2 HT o1
      rw [← hf] at d0 d1 d2 HT o0
      have HRk := hidb hr
      have HF0 := hidb hf
      have HK1 := hidb hk1
      clear hr hf hdk hk1
      obtain ⟨X, Y, Z, dx, dy, rx, ry, rs, rt, fx, fy, fs, ft, hd, hsm, e1, e2, e3, e4, e5, e6, e7, e8, e9, e10, e11, e12, e13⟩ := sol_words o0 o1
      rw [hd] at HT
      clear hd o0 o1
      obtain ⟨lk, hlk⟩ : ∃ lk, lk = (difs l).take k := ⟨_, rfl⟩
      rw [← hlk] at HS HT SL
      have HLk := hidb hlk
      clear hlk
      rw [Int.natCast_add] at ix
      simp only [Nat.zero_mul, Nat.add_zero, Int.natCast_zero] at d0 d1 d2 ix0
      simp only [Int.natCast_one] at ix
      have hwx : Wd X := by unfold Wd; unfold Sme at hsm; dsimp only at hsm; omega
      have hwy : Wd Y := by unfold Wd; unfold Sme at hsm; dsimp only at hsm; omega
      have hwz : Wd Z := by unfold Wd; unfold Sme at hsm; dsimp only at hsm; omega
      have hnx : ¬ X = -9223372036854775808 := by unfold Sme at hsm; dsimp only at hsm; omega
      have hny : ¬ Y = -9223372036854775808 := by unfold Sme at hsm; dsimp only at hsm; omega
      have hnz : ¬ Z = -9223372036854775808 := by unfold Sme at hsm; dsimp only at hsm; omega
      have HSm := hidb hsm
      clear hsm
      have hbl : b < wr.heap.size := lt_of_cell c0
      have nb : ¬ b = wr.heap.size := by omega
      have nb1 : ¬ b = wr.heap.size + 1 := by omega
      have OA := (At.new2 wr (.int .i64 f.x) (.int .i64 f.y) 45).alloc (.cells #[.int .i64 r.x, .int .i64 r.y] 45)
      have PA := At.nx2 (W := wr) (.cells #[.int .i64 f.x, .int .i64 f.y] 45) (.int .i64 r.x) (.int .i64 r.y) 45
      have HS2 := (HS.out.alloc (.cells #[.int .i64 f.x, .int .i64 f.y] 45)).alloc (.cells #[.int .i64 r.x, .int .i64 r.y] 45)
      obtain ⟨O, hO⟩ : ∃ O, O = wr.heap.size := ⟨_, rfl⟩
      have hSO : S + 1 + 1 + 1 + 1 + 1 + 1 + 1 < O := by rw [hO]; obtain ⟨_, _, _, _, hq⟩ := HS.out.a4; exact hq.at_.lt
      rw [← hO] at OA PA
      obtain ⟨p0, p1⟩ := PA.c2
      obtain ⟨o0, o1⟩ := OA.c2
      rw [hO] at p0 p1 o0 o1
      go_wp2_with fail
      rw [← hO]
      clear hO nb nb1 p0 p1 o0 o1 c0 c1 c2 d0 d1 d2 hbl HS
      generalize (wr.alloc (.cells #[.int .i64 f.x, .int .i64 f.y] 45)).alloc (.cells #[.int .i64 r.x, .int .i64 r.y] 45) = w2 at *
      refine (ofS' X hwx hnx w2).mono ?_
      rintro e w3 ⟨ma, va, rfl, ha, hB, _⟩
      obtain ⟨ada, capa, hfa⟩ := ha.form'
      subst hfa
      generalize (dn X.natAbs).length = La at *
      replace HS2 := HS2.below hB
      replace OA := At.below hB OA
      replace PA := At.below hB PA
      clear hB
      obtain ⟨A, hA⟩ : ∃ A, A = w3.heap.size := ⟨_, rfl⟩
      have hOA : O + 1 < A := by rw [hA]; exact PA.lt
      have AA : Ac (w3.alloc (.cells #[.bool ma, .slice ada La capa] 38)) A ma ada La capa X := ⟨At.new2e hA _ _ _, ha.below ((Below.refl _ _).alloc (Nat.le_refl _) _)⟩
      replace HS2 := HS2.alloc (.cells #[.bool ma, .slice ada La capa] 38)
      replace OA := OA.alloc (.cells #[.bool ma, .slice ada La capa] 38)
      replace PA := PA.alloc (.cells #[.bool ma, .slice ada La capa] 38)
      clear ha
      obtain ⟨p0, p1⟩ := PA.c2
      obtain ⟨o0, o1⟩ := OA.c2
      go_wp2_with fail
      rw [← hA]
      clear hA p0 p1 o0 o1
      generalize w3.alloc (.cells #[.bool ma, .slice ada La capa] 38) = w4 at *
      refine (ofS' Y hwy hny w4).mono ?_
      rintro e w5 ⟨mb, vb, rfl, hb, hB, _⟩
      obtain ⟨adb, capb, hfb⟩ := hb.form'
      subst hfb
      generalize (dn Y.natAbs).length = Lb at *
      replace HS2 := HS2.below hB
      replace OA := At.below hB OA
      replace PA := At.below hB PA
      replace AA := AA.below hB
      clear hB
      obtain ⟨B, hBe⟩ : ∃ B, B = w5.heap.size := ⟨_, rfl⟩
      have hAB : A < B := by rw [hBe]; exact AA.at_.lt
      have AB : Ac (w5.alloc (.cells #[.bool mb, .slice adb Lb capb] 38)) B mb adb Lb capb Y := ⟨At.new2e hBe _ _ _, hb.below ((Below.refl _ _).alloc (Nat.le_refl _) _)⟩
      replace HS2 := HS2.alloc (.cells #[.bool mb, .slice adb Lb capb] 38)
      replace OA := OA.alloc (.cells #[.bool mb, .slice adb Lb capb] 38)
      replace PA := PA.alloc (.cells #[.bool mb, .slice adb Lb capb] 38)
      replace AA := AA.alloc (.cells #[.bool mb, .slice adb Lb capb] 38)
      clear hb
      obtain ⟨p0, p1⟩ := PA.c2
      obtain ⟨o0, o1⟩ := OA.c2
      go_upto_region 13 with fail
      rw [← hBe]
      clear hBe p0 p1 o0 o1
      generalize w5.alloc (.cells #[.bool mb, .slice adb Lb capb] 38) = w6 at *
      go_cut [16] from 54 to 88 (fun s16 wx => ∃ C mc adc Lc capc, s16 = .pointer (some ⟨C, 0, none⟩) ∧ Ac wx C mc adc Lc capc Z ∧ Ac wx A ma ada La capa X ∧ Ac wx B mb adb Lb capb Y ∧ Rs wx w S (sm lk 0 0) (sm lk 0 1) (sm lk 1 1) (sm lk 0 2) (sm lk 1 2) ∧ B < C)
      case first =>
        obtain ⟨c0, c1, c2⟩ := (HR.out.below HS2.gr.out).cell h1
        obtain ⟨d0, d1, d2⟩ := (HR.out.below HS2.gr.out).cell (k := 0) (by omega)
        rw [← HRk.out] at c2
        rw [← HF0.out] at d2
        simp only [Nat.zero_mul, Nat.add_zero] at d2
        clear c0 c1 d0 d1
        have hB6 := AB.at_.lt
        have hbl : b < w6.heap.size := lt_of_cell d2
        have nb : ¬ b = w6.heap.size := by omega
        go_region_held3 (fun w' => (w'.cell? ⟨O, 0, none⟩ = some (.int .i64 f.x) ∧ w'.cell? ⟨O, 1, none⟩ = some (.int .i64 f.y)) ∧ (w'.cell? ⟨O + 1, 0, none⟩ = some (.int .i64 r.x) ∧ w'.cell? ⟨O + 1, 1, none⟩ = some (.int .i64 r.y)) ∧ w'.cell? ⟨b, o + 2, none⟩ = some (.int .i64 f.q) ∧ w'.cell? ⟨b, o + (k + 1) * 3 + 2, none⟩ = some (.int .i64 r.q))
          (first | exact ⟨OA.c2, PA.c2, d2, c2⟩ | exact ⟨(OA.alloc _).c2, (PA.alloc _).c2, keepA d2 _, keepA c2 _⟩ | exact ⟨(OA.skip2 (by omega) _ _).c2, (PA.skip2 (by omega) _ _).c2, keepS d2 (by omega) _ _, keepS c2 (by omega) _ _⟩)
          ((go_at_call 29; refine (ofS' Z hwz hnz _).mono ?_; rintro e w7 ⟨mc, vc, rfl, hc, hB7, hs7⟩; (with_reducible first | have NA := At.below hB7 (At.new2d' _ _ _ _) | have NA := At.below hB7 (At.drew (At.new2 _ _ _ _)) | have NA := At.below hB7 (At.new2 _ _ _ _) | skip); (try simp at hs7); have hz7 : w6.heap.size < w7.heap.size := (by omega); replace AA : Ac w7 A ma ada La capa X := Ac.below hB7 (by first | exact AA | exact AA.drew | exact AA.alloc _ | exact AA.drew.alloc _); replace AB : Ac w7 B mb adb Lb capb Y := Ac.below hB7 (by first | exact AB | exact AB.drew | exact AB.alloc _ | exact AB.drew.alloc _); replace HS2 : Rs w7 w S (sm lk 0 0) (sm lk 0 1) (sm lk 1 1) (sm lk 0 2) (sm lk 1 2) := Rs.below hB7 (by first | exact HS2 | exact HS2.drew | exact HS2.alloc _ | exact HS2.drew.alloc _); replace OA : At w7 O [.int .i64 f.x, .int .i64 f.y] := At.below hB7 (by first | exact OA | exact OA.drew | exact OA.alloc _ | exact OA.drew.alloc _); replace PA : At w7 (O + 1) [.int .i64 r.x, .int .i64 r.y] := At.below hB7 (by first | exact PA | exact PA.drew | exact PA.alloc _ | exact PA.drew.alloc _); clear c2 d2; obtain ⟨_, _, c2⟩ := (HR.out.below HS2.gr.out).cell h1; rw [← HRk.out] at c2; obtain ⟨_, _, d2⟩ := (HR.out.below HS2.gr.out).cell (k := 0) (by omega); rw [← HF0.out] at d2; simp only [Nat.zero_mul, Nat.add_zero] at d2; obtain ⟨adc, capc, hfc⟩ := hc.form'; rw [hfc] at hc ⊢; have HZ := hidb hc; clear hc hfc; (first | (obtain ⟨n0, n1⟩ := NA.c2; obtain ⟨n2, n3⟩ := NA.f2; have NH := NA.has (n := 2) rfl) | skip)))
        all_goals
          go_wp2_with fail
          go_meet
          refine ⟨_, mc, adc, (dn Z.natAbs).length, capc, rfl, ?_, ?_, ?_, ?_, ?_⟩
        all_goals first
          | exact ⟨At.new2 _ _ _ _, HZ.out.below ((Below.refl _ _).alloc (Nat.le_refl _) _)⟩
          | exact AA.alloc _
          | exact AB.alloc _
          | exact HS2.alloc _
          | exact Ac.put NA HZ.out
          | exact AA.skip NA (by omega) _ _
          | exact AB.skip NA (by omega) _ _
          | exact HS2.skip NA (by omega) _ _
          | omega
      case rest =>
        clear AA AB HS2 OA PA
        obtain ⟨C, mc, adc, Lc, capc, rfl, AC, AA, AB, HS2, hBC⟩ := hcut
        have BX : Hid (Br X) := br_lt (k := 54) HSm.out.1 (by decide)
        have BY : Hid (Br Y) := br_lt (k := 54) HSm.out.2.1 (by decide)
        have BZ : Hid (Br Z) := br_lt (k := 54) HSm.out.2.2 (by decide)
        have BS : Hid (∀ i j, (sm lk i j).natAbs ≤ 4 * lid) := fun i j => lid_le (SL.out i j)
        have BP : Hid (∀ x y : Int, x.natAbs < 2 ^ 54 → y.natAbs < 2 ^ 54 → (x * y).natAbs ≤ 4 * lid) := fun x y hx hy => lid_le (Nat.le_trans (Nat.le_of_lt (br_mul hx hy)) (by decide))
        obtain ⟨mq, adq, Lq, capq, XA⟩ := HS2.a0
        go_upto_region 14 with fail
        go_cut [16] from 89 to 93 (fun s16 wx => s16 = .pointer (some ⟨C, 0, none⟩) ∧ Ac wx C mc adc Lc capc Z ∧ Ac wx A ma ada La capa X ∧ Ac wx B mb adb Lb capb Y ∧ Rs wx w S (sm lk 0 0 + X * X) (sm lk 0 1) (sm lk 1 1) (sm lk 0 2) (sm lk 1 2))
        case first =>
         as_aux_lemma =>
          obtain ⟨x0, x1⟩ := XA.at_.c2; obtain ⟨x2, x3⟩ := XA.at_.f2; obtain ⟨y0, y1⟩ := AA.at_.c2; obtain ⟨y2, y3⟩ := AA.at_.c2
          go_region_law ((first
            | (go_simp; go_at_call 31; refine (mulS' (w := ?_) ?gh ?gk BX.out BX.out).mono ?_; (case gh => first | exact AA.sg | exact AA.sg.drew); (case gk => first | exact AA.sg | exact AA.sg.drew); rintro e w8 ⟨m8, v8, rfl, h8, hB8, _⟩; (with_reducible first | replace hB8 := undr hB8 | skip); replace AA := AA.below hB8; replace AB := AB.below hB8; replace AC := AC.below hB8; replace HS2 := HS2.below hB8; replace XA := XA.below hB8; have H8 := hidb h8; clear h8 hB8 x0 x1 x2 x3 y0 y1 y2 y3; obtain ⟨x0, x1⟩ := XA.at_.c2; obtain ⟨x2, x3⟩ := XA.at_.f2; obtain ⟨y0, y1⟩ := AA.at_.c2; obtain ⟨y2, y3⟩ := AA.at_.c2)
            | (go_simp; go_at_call 30; refine (signedAdd_any (BS.out 0 0) (BP.out X X HSm.out.1 HSm.out.1) XA.sg H8.out).mono ?_; rintro e w9 ⟨m9, v9, rfl, h9, hB9, _⟩; (with_reducible first | replace hB9 := undr hB9 | skip); replace AA := AA.below hB9; replace AB := AB.below hB9; replace AC := AC.below hB9; replace HS2 := HS2.below hB9; replace XA := XA.below hB9; obtain ⟨ad9, cap9, hf9⟩ := h9.form'; rw [hf9] at h9 ⊢; have H9 := hidb h9; clear h9 hB9 hf9 x0 x1 x2 x3 y0 y1 y2 y3; obtain ⟨x0, x1⟩ := XA.at_.c2; obtain ⟨x2, x3⟩ := XA.at_.f2; obtain ⟨y0, y1⟩ := AA.at_.c2; obtain ⟨y2, y3⟩ := AA.at_.c2)))
          all_goals
            clear x0 x1 x2 x3 y0 y1 y2 y3
            go_wp2_with fail
            go_meet
            exact ⟨rfl, AC.skip XA.at_ (by omega) _ _, AA.skip XA.at_ (by omega) _ _, AB.skip XA.at_ (by omega) _ _, HS2.put0 H9.out⟩
        case rest =>
          clear AA AB AC HS2 XA
          obtain ⟨rfl, AC, AA, AB, HS2⟩ := hcut
          obtain ⟨mq, adq, Lq, capq, XA⟩ := HS2.a1
          go_upto_region 15 with fail
          go_cut [16] from 94 to 98 (fun s16 wx => s16 = .pointer (some ⟨C, 0, none⟩) ∧ Ac wx C mc adc Lc capc Z ∧ Ac wx A ma ada La capa X ∧ Ac wx B mb adb Lb capb Y ∧ Rs wx w S (sm lk 0 0 + X * X) (sm lk 0 1 + X * Y) (sm lk 1 1) (sm lk 0 2) (sm lk 1 2))
          case first =>
           as_aux_lemma =>
            obtain ⟨x0, x1⟩ := XA.at_.c2; obtain ⟨x2, x3⟩ := XA.at_.f2; obtain ⟨y0, y1⟩ := AA.at_.c2; obtain ⟨y2, y3⟩ := AB.at_.c2
            go_region_law ((first
              | (go_simp; go_at_call 31; refine (mulS' (w := ?_) ?gh ?gk BX.out BY.out).mono ?_; (case gh => first | exact AA.sg | exact AA.sg.drew); (case gk => first | exact AB.sg | exact AB.sg.drew); rintro e w8 ⟨m8, v8, rfl, h8, hB8, _⟩; (with_reducible first | replace hB8 := undr hB8 | skip); replace AA := AA.below hB8; replace AB := AB.below hB8; replace AC := AC.below hB8; replace HS2 := HS2.below hB8; replace XA := XA.below hB8; have H8 := hidb h8; clear h8 hB8 x0 x1 x2 x3 y0 y1 y2 y3; obtain ⟨x0, x1⟩ := XA.at_.c2; obtain ⟨x2, x3⟩ := XA.at_.f2; obtain ⟨y0, y1⟩ := AA.at_.c2; obtain ⟨y2, y3⟩ := AB.at_.c2)
              | (go_simp; go_at_call 30; refine (signedAdd_any (BS.out 0 1) (BP.out X Y HSm.out.1 HSm.out.2.1) XA.sg H8.out).mono ?_; rintro e w9 ⟨m9, v9, rfl, h9, hB9, _⟩; (with_reducible first | replace hB9 := undr hB9 | skip); replace AA := AA.below hB9; replace AB := AB.below hB9; replace AC := AC.below hB9; replace HS2 := HS2.below hB9; replace XA := XA.below hB9; obtain ⟨ad9, cap9, hf9⟩ := h9.form'; rw [hf9] at h9 ⊢; have H9 := hidb h9; clear h9 hB9 hf9 x0 x1 x2 x3 y0 y1 y2 y3; obtain ⟨x0, x1⟩ := XA.at_.c2; obtain ⟨x2, x3⟩ := XA.at_.f2; obtain ⟨y0, y1⟩ := AA.at_.c2; obtain ⟨y2, y3⟩ := AB.at_.c2)))
            all_goals
              clear x0 x1 x2 x3 y0 y1 y2 y3
              go_wp2_with fail
              go_meet
              exact ⟨rfl, AC.skip XA.at_ (by omega) _ _, AA.skip XA.at_ (by omega) _ _, AB.skip XA.at_ (by omega) _ _, HS2.put1 H9.out⟩
          case rest =>
            clear AA AB AC HS2 XA
            obtain ⟨rfl, AC, AA, AB, HS2⟩ := hcut
            obtain ⟨mq, adq, Lq, capq, XA⟩ := HS2.a2
            go_upto_region 16 with fail
            go_cut [16] from 99 to 103 (fun s16 wx => s16 = .pointer (some ⟨C, 0, none⟩) ∧ Ac wx C mc adc Lc capc Z ∧ Ac wx A ma ada La capa X ∧ Ac wx B mb adb Lb capb Y ∧ Rs wx w S (sm lk 0 0 + X * X) (sm lk 0 1 + X * Y) (sm lk 1 1 + Y * Y) (sm lk 0 2) (sm lk 1 2))
            case first =>
             as_aux_lemma =>
              obtain ⟨x0, x1⟩ := XA.at_.c2; obtain ⟨x2, x3⟩ := XA.at_.f2; obtain ⟨y0, y1⟩ := AB.at_.c2; obtain ⟨y2, y3⟩ := AB.at_.c2
              go_region_law ((first
                | (go_simp; go_at_call 31; refine (mulS' (w := ?_) ?gh ?gk BY.out BY.out).mono ?_; (case gh => first | exact AB.sg | exact AB.sg.drew); (case gk => first | exact AB.sg | exact AB.sg.drew); rintro e w8 ⟨m8, v8, rfl, h8, hB8, _⟩; (with_reducible first | replace hB8 := undr hB8 | skip); replace AA := AA.below hB8; replace AB := AB.below hB8; replace AC := AC.below hB8; replace HS2 := HS2.below hB8; replace XA := XA.below hB8; have H8 := hidb h8; clear h8 hB8 x0 x1 x2 x3 y0 y1 y2 y3; obtain ⟨x0, x1⟩ := XA.at_.c2; obtain ⟨x2, x3⟩ := XA.at_.f2; obtain ⟨y0, y1⟩ := AB.at_.c2; obtain ⟨y2, y3⟩ := AB.at_.c2)
                | (go_simp; go_at_call 30; refine (signedAdd_any (BS.out 1 1) (BP.out Y Y HSm.out.2.1 HSm.out.2.1) XA.sg H8.out).mono ?_; rintro e w9 ⟨m9, v9, rfl, h9, hB9, _⟩; (with_reducible first | replace hB9 := undr hB9 | skip); replace AA := AA.below hB9; replace AB := AB.below hB9; replace AC := AC.below hB9; replace HS2 := HS2.below hB9; replace XA := XA.below hB9; obtain ⟨ad9, cap9, hf9⟩ := h9.form'; rw [hf9] at h9 ⊢; have H9 := hidb h9; clear h9 hB9 hf9 x0 x1 x2 x3 y0 y1 y2 y3; obtain ⟨x0, x1⟩ := XA.at_.c2; obtain ⟨x2, x3⟩ := XA.at_.f2; obtain ⟨y0, y1⟩ := AB.at_.c2; obtain ⟨y2, y3⟩ := AB.at_.c2)))
              all_goals
                clear x0 x1 x2 x3 y0 y1 y2 y3
                go_wp2_with fail
                go_meet
                exact ⟨rfl, AC.skip XA.at_ (by omega) _ _, AA.skip XA.at_ (by omega) _ _, AB.skip XA.at_ (by omega) _ _, HS2.put2 H9.out⟩
            case rest =>
              clear AA AB AC HS2 XA
              obtain ⟨rfl, AC, AA, AB, HS2⟩ := hcut
              obtain ⟨mq, adq, Lq, capq, XA⟩ := HS2.a3
              go_upto_region 17 with fail
              go_cut [16] from 104 to 108 (fun s16 wx => s16 = .pointer (some ⟨C, 0, none⟩) ∧ Ac wx C mc adc Lc capc Z ∧ Ac wx A ma ada La capa X ∧ Ac wx B mb adb Lb capb Y ∧ Rs wx w S (sm lk 0 0 + X * X) (sm lk 0 1 + X * Y) (sm lk 1 1 + Y * Y) (sm lk 0 2 + X * Z) (sm lk 1 2))
              case first =>
               as_aux_lemma =>
                obtain ⟨x0, x1⟩ := XA.at_.c2; obtain ⟨x2, x3⟩ := XA.at_.f2; obtain ⟨y0, y1⟩ := AA.at_.c2; obtain ⟨y2, y3⟩ := AC.at_.c2
                go_region_law ((first
                  | (go_simp; go_at_call 31; refine (mulS' (w := ?_) ?gh ?gk BX.out BZ.out).mono ?_; (case gh => first | exact AA.sg | exact AA.sg.drew); (case gk => first | exact AC.sg | exact AC.sg.drew); rintro e w8 ⟨m8, v8, rfl, h8, hB8, _⟩; (with_reducible first | replace hB8 := undr hB8 | skip); replace AA := AA.below hB8; replace AB := AB.below hB8; replace AC := AC.below hB8; replace HS2 := HS2.below hB8; replace XA := XA.below hB8; have H8 := hidb h8; clear h8 hB8 x0 x1 x2 x3 y0 y1 y2 y3; obtain ⟨x0, x1⟩ := XA.at_.c2; obtain ⟨x2, x3⟩ := XA.at_.f2; obtain ⟨y0, y1⟩ := AA.at_.c2; obtain ⟨y2, y3⟩ := AC.at_.c2)
                  | (go_simp; go_at_call 30; refine (signedAdd_any (BS.out 0 2) (BP.out X Z HSm.out.1 HSm.out.2.2) XA.sg H8.out).mono ?_; rintro e w9 ⟨m9, v9, rfl, h9, hB9, _⟩; (with_reducible first | replace hB9 := undr hB9 | skip); replace AA := AA.below hB9; replace AB := AB.below hB9; replace AC := AC.below hB9; replace HS2 := HS2.below hB9; replace XA := XA.below hB9; obtain ⟨ad9, cap9, hf9⟩ := h9.form'; rw [hf9] at h9 ⊢; have H9 := hidb h9; clear h9 hB9 hf9 x0 x1 x2 x3 y0 y1 y2 y3; obtain ⟨x0, x1⟩ := XA.at_.c2; obtain ⟨x2, x3⟩ := XA.at_.f2; obtain ⟨y0, y1⟩ := AA.at_.c2; obtain ⟨y2, y3⟩ := AC.at_.c2)))
                all_goals
                  clear x0 x1 x2 x3 y0 y1 y2 y3
                  go_wp2_with fail
                  go_meet
                  exact ⟨rfl, AC.skip XA.at_ (by omega) _ _, AA.skip XA.at_ (by omega) _ _, AB.skip XA.at_ (by omega) _ _, HS2.put3 H9.out⟩
              case rest =>
                clear AA AB AC HS2 XA
                obtain ⟨rfl, AC, AA, AB, HS2⟩ := hcut
                obtain ⟨mq, adq, Lq, capq, XA⟩ := HS2.a4
                go_upto_region 18 with fail
                obtain ⟨x0, x1⟩ := XA.at_.c2; obtain ⟨x2, x3⟩ := XA.at_.f2; obtain ⟨y0, y1⟩ := AB.at_.c2; obtain ⟨y2, y3⟩ := AC.at_.c2
                go_region_law ((first
                  | (go_simp; go_at_call 31; refine (mulS' (w := ?_) ?gh ?gk BY.out BZ.out).mono ?_; (case gh => first | exact AB.sg | exact AB.sg.drew); (case gk => first | exact AC.sg | exact AC.sg.drew); rintro e w8 ⟨m8, v8, rfl, h8, hB8, _⟩; (with_reducible first | replace hB8 := undr hB8 | skip); replace AA := AA.below hB8; replace AB := AB.below hB8; replace AC := AC.below hB8; replace HS2 := HS2.below hB8; replace XA := XA.below hB8; have H8 := hidb h8; clear h8 hB8 x0 x1 x2 x3 y0 y1 y2 y3; obtain ⟨x0, x1⟩ := XA.at_.c2; obtain ⟨x2, x3⟩ := XA.at_.f2; obtain ⟨y0, y1⟩ := AB.at_.c2; obtain ⟨y2, y3⟩ := AC.at_.c2)
                  | (go_simp; go_at_call 30; refine (signedAdd_any (BS.out 1 2) (BP.out Y Z HSm.out.2.1 HSm.out.2.2) XA.sg H8.out).mono ?_; rintro e w9 ⟨m9, v9, rfl, h9, hB9, _⟩; (with_reducible first | replace hB9 := undr hB9 | skip); replace AA := AA.below hB9; replace AB := AB.below hB9; replace AC := AC.below hB9; replace HS2 := HS2.below hB9; replace XA := XA.below hB9; obtain ⟨ad9, cap9, hf9⟩ := h9.form'; rw [hf9] at h9 ⊢; have H9 := hidb h9; clear h9 hB9 hf9 x0 x1 x2 x3 y0 y1 y2 y3; obtain ⟨x0, x1⟩ := XA.at_.c2; obtain ⟨x2, x3⟩ := XA.at_.f2; obtain ⟨y0, y1⟩ := AB.at_.c2; obtain ⟨y2, y3⟩ := AC.at_.c2)))
                all_goals
                  clear x0 x1 x2 x3 y0 y1 y2 y3
                  go_wp2
                  go_roundw
                  case rel => exact ⟨k + 1, HK1.out, by go_num, by rw [HT.out]; simp only [sm_snoc]; exact HS2.put4 H9.out⟩
                  case measure => simp [intOf]; omega
    · have hkk : (difs l).take k = difs l := List.take_of_length_le (by have := difs_len2 l; omega)
      rw [hkk] at HS
      have BL := hidb (sums_br HO.out ll)
      have HV := hidb (sol_vals l)
      obtain ⟨z0, h0⟩ : ∃ z, sm (difs l) 0 0 = z := ⟨_, rfl⟩
      obtain ⟨z1, h1'⟩ : ∃ z, sm (difs l) 0 1 = z := ⟨_, rfl⟩
      obtain ⟨z2, h2⟩ : ∃ z, sm (difs l) 1 1 = z := ⟨_, rfl⟩
      obtain ⟨z3, h3⟩ : ∃ z, sm (difs l) 0 2 = z := ⟨_, rfl⟩
      obtain ⟨z4, h4⟩ : ∃ z, sm (difs l) 1 2 = z := ⟨_, rfl⟩
      rw [h0, h1', h2, h3, h4] at HS HV BL
      have BR : Hid (Brs z0 z1 z2 z3 z4) := hidb BL.out
      have HS2 := HS.out
      clear BL HS h0 h1' h2 h3 h4 hkk hk
      go_upto_region 19 with fail
      go_cut [17] from 114 to 120 (fun s wx => ∃ B0 e0 ae0 Le0 ce0, s = .pointer (some ⟨B0, 0, none⟩) ∧ Ac wx B0 e0 ae0 Le0 ce0 (z0 * z2 - z1 * z1) ∧ Rs wx w S z0 z1 z2 z3 z4 ∧ S + 1 + 1 + 1 + 1 + 1 + 1 + 1 < B0)
      case first =>
       as_aux_lemma =>
        obtain ⟨m, ad, L, cp, z, M, hM, hz0, hz1, hz2, hz3, hz4, hMs, E0⟩ := ev_of HS2
        subst hz0 hz1 hz2 hz3 hz4
        have K : Kq (fun W => True) M := ⟨fun hB h => trivial, fun h hA hC n v => trivial⟩
        have E := E0.withQ (Q := fun W => True) trivial
        have M1 : Hid (∀ W, Ev (fun W => True) M w S m ad L cp z W → Calls Tryd.prog 31 #[.agg #[.bool (m 0), .slice (ad 0) (L 0) (cp 0)], .agg #[.bool (m 2), .slice (ad 2) (L 2) (cp 2)]] W fun e w' => ∃ o t, e = .returned (.agg #[.bool o, t]) ∧ Sg w' o t (z 0 * z 2) ∧ Below W.heap.size W w') := fun W E => (mulS' E.x0.sg E.x2.sg BR.out.b0 BR.out.b2).mono (by rintro e w' ⟨o, t, h1, h2, h3, _⟩; exact ⟨o, t, h1, h2, h3⟩)
        have M2 : Hid (∀ W, Ev (fun W => True) M w S m ad L cp z W → Calls Tryd.prog 31 #[.agg #[.bool (m 1), .slice (ad 1) (L 1) (cp 1)], .agg #[.bool (m 1), .slice (ad 1) (L 1) (cp 1)]] W fun e w' => ∃ o t, e = .returned (.agg #[.bool o, t]) ∧ Sg w' o t (z 1 * z 1) ∧ Below W.heap.size W w') := fun W E => (mulS' E.x1.sg E.x1.sg BR.out.b1 BR.out.b1).mono (by rintro e w' ⟨o, t, h1, h2, h3, _⟩; exact ⟨o, t, h1, h2, h3⟩)
        have B1 := hidb BR.out.m02
        have B2 := hidb BR.out.m11
        clear E0 HS2 HO HR HV BR hM
        go_region_held3 (fun w' => (w'.cell? ⟨S + 1 + 1 + 1, 0, none⟩ = some (.bool (m 0)) ∧ w'.cell? ⟨S + 1 + 1 + 1, 1, none⟩ = some (.slice (ad 0) (L 0) (cp 0))) ∧ (w'.cell? ⟨S + 1 + 1 + 1 + 1, 0, none⟩ = some (.bool (m 1)) ∧ w'.cell? ⟨S + 1 + 1 + 1 + 1, 1, none⟩ = some (.slice (ad 1) (L 1) (cp 1))) ∧ (w'.cell? ⟨S + 1 + 1 + 1 + 1 + 1, 0, none⟩ = some (.bool (m 2)) ∧ w'.cell? ⟨S + 1 + 1 + 1 + 1 + 1, 1, none⟩ = some (.slice (ad 2) (L 2) (cp 2))))
          (first | exact ⟨E.x0.at_.c2, E.x1.at_.c2, E.x2.at_.c2⟩ | exact ⟨(E.alloc K _).x0.at_.c2, (E.alloc K _).x1.at_.c2, (E.alloc K _).x2.at_.c2⟩ | exact ⟨(E.skip K NA NL _ _).x0.at_.c2, (E.skip K NA NL _ _).x1.at_.c2, (E.skip K NA NL _ _).x2.at_.c2⟩)
          ((first | (go_at_call 31; with_reducible refine (M1.out _ (by with_reducible first | exact E | exact E.drew K | exact E.alloc K _ | exact (E.drew K).alloc K _ | exact (E.alloc K _).drew K | exact ((E.drew K).alloc K _).drew K)).mono ?_; rintro e w8 ⟨m8, v8, rfl, h8, hB8⟩; (with_reducible first | (have NA := At.below hB8 (At.new2d' _ _ _ _); have NL := E.hi) | (have NA := At.below hB8 (At.drew (At.new2 _ _ _ _)); have NL := E.hi) | (have NA := At.below hB8 (At.new2 _ _ _ _); have NL := E.hi) | (have NA := At.below hB8 (At.drew (At.new2d' _ _ _ _)); have NL := E.hi) | (replace NA := At.below hB8 NA) | (replace NA := At.below hB8 NA.drew) | skip); (with_reducible first | replace E := Ev.below K hB8 E | replace E := Ev.below K hB8 (E.drew K) | replace E := Ev.below K hB8 (E.alloc K _) | replace E := Ev.below K hB8 ((E.drew K).alloc K _) | replace E := Ev.below K hB8 ((E.alloc K _).drew K) | replace E := Ev.below K hB8 (((E.drew K).alloc K _).drew K)); (with_reducible first | replace HP := hidb (Sg.below HP.out hB8) | replace HP := hidb (Sg.below HP.out.drew hB8) | replace HP := hidb (Sg.below (sg_alloc HP.out _) hB8) | replace HP := hidb (Sg.below (sg_alloc HP.out.drew _) hB8) | replace HP := hidb (Sg.below (sg_alloc HP.out _).drew hB8) | replace HP := hidb (Sg.below (sg_alloc HP.out.drew _).drew hB8) | skip); (with_reducible first | replace HQ := hidb (Sg.below HQ.out hB8) | replace HQ := hidb (Sg.below HQ.out.drew hB8) | replace HQ := hidb (Sg.below (sg_alloc HQ.out _) hB8) | replace HQ := hidb (Sg.below (sg_alloc HQ.out.drew _) hB8) | replace HQ := hidb (Sg.below (sg_alloc HQ.out _).drew hB8) | replace HQ := hidb (Sg.below (sg_alloc HQ.out.drew _).drew hB8) | skip); (try clear n0 n1 n2 n3 NH); (first | (obtain ⟨n0, n1⟩ := NA.c2; obtain ⟨n2, n3⟩ := NA.f2; have NH := NA.has (n := 2) rfl) | skip); have HP := hidb h8; clear h8 hB8) | (go_at_call 31; with_reducible refine (M2.out _ (by with_reducible first | exact E | exact E.drew K | exact E.alloc K _ | exact (E.drew K).alloc K _ | exact (E.alloc K _).drew K | exact ((E.drew K).alloc K _).drew K)).mono ?_; rintro e w8 ⟨m8, v8, rfl, h8, hB8⟩; (with_reducible first | (have NA := At.below hB8 (At.new2d' _ _ _ _); have NL := E.hi) | (have NA := At.below hB8 (At.drew (At.new2 _ _ _ _)); have NL := E.hi) | (have NA := At.below hB8 (At.new2 _ _ _ _); have NL := E.hi) | (have NA := At.below hB8 (At.drew (At.new2d' _ _ _ _)); have NL := E.hi) | (replace NA := At.below hB8 NA) | (replace NA := At.below hB8 NA.drew) | skip); (with_reducible first | replace E := Ev.below K hB8 E | replace E := Ev.below K hB8 (E.drew K) | replace E := Ev.below K hB8 (E.alloc K _) | replace E := Ev.below K hB8 ((E.drew K).alloc K _) | replace E := Ev.below K hB8 ((E.alloc K _).drew K) | replace E := Ev.below K hB8 (((E.drew K).alloc K _).drew K)); (with_reducible first | replace HP := hidb (Sg.below HP.out hB8) | replace HP := hidb (Sg.below HP.out.drew hB8) | replace HP := hidb (Sg.below (sg_alloc HP.out _) hB8) | replace HP := hidb (Sg.below (sg_alloc HP.out.drew _) hB8) | replace HP := hidb (Sg.below (sg_alloc HP.out _).drew hB8) | replace HP := hidb (Sg.below (sg_alloc HP.out.drew _).drew hB8) | skip); (with_reducible first | replace HQ := hidb (Sg.below HQ.out hB8) | replace HQ := hidb (Sg.below HQ.out.drew hB8) | replace HQ := hidb (Sg.below (sg_alloc HQ.out _) hB8) | replace HQ := hidb (Sg.below (sg_alloc HQ.out.drew _) hB8) | replace HQ := hidb (Sg.below (sg_alloc HQ.out _).drew hB8) | replace HQ := hidb (Sg.below (sg_alloc HQ.out.drew _).drew hB8) | skip); (try clear n0 n1 n2 n3 NH); (first | (obtain ⟨n0, n1⟩ := NA.c2; obtain ⟨n2, n3⟩ := NA.f2; have NH := NA.has (n := 2) rfl) | skip); have HQ := hidb h8; clear h8 hB8) | (go_at_call 32; with_reducible refine (less_any (by with_reducible first | exact HP.out | exact HP.out.drew | exact sg_alloc HP.out _ | exact sg_alloc HP.out.drew _ | exact (sg_alloc HP.out _).drew | exact (sg_alloc HP.out.drew _).drew) (by with_reducible first | exact HQ.out | exact HQ.out.drew | exact sg_alloc HQ.out _ | exact sg_alloc HQ.out.drew _ | exact (sg_alloc HQ.out _).drew | exact (sg_alloc HQ.out.drew _).drew) B1.out B2.out).mono ?_; rintro e w9 ⟨m9, v9, rfl, h9, hB9, hs9⟩; clear hs9; (with_reducible first | (have NA := At.below hB9 (At.new2d' _ _ _ _); have NL := E.hi) | (have NA := At.below hB9 (At.drew (At.new2 _ _ _ _)); have NL := E.hi) | (have NA := At.below hB9 (At.new2 _ _ _ _); have NL := E.hi) | (have NA := At.below hB9 (At.drew (At.new2d' _ _ _ _)); have NL := E.hi) | (replace NA := At.below hB9 NA) | (replace NA := At.below hB9 NA.drew) | skip); (with_reducible first | replace E := Ev.below K hB9 E | replace E := Ev.below K hB9 (E.drew K) | replace E := Ev.below K hB9 (E.alloc K _) | replace E := Ev.below K hB9 ((E.drew K).alloc K _) | replace E := Ev.below K hB9 ((E.alloc K _).drew K) | replace E := Ev.below K hB9 (((E.drew K).alloc K _).drew K)); (with_reducible first | replace HP := hidb (Sg.below HP.out hB9) | replace HP := hidb (Sg.below HP.out.drew hB9) | replace HP := hidb (Sg.below (sg_alloc HP.out _) hB9) | replace HP := hidb (Sg.below (sg_alloc HP.out.drew _) hB9) | replace HP := hidb (Sg.below (sg_alloc HP.out _).drew hB9) | replace HP := hidb (Sg.below (sg_alloc HP.out.drew _).drew hB9) | skip); (with_reducible first | replace HQ := hidb (Sg.below HQ.out hB9) | replace HQ := hidb (Sg.below HQ.out.drew hB9) | replace HQ := hidb (Sg.below (sg_alloc HQ.out _) hB9) | replace HQ := hidb (Sg.below (sg_alloc HQ.out.drew _) hB9) | replace HQ := hidb (Sg.below (sg_alloc HQ.out _).drew hB9) | replace HQ := hidb (Sg.below (sg_alloc HQ.out.drew _).drew hB9) | skip); (try clear n0 n1 n2 n3 NH); (first | (obtain ⟨n0, n1⟩ := NA.c2; obtain ⟨n2, n3⟩ := NA.f2; have NH := NA.has (n := 2) rfl) | skip); obtain ⟨ad9, cap9, hf9⟩ := h9.form'; rw [hf9] at h9 ⊢; have H9 := hidb h9; clear h9 hB9 hf9)))
        all_goals
          go_wp2_with fail
          go_meet
          refine ⟨_, m9, ad9, (dn (z 0 * z 2 - z 1 * z 1).natAbs).length, cap9, rfl, ?_, ?_, ?_⟩
        all_goals first
          | exact ⟨At.new2 _ _ _ _, sg_alloc H9.out _⟩
          | exact Ac.put NA H9.out
          | exact (E.alloc K _).rs
          | exact (E.skip K NA NL _ _).rs
          | (have hh := E.hi; omega)
      case rest =>
        clear HS2
        obtain ⟨B0, e0, ae0, Le0, ce0, rfl, D0, HS2, hB0⟩ := hcut
        go_upto_region 20 with fail
        go_cut [18] from 121 to 127 (fun s wx => ∃ B1 e1 ae1 Le1 ce1, s = .pointer (some ⟨B1, 0, none⟩) ∧ Ac wx B1 e1 ae1 Le1 ce1 (z3 * z2 - z4 * z1) ∧ Rs wx w S z0 z1 z2 z3 z4 ∧ S + 1 + 1 + 1 + 1 + 1 + 1 + 1 < B1 ∧ Ac wx B0 e0 ae0 Le0 ce0 (z0 * z2 - z1 * z1))
        case first =>
         as_aux_lemma =>
          obtain ⟨m, ad, L, cp, z, M, hM, hz0, hz1, hz2, hz3, hz4, hMs, E0⟩ := ev_of HS2
          subst hz0 hz1 hz2 hz3 hz4
          have lB0 : B0 < M := by rw [hM]; exact D0.at_.lt
          have K : Kq (fun W => Ac W B0 e0 ae0 Le0 ce0 (z 0 * z 2 - z 1 * z 1)) M := ⟨fun hB h => Ac.below hB h, fun h hA hC n v => Ac.skip h hA (by omega) n v⟩
          have E := E0.withQ (Q := fun W => Ac W B0 e0 ae0 Le0 ce0 (z 0 * z 2 - z 1 * z 1)) D0
          have M1 : Hid (∀ W, Ev (fun W => Ac W B0 e0 ae0 Le0 ce0 (z 0 * z 2 - z 1 * z 1)) M w S m ad L cp z W → Calls Tryd.prog 31 #[.agg #[.bool (m 3), .slice (ad 3) (L 3) (cp 3)], .agg #[.bool (m 2), .slice (ad 2) (L 2) (cp 2)]] W fun e w' => ∃ o t, e = .returned (.agg #[.bool o, t]) ∧ Sg w' o t (z 3 * z 2) ∧ Below W.heap.size W w') := fun W E => (mulS' E.x3.sg E.x2.sg BR.out.b3 BR.out.b2).mono (by rintro e w' ⟨o, t, h1, h2, h3, _⟩; exact ⟨o, t, h1, h2, h3⟩)
          have M2 : Hid (∀ W, Ev (fun W => Ac W B0 e0 ae0 Le0 ce0 (z 0 * z 2 - z 1 * z 1)) M w S m ad L cp z W → Calls Tryd.prog 31 #[.agg #[.bool (m 4), .slice (ad 4) (L 4) (cp 4)], .agg #[.bool (m 1), .slice (ad 1) (L 1) (cp 1)]] W fun e w' => ∃ o t, e = .returned (.agg #[.bool o, t]) ∧ Sg w' o t (z 4 * z 1) ∧ Below W.heap.size W w') := fun W E => (mulS' E.x4.sg E.x1.sg BR.out.b4 BR.out.b1).mono (by rintro e w' ⟨o, t, h1, h2, h3, _⟩; exact ⟨o, t, h1, h2, h3⟩)
          have B1 := hidb BR.out.m32
          have B2 := hidb BR.out.m41
          clear E0 HS2 HO HR HV BR hM D0
          go_region_held3 (fun w' => (w'.cell? ⟨S + 1 + 1 + 1 + 1, 0, none⟩ = some (.bool (m 1)) ∧ w'.cell? ⟨S + 1 + 1 + 1 + 1, 1, none⟩ = some (.slice (ad 1) (L 1) (cp 1))) ∧ (w'.cell? ⟨S + 1 + 1 + 1 + 1 + 1, 0, none⟩ = some (.bool (m 2)) ∧ w'.cell? ⟨S + 1 + 1 + 1 + 1 + 1, 1, none⟩ = some (.slice (ad 2) (L 2) (cp 2))) ∧ (w'.cell? ⟨S + 1 + 1 + 1 + 1 + 1 + 1, 0, none⟩ = some (.bool (m 3)) ∧ w'.cell? ⟨S + 1 + 1 + 1 + 1 + 1 + 1, 1, none⟩ = some (.slice (ad 3) (L 3) (cp 3))) ∧ (w'.cell? ⟨S + 1 + 1 + 1 + 1 + 1 + 1 + 1, 0, none⟩ = some (.bool (m 4)) ∧ w'.cell? ⟨S + 1 + 1 + 1 + 1 + 1 + 1 + 1, 1, none⟩ = some (.slice (ad 4) (L 4) (cp 4))))
            (first | exact ⟨E.x1.at_.c2, E.x2.at_.c2, E.x3.at_.c2, E.x4.at_.c2⟩ | exact ⟨(E.alloc K _).x1.at_.c2, (E.alloc K _).x2.at_.c2, (E.alloc K _).x3.at_.c2, (E.alloc K _).x4.at_.c2⟩ | exact ⟨(E.skip K NA NL _ _).x1.at_.c2, (E.skip K NA NL _ _).x2.at_.c2, (E.skip K NA NL _ _).x3.at_.c2, (E.skip K NA NL _ _).x4.at_.c2⟩)
            ((first | (go_at_call 31; with_reducible refine (M1.out _ (by with_reducible first | exact E | exact E.drew K | exact E.alloc K _ | exact (E.drew K).alloc K _ | exact (E.alloc K _).drew K | exact ((E.drew K).alloc K _).drew K)).mono ?_; rintro e w8 ⟨m8, v8, rfl, h8, hB8⟩; (with_reducible first | (have NA := At.below hB8 (At.new2d' _ _ _ _); have NL := E.hi) | (have NA := At.below hB8 (At.drew (At.new2 _ _ _ _)); have NL := E.hi) | (have NA := At.below hB8 (At.new2 _ _ _ _); have NL := E.hi) | (have NA := At.below hB8 (At.drew (At.new2d' _ _ _ _)); have NL := E.hi) | (replace NA := At.below hB8 NA) | (replace NA := At.below hB8 NA.drew) | skip); (with_reducible first | replace E := Ev.below K hB8 E | replace E := Ev.below K hB8 (E.drew K) | replace E := Ev.below K hB8 (E.alloc K _) | replace E := Ev.below K hB8 ((E.drew K).alloc K _) | replace E := Ev.below K hB8 ((E.alloc K _).drew K) | replace E := Ev.below K hB8 (((E.drew K).alloc K _).drew K)); (with_reducible first | replace HP := hidb (Sg.below HP.out hB8) | replace HP := hidb (Sg.below HP.out.drew hB8) | replace HP := hidb (Sg.below (sg_alloc HP.out _) hB8) | replace HP := hidb (Sg.below (sg_alloc HP.out.drew _) hB8) | replace HP := hidb (Sg.below (sg_alloc HP.out _).drew hB8) | replace HP := hidb (Sg.below (sg_alloc HP.out.drew _).drew hB8) | skip); (with_reducible first | replace HQ := hidb (Sg.below HQ.out hB8) | replace HQ := hidb (Sg.below HQ.out.drew hB8) | replace HQ := hidb (Sg.below (sg_alloc HQ.out _) hB8) | replace HQ := hidb (Sg.below (sg_alloc HQ.out.drew _) hB8) | replace HQ := hidb (Sg.below (sg_alloc HQ.out _).drew hB8) | replace HQ := hidb (Sg.below (sg_alloc HQ.out.drew _).drew hB8) | skip); (try clear n0 n1 n2 n3 NH); (first | (obtain ⟨n0, n1⟩ := NA.c2; obtain ⟨n2, n3⟩ := NA.f2; have NH := NA.has (n := 2) rfl) | skip); have HP := hidb h8; clear h8 hB8) | (go_at_call 31; with_reducible refine (M2.out _ (by with_reducible first | exact E | exact E.drew K | exact E.alloc K _ | exact (E.drew K).alloc K _ | exact (E.alloc K _).drew K | exact ((E.drew K).alloc K _).drew K)).mono ?_; rintro e w8 ⟨m8, v8, rfl, h8, hB8⟩; (with_reducible first | (have NA := At.below hB8 (At.new2d' _ _ _ _); have NL := E.hi) | (have NA := At.below hB8 (At.drew (At.new2 _ _ _ _)); have NL := E.hi) | (have NA := At.below hB8 (At.new2 _ _ _ _); have NL := E.hi) | (have NA := At.below hB8 (At.drew (At.new2d' _ _ _ _)); have NL := E.hi) | (replace NA := At.below hB8 NA) | (replace NA := At.below hB8 NA.drew) | skip); (with_reducible first | replace E := Ev.below K hB8 E | replace E := Ev.below K hB8 (E.drew K) | replace E := Ev.below K hB8 (E.alloc K _) | replace E := Ev.below K hB8 ((E.drew K).alloc K _) | replace E := Ev.below K hB8 ((E.alloc K _).drew K) | replace E := Ev.below K hB8 (((E.drew K).alloc K _).drew K)); (with_reducible first | replace HP := hidb (Sg.below HP.out hB8) | replace HP := hidb (Sg.below HP.out.drew hB8) | replace HP := hidb (Sg.below (sg_alloc HP.out _) hB8) | replace HP := hidb (Sg.below (sg_alloc HP.out.drew _) hB8) | replace HP := hidb (Sg.below (sg_alloc HP.out _).drew hB8) | replace HP := hidb (Sg.below (sg_alloc HP.out.drew _).drew hB8) | skip); (with_reducible first | replace HQ := hidb (Sg.below HQ.out hB8) | replace HQ := hidb (Sg.below HQ.out.drew hB8) | replace HQ := hidb (Sg.below (sg_alloc HQ.out _) hB8) | replace HQ := hidb (Sg.below (sg_alloc HQ.out.drew _) hB8) | replace HQ := hidb (Sg.below (sg_alloc HQ.out _).drew hB8) | replace HQ := hidb (Sg.below (sg_alloc HQ.out.drew _).drew hB8) | skip); (try clear n0 n1 n2 n3 NH); (first | (obtain ⟨n0, n1⟩ := NA.c2; obtain ⟨n2, n3⟩ := NA.f2; have NH := NA.has (n := 2) rfl) | skip); have HQ := hidb h8; clear h8 hB8) | (go_at_call 32; with_reducible refine (less_any (by with_reducible first | exact HP.out | exact HP.out.drew | exact sg_alloc HP.out _ | exact sg_alloc HP.out.drew _ | exact (sg_alloc HP.out _).drew | exact (sg_alloc HP.out.drew _).drew) (by with_reducible first | exact HQ.out | exact HQ.out.drew | exact sg_alloc HQ.out _ | exact sg_alloc HQ.out.drew _ | exact (sg_alloc HQ.out _).drew | exact (sg_alloc HQ.out.drew _).drew) B1.out B2.out).mono ?_; rintro e w9 ⟨m9, v9, rfl, h9, hB9, hs9⟩; clear hs9; (with_reducible first | (have NA := At.below hB9 (At.new2d' _ _ _ _); have NL := E.hi) | (have NA := At.below hB9 (At.drew (At.new2 _ _ _ _)); have NL := E.hi) | (have NA := At.below hB9 (At.new2 _ _ _ _); have NL := E.hi) | (have NA := At.below hB9 (At.drew (At.new2d' _ _ _ _)); have NL := E.hi) | (replace NA := At.below hB9 NA) | (replace NA := At.below hB9 NA.drew) | skip); (with_reducible first | replace E := Ev.below K hB9 E | replace E := Ev.below K hB9 (E.drew K) | replace E := Ev.below K hB9 (E.alloc K _) | replace E := Ev.below K hB9 ((E.drew K).alloc K _) | replace E := Ev.below K hB9 ((E.alloc K _).drew K) | replace E := Ev.below K hB9 (((E.drew K).alloc K _).drew K)); (with_reducible first | replace HP := hidb (Sg.below HP.out hB9) | replace HP := hidb (Sg.below HP.out.drew hB9) | replace HP := hidb (Sg.below (sg_alloc HP.out _) hB9) | replace HP := hidb (Sg.below (sg_alloc HP.out.drew _) hB9) | replace HP := hidb (Sg.below (sg_alloc HP.out _).drew hB9) | replace HP := hidb (Sg.below (sg_alloc HP.out.drew _).drew hB9) | skip); (with_reducible first | replace HQ := hidb (Sg.below HQ.out hB9) | replace HQ := hidb (Sg.below HQ.out.drew hB9) | replace HQ := hidb (Sg.below (sg_alloc HQ.out _) hB9) | replace HQ := hidb (Sg.below (sg_alloc HQ.out.drew _) hB9) | replace HQ := hidb (Sg.below (sg_alloc HQ.out _).drew hB9) | replace HQ := hidb (Sg.below (sg_alloc HQ.out.drew _).drew hB9) | skip); (try clear n0 n1 n2 n3 NH); (first | (obtain ⟨n0, n1⟩ := NA.c2; obtain ⟨n2, n3⟩ := NA.f2; have NH := NA.has (n := 2) rfl) | skip); obtain ⟨ad9, cap9, hf9⟩ := h9.form'; rw [hf9] at h9 ⊢; have H9 := hidb h9; clear h9 hB9 hf9)))
          all_goals
            go_wp2_with fail
            go_meet
            refine ⟨_, m9, ad9, (dn (z 3 * z 2 - z 4 * z 1).natAbs).length, cap9, rfl, ?_, ?_, ?_, ?_⟩
          all_goals first
            | exact ⟨At.new2 _ _ _ _, sg_alloc H9.out _⟩
            | exact Ac.put NA H9.out
            | exact (E.alloc K _).rs
            | exact (E.skip K NA NL _ _).rs
            | exact (E.alloc K _).q
            | exact (E.skip K NA NL _ _).q
            | (have hh := E.hi; omega)
        case rest =>
          clear HS2 D0
          obtain ⟨B1, e1, ae1, Le1, ce1, rfl, D1, HS2, hB1, D0⟩ := hcut
          go_upto_region 21 with fail
          go_cut [19] from 128 to 134 (fun s wx => ∃ B2 e2 ae2 Le2 ce2, s = .pointer (some ⟨B2, 0, none⟩) ∧ Ac wx B2 e2 ae2 Le2 ce2 (z0 * z4 - z1 * z3) ∧ Rs wx w S z0 z1 z2 z3 z4 ∧ S + 1 + 1 + 1 + 1 + 1 + 1 + 1 < B2 ∧ Ac wx B0 e0 ae0 Le0 ce0 (z0 * z2 - z1 * z1) ∧ Ac wx B1 e1 ae1 Le1 ce1 (z3 * z2 - z4 * z1))
          case first =>
           as_aux_lemma =>
            obtain ⟨m, ad, L, cp, z, M, hM, hz0, hz1, hz2, hz3, hz4, hMs, E0⟩ := ev_of HS2
            subst hz0 hz1 hz2 hz3 hz4
            have lB0 : B0 < M := by rw [hM]; exact D0.at_.lt
            have lB1 : B1 < M := by rw [hM]; exact D1.at_.lt
            have K : Kq (fun W => Ac W B0 e0 ae0 Le0 ce0 (z 0 * z 2 - z 1 * z 1) ∧ Ac W B1 e1 ae1 Le1 ce1 (z 3 * z 2 - z 4 * z 1)) M := ⟨fun hB h => ⟨Ac.below hB h.1, Ac.below hB h.2⟩, fun h hA hC n v => ⟨Ac.skip h.1 hA (by omega) n v, Ac.skip h.2 hA (by omega) n v⟩⟩
            have E := E0.withQ (Q := fun W => Ac W B0 e0 ae0 Le0 ce0 (z 0 * z 2 - z 1 * z 1) ∧ Ac W B1 e1 ae1 Le1 ce1 (z 3 * z 2 - z 4 * z 1)) ⟨D0, D1⟩
            have M1 : Hid (∀ W, Ev (fun W => Ac W B0 e0 ae0 Le0 ce0 (z 0 * z 2 - z 1 * z 1) ∧ Ac W B1 e1 ae1 Le1 ce1 (z 3 * z 2 - z 4 * z 1)) M w S m ad L cp z W → Calls Tryd.prog 31 #[.agg #[.bool (m 0), .slice (ad 0) (L 0) (cp 0)], .agg #[.bool (m 4), .slice (ad 4) (L 4) (cp 4)]] W fun e w' => ∃ o t, e = .returned (.agg #[.bool o, t]) ∧ Sg w' o t (z 0 * z 4) ∧ Below W.heap.size W w') := fun W E => (mulS' E.x0.sg E.x4.sg BR.out.b0 BR.out.b4).mono (by rintro e w' ⟨o, t, h1, h2, h3, _⟩; exact ⟨o, t, h1, h2, h3⟩)
            have M2 : Hid (∀ W, Ev (fun W => Ac W B0 e0 ae0 Le0 ce0 (z 0 * z 2 - z 1 * z 1) ∧ Ac W B1 e1 ae1 Le1 ce1 (z 3 * z 2 - z 4 * z 1)) M w S m ad L cp z W → Calls Tryd.prog 31 #[.agg #[.bool (m 1), .slice (ad 1) (L 1) (cp 1)], .agg #[.bool (m 3), .slice (ad 3) (L 3) (cp 3)]] W fun e w' => ∃ o t, e = .returned (.agg #[.bool o, t]) ∧ Sg w' o t (z 1 * z 3) ∧ Below W.heap.size W w') := fun W E => (mulS' E.x1.sg E.x3.sg BR.out.b1 BR.out.b3).mono (by rintro e w' ⟨o, t, h1, h2, h3, _⟩; exact ⟨o, t, h1, h2, h3⟩)
            have B1 := hidb BR.out.m04
            have B2 := hidb BR.out.m13
            clear E0 HS2 HO HR HV BR hM D0 D1
            go_region_held3 (fun w' => (w'.cell? ⟨S + 1 + 1 + 1, 0, none⟩ = some (.bool (m 0)) ∧ w'.cell? ⟨S + 1 + 1 + 1, 1, none⟩ = some (.slice (ad 0) (L 0) (cp 0))) ∧ (w'.cell? ⟨S + 1 + 1 + 1 + 1, 0, none⟩ = some (.bool (m 1)) ∧ w'.cell? ⟨S + 1 + 1 + 1 + 1, 1, none⟩ = some (.slice (ad 1) (L 1) (cp 1))) ∧ (w'.cell? ⟨S + 1 + 1 + 1 + 1 + 1 + 1, 0, none⟩ = some (.bool (m 3)) ∧ w'.cell? ⟨S + 1 + 1 + 1 + 1 + 1 + 1, 1, none⟩ = some (.slice (ad 3) (L 3) (cp 3))) ∧ (w'.cell? ⟨S + 1 + 1 + 1 + 1 + 1 + 1 + 1, 0, none⟩ = some (.bool (m 4)) ∧ w'.cell? ⟨S + 1 + 1 + 1 + 1 + 1 + 1 + 1, 1, none⟩ = some (.slice (ad 4) (L 4) (cp 4))))
              (first | exact ⟨E.x0.at_.c2, E.x1.at_.c2, E.x3.at_.c2, E.x4.at_.c2⟩ | exact ⟨(E.alloc K _).x0.at_.c2, (E.alloc K _).x1.at_.c2, (E.alloc K _).x3.at_.c2, (E.alloc K _).x4.at_.c2⟩ | exact ⟨(E.skip K NA NL _ _).x0.at_.c2, (E.skip K NA NL _ _).x1.at_.c2, (E.skip K NA NL _ _).x3.at_.c2, (E.skip K NA NL _ _).x4.at_.c2⟩)
              ((first | (go_at_call 31; with_reducible refine (M1.out _ (by with_reducible first | exact E | exact E.drew K | exact E.alloc K _ | exact (E.drew K).alloc K _ | exact (E.alloc K _).drew K | exact ((E.drew K).alloc K _).drew K)).mono ?_; rintro e w8 ⟨m8, v8, rfl, h8, hB8⟩; (with_reducible first | (have NA := At.below hB8 (At.new2d' _ _ _ _); have NL := E.hi) | (have NA := At.below hB8 (At.drew (At.new2 _ _ _ _)); have NL := E.hi) | (have NA := At.below hB8 (At.new2 _ _ _ _); have NL := E.hi) | (have NA := At.below hB8 (At.drew (At.new2d' _ _ _ _)); have NL := E.hi) | (replace NA := At.below hB8 NA) | (replace NA := At.below hB8 NA.drew) | skip); (with_reducible first | replace E := Ev.below K hB8 E | replace E := Ev.below K hB8 (E.drew K) | replace E := Ev.below K hB8 (E.alloc K _) | replace E := Ev.below K hB8 ((E.drew K).alloc K _) | replace E := Ev.below K hB8 ((E.alloc K _).drew K) | replace E := Ev.below K hB8 (((E.drew K).alloc K _).drew K)); (with_reducible first | replace HP := hidb (Sg.below HP.out hB8) | replace HP := hidb (Sg.below HP.out.drew hB8) | replace HP := hidb (Sg.below (sg_alloc HP.out _) hB8) | replace HP := hidb (Sg.below (sg_alloc HP.out.drew _) hB8) | replace HP := hidb (Sg.below (sg_alloc HP.out _).drew hB8) | replace HP := hidb (Sg.below (sg_alloc HP.out.drew _).drew hB8) | skip); (with_reducible first | replace HQ := hidb (Sg.below HQ.out hB8) | replace HQ := hidb (Sg.below HQ.out.drew hB8) | replace HQ := hidb (Sg.below (sg_alloc HQ.out _) hB8) | replace HQ := hidb (Sg.below (sg_alloc HQ.out.drew _) hB8) | replace HQ := hidb (Sg.below (sg_alloc HQ.out _).drew hB8) | replace HQ := hidb (Sg.below (sg_alloc HQ.out.drew _).drew hB8) | skip); (try clear n0 n1 n2 n3 NH); (first | (obtain ⟨n0, n1⟩ := NA.c2; obtain ⟨n2, n3⟩ := NA.f2; have NH := NA.has (n := 2) rfl) | skip); have HP := hidb h8; clear h8 hB8) | (go_at_call 31; with_reducible refine (M2.out _ (by with_reducible first | exact E | exact E.drew K | exact E.alloc K _ | exact (E.drew K).alloc K _ | exact (E.alloc K _).drew K | exact ((E.drew K).alloc K _).drew K)).mono ?_; rintro e w8 ⟨m8, v8, rfl, h8, hB8⟩; (with_reducible first | (have NA := At.below hB8 (At.new2d' _ _ _ _); have NL := E.hi) | (have NA := At.below hB8 (At.drew (At.new2 _ _ _ _)); have NL := E.hi) | (have NA := At.below hB8 (At.new2 _ _ _ _); have NL := E.hi) | (have NA := At.below hB8 (At.drew (At.new2d' _ _ _ _)); have NL := E.hi) | (replace NA := At.below hB8 NA) | (replace NA := At.below hB8 NA.drew) | skip); (with_reducible first | replace E := Ev.below K hB8 E | replace E := Ev.below K hB8 (E.drew K) | replace E := Ev.below K hB8 (E.alloc K _) | replace E := Ev.below K hB8 ((E.drew K).alloc K _) | replace E := Ev.below K hB8 ((E.alloc K _).drew K) | replace E := Ev.below K hB8 (((E.drew K).alloc K _).drew K)); (with_reducible first | replace HP := hidb (Sg.below HP.out hB8) | replace HP := hidb (Sg.below HP.out.drew hB8) | replace HP := hidb (Sg.below (sg_alloc HP.out _) hB8) | replace HP := hidb (Sg.below (sg_alloc HP.out.drew _) hB8) | replace HP := hidb (Sg.below (sg_alloc HP.out _).drew hB8) | replace HP := hidb (Sg.below (sg_alloc HP.out.drew _).drew hB8) | skip); (with_reducible first | replace HQ := hidb (Sg.below HQ.out hB8) | replace HQ := hidb (Sg.below HQ.out.drew hB8) | replace HQ := hidb (Sg.below (sg_alloc HQ.out _) hB8) | replace HQ := hidb (Sg.below (sg_alloc HQ.out.drew _) hB8) | replace HQ := hidb (Sg.below (sg_alloc HQ.out _).drew hB8) | replace HQ := hidb (Sg.below (sg_alloc HQ.out.drew _).drew hB8) | skip); (try clear n0 n1 n2 n3 NH); (first | (obtain ⟨n0, n1⟩ := NA.c2; obtain ⟨n2, n3⟩ := NA.f2; have NH := NA.has (n := 2) rfl) | skip); have HQ := hidb h8; clear h8 hB8) | (go_at_call 32; with_reducible refine (less_any (by with_reducible first | exact HP.out | exact HP.out.drew | exact sg_alloc HP.out _ | exact sg_alloc HP.out.drew _ | exact (sg_alloc HP.out _).drew | exact (sg_alloc HP.out.drew _).drew) (by with_reducible first | exact HQ.out | exact HQ.out.drew | exact sg_alloc HQ.out _ | exact sg_alloc HQ.out.drew _ | exact (sg_alloc HQ.out _).drew | exact (sg_alloc HQ.out.drew _).drew) B1.out B2.out).mono ?_; rintro e w9 ⟨m9, v9, rfl, h9, hB9, hs9⟩; clear hs9; (with_reducible first | (have NA := At.below hB9 (At.new2d' _ _ _ _); have NL := E.hi) | (have NA := At.below hB9 (At.drew (At.new2 _ _ _ _)); have NL := E.hi) | (have NA := At.below hB9 (At.new2 _ _ _ _); have NL := E.hi) | (have NA := At.below hB9 (At.drew (At.new2d' _ _ _ _)); have NL := E.hi) | (replace NA := At.below hB9 NA) | (replace NA := At.below hB9 NA.drew) | skip); (with_reducible first | replace E := Ev.below K hB9 E | replace E := Ev.below K hB9 (E.drew K) | replace E := Ev.below K hB9 (E.alloc K _) | replace E := Ev.below K hB9 ((E.drew K).alloc K _) | replace E := Ev.below K hB9 ((E.alloc K _).drew K) | replace E := Ev.below K hB9 (((E.drew K).alloc K _).drew K)); (with_reducible first | replace HP := hidb (Sg.below HP.out hB9) | replace HP := hidb (Sg.below HP.out.drew hB9) | replace HP := hidb (Sg.below (sg_alloc HP.out _) hB9) | replace HP := hidb (Sg.below (sg_alloc HP.out.drew _) hB9) | replace HP := hidb (Sg.below (sg_alloc HP.out _).drew hB9) | replace HP := hidb (Sg.below (sg_alloc HP.out.drew _).drew hB9) | skip); (with_reducible first | replace HQ := hidb (Sg.below HQ.out hB9) | replace HQ := hidb (Sg.below HQ.out.drew hB9) | replace HQ := hidb (Sg.below (sg_alloc HQ.out _) hB9) | replace HQ := hidb (Sg.below (sg_alloc HQ.out.drew _) hB9) | replace HQ := hidb (Sg.below (sg_alloc HQ.out _).drew hB9) | replace HQ := hidb (Sg.below (sg_alloc HQ.out.drew _).drew hB9) | skip); (try clear n0 n1 n2 n3 NH); (first | (obtain ⟨n0, n1⟩ := NA.c2; obtain ⟨n2, n3⟩ := NA.f2; have NH := NA.has (n := 2) rfl) | skip); obtain ⟨ad9, cap9, hf9⟩ := h9.form'; rw [hf9] at h9 ⊢; have H9 := hidb h9; clear h9 hB9 hf9)))
            all_goals
              go_wp2_with fail
              go_meet
              refine ⟨_, m9, ad9, (dn (z 0 * z 4 - z 1 * z 3).natAbs).length, cap9, rfl, ?_, ?_, ?_, ?_, ?_⟩
            all_goals first
              | exact ⟨At.new2 _ _ _ _, sg_alloc H9.out _⟩
              | exact Ac.put NA H9.out
              | exact (E.alloc K _).rs
              | exact (E.skip K NA NL _ _).rs
              | exact (E.alloc K _).q.1
              | exact (E.skip K NA NL _ _).q.1
              | exact (E.alloc K _).q.2
              | exact (E.skip K NA NL _ _).q.2
              | (have hh := E.hi; omega)
          case rest =>
            clear HS2 D0 D1
            obtain ⟨B2, e2, ae2, Le2, ce2, rfl, D2, HS2, hB2, D0, D1⟩ := hcut
            go_upto_region 22 with fail
            have R0 := HS2.r0
            have R1 := HS2.r1
            have R2 := HS2.r2
            have GW := hidb HS2.gr
            have SW := HS2.le
            have SW1 : w.heap.size ≤ S + 1 := Nat.le_succ_of_le SW
            have SW2 : w.heap.size ≤ S + 1 + 1 := Nat.le_succ_of_le SW1
            have HL0 : Hid (Le0 = (dn (sOv l).natAbs).length) := by
              obtain ⟨_, _, hf⟩ := D0.sg.form'
              rw [HV.out.1]
              injection hf
            have T1 := fun n v => R1.skip2 (C := S) (by omega) n v
            have T2 := fun n v n' v' => (R2.skip2 (C := S) (by omega) n v).skip2 (C := S + 1) (by omega) n' v'
            obtain ⟨b0, b1⟩ := R0.c2
            obtain ⟨b2, b3⟩ := R0.f2
            obtain ⟨b4, b5⟩ := R1.c2
            obtain ⟨b6, b7⟩ := R1.f2
            obtain ⟨b8, b9⟩ := R2.c2
            obtain ⟨b10, b11⟩ := R2.f2
            have K0 := R0.has (n := 2) rfl
            have K1 := R1.has (n := 2) rfl
            have K2 := R2.has (n := 2) rfl
            obtain ⟨a0, a1⟩ := D0.at_.c2
            obtain ⟨a2, a3⟩ := D1.at_.c2
            obtain ⟨a4, a5⟩ := D2.at_.c2
            have m00 : ¬ S = B0 := by omega
            have m01 : ¬ S + 1 = B0 := by omega
            have m02 : ¬ S + 1 + 1 = B0 := by omega
            have m10 : ¬ S = B1 := by omega
            have m11 : ¬ S + 1 = B1 := by omega
            have m12 : ¬ S + 1 + 1 = B1 := by omega
            have m20 : ¬ S = B2 := by omega
            have m21 : ¬ S + 1 = B2 := by omega
            have m22 : ¬ S + 1 + 1 = B2 := by omega
            by_cases cz : sOv l = 0
            · have hL : Le0 = 0 := by rw [HL0.out, cz]; exact dn_empty.2 rfl
              subst hL
              go_region_held3 (fun w' => (w'.cell? ⟨B0, 0, none⟩ = some (.bool e0) ∧ w'.cell? ⟨B0, 1, none⟩ = some (.slice ae0 0 ce0)) ∧ (w'.cell? ⟨B1, 0, none⟩ = some (.bool e1) ∧ w'.cell? ⟨B1, 1, none⟩ = some (.slice ae1 Le1 ce1)) ∧ (w'.cell? ⟨B2, 0, none⟩ = some (.bool e2) ∧ w'.cell? ⟨B2, 1, none⟩ = some (.slice ae2 Le2 ce2)))
                (first | with_reducible exact ⟨⟨a0, a1⟩, ⟨a2, a3⟩, a4, a5⟩ | with_reducible exact ⟨D0.at_.drew.c2, D1.at_.drew.c2, D2.at_.drew.c2⟩ | refine ⟨⟨?_, ?_⟩, ⟨?_, ?_⟩, ?_, ?_⟩ <;> simp [go_sem, a0, a1, a2, a3, a4, a5])
                (fail)
              all_goals
                go_wp2
                have dz : decide (¬ sOv l = 0) = false := by simp [cz]
                refine bodyPost_ret (v := .tuple #[.agg #[.bool e1, .slice ae1 Le1 ce1], .agg #[.bool e2, .slice ae2 Le2 ce2], .agg #[.bool e0, .slice ae0 0 ce0], .bool false]) (by simp [results, Tryd.results12, go_sem, b0, b1, b4, b5, b8, b9]) rfl ⟨e1, e2, e0, _, _, _, by rw [dz], ?_, ?_, ?_, ?_⟩
                · rw [HV.out.2.1]; with_reducible first | exact (((D1.skip R0 m10 _ _).skip (T1 _ _) m11 _ _).skip (T2 _ _ _ _) m12 _ _).sg.drew | exact (((D1.skip R0 m10 _ _).skip (T1 _ _) m11 _ _).skip (T2 _ _ _ _) m12 _ _).sg
                · rw [HV.out.2.2]; with_reducible first | exact (((D2.skip R0 m20 _ _).skip (T1 _ _) m21 _ _).skip (T2 _ _ _ _) m22 _ _).sg.drew | exact (((D2.skip R0 m20 _ _).skip (T1 _ _) m21 _ _).skip (T2 _ _ _ _) m22 _ _).sg
                · rw [HV.out.1]; with_reducible first | exact (((D0.skip R0 m00 _ _).skip (T1 _ _) m01 _ _).skip (T2 _ _ _ _) m02 _ _).sg.drew | exact (((D0.skip R0 m00 _ _).skip (T1 _ _) m01 _ _).skip (T2 _ _ _ _) m02 _ _).sg
                · with_reducible first | exact Gr.drew ((((((GW.out.set SW _ _).set SW _ _).set SW1 _ _).set SW1 _ _).set SW2 _ _).set SW2 _ _) | exact (((((GW.out.set SW _ _).set SW _ _).set SW1 _ _).set SW1 _ _).set SW2 _ _).set SW2 _ _
            · have hL : 0 < (Le0 : Int) := by
                have h1 : ¬ (dn (sOv l).natAbs).length = 0 := fun h => cz (Int.natAbs_eq_zero.1 (dn_empty.1 h))
                have h2 := HL0.out
                omega
              have hLn : 0 < Le0 := Int.natCast_pos.1 hL
              go_region_held3 (fun w' => (w'.cell? ⟨B0, 0, none⟩ = some (.bool e0) ∧ w'.cell? ⟨B0, 1, none⟩ = some (.slice ae0 Le0 ce0)) ∧ (w'.cell? ⟨B1, 0, none⟩ = some (.bool e1) ∧ w'.cell? ⟨B1, 1, none⟩ = some (.slice ae1 Le1 ce1)) ∧ (w'.cell? ⟨B2, 0, none⟩ = some (.bool e2) ∧ w'.cell? ⟨B2, 1, none⟩ = some (.slice ae2 Le2 ce2)))
                (first | with_reducible exact ⟨⟨a0, a1⟩, ⟨a2, a3⟩, a4, a5⟩ | with_reducible exact ⟨D0.at_.drew.c2, D1.at_.drew.c2, D2.at_.drew.c2⟩ | refine ⟨⟨?_, ?_⟩, ⟨?_, ?_⟩, ?_, ?_⟩ <;> simp [go_sem, a0, a1, a2, a3, a4, a5])
                (fail)
              all_goals
                go_wp2
                have dz : decide (¬ sOv l = 0) = true := by simp [cz]
                refine bodyPost_ret (v := .tuple #[.agg #[.bool e1, .slice ae1 Le1 ce1], .agg #[.bool e2, .slice ae2 Le2 ce2], .agg #[.bool e0, .slice ae0 Le0 ce0], .bool true]) (by simp [results, Tryd.results12, go_sem, b0, b1, b4, b5, b8, b9]) rfl ⟨e1, e2, e0, _, _, _, by rw [dz], ?_, ?_, ?_, ?_⟩
                · rw [HV.out.2.1]; with_reducible first | exact (((D1.skip R0 m10 _ _).skip (T1 _ _) m11 _ _).skip (T2 _ _ _ _) m12 _ _).sg.drew | exact (((D1.skip R0 m10 _ _).skip (T1 _ _) m11 _ _).skip (T2 _ _ _ _) m12 _ _).sg
                · rw [HV.out.2.2]; with_reducible first | exact (((D2.skip R0 m20 _ _).skip (T1 _ _) m21 _ _).skip (T2 _ _ _ _) m22 _ _).sg.drew | exact (((D2.skip R0 m20 _ _).skip (T1 _ _) m21 _ _).skip (T2 _ _ _ _) m22 _ _).sg
                · rw [HV.out.1]; with_reducible first | exact (((D0.skip R0 m00 _ _).skip (T1 _ _) m01 _ _).skip (T2 _ _ _ _) m02 _ _).sg.drew | exact (((D0.skip R0 m00 _ _).skip (T1 _ _) m01 _ _).skip (T2 _ _ _ _) m02 _ _).sg
                · with_reducible first | exact Gr.drew ((((((GW.out.set SW _ _).set SW _ _).set SW1 _ _).set SW1 _ _).set SW2 _ _).set SW2 _ _) | exact (((((GW.out.set SW _ _).set SW _ _).set SW1 _ _).set SW1 _ _).set SW2 _ _).set SW2 _ _
end Go.Proofs.YtilgamhdcmkkeaaDoor
