/-
  ReliefGrounds of a line on the ground.
-/
import Derived.Test.YtpdiefmmenfpaaaDoorQRlI
namespace Go.Proofs.YtpdiefmmenfpaaaDoor
open Go.RowKit

/-- A row of fractions. -/
structure FR (w : World) (B : Nat) (zs : List Int) : Prop where
  c : ∀ k, (h : k < zs.length) → w.cell? ⟨B, k * 2, none⟩ = some (.int .i64 (frN zs[k])) ∧ w.cell? ⟨B, k * 2 + 1, none⟩ = some (.int .i64 (frD zs[k]))
  lt : B < w.heap.size
theorem FR.below {W w' : World} {B : Nat} {zs : List Int} (h : FR W B zs) (hB : Below W.heap.size W w') : FR w' B zs :=
  ⟨fun k hk => ⟨(hB.cell (p := ⟨B, k * 2, none⟩) h.lt).trans (h.c k hk).1, (hB.cell (p := ⟨B, k * 2 + 1, none⟩) h.lt).trans (h.c k hk).2⟩, Nat.lt_of_lt_of_le h.lt hB.size⟩
theorem FR.drew {W : World} {B : Nat} {zs : List Int} (h : FR W B zs) : FR W.drew B zs := ⟨h.c, h.lt⟩
theorem FR.alloc {W : World} {B : Nat} {zs : List Int} (h : FR W B zs) (o : Obj) : FR (W.alloc o) B zs := h.below ((Below.refl _ _).alloc (Nat.le_refl _) o)
theorem own_fr {w : World} {base e : Nat} {v : Value} {n : Nat} {zs : List Int} (h : w.ownsRow base e 2 v (n + 1) (fls zs)) : ∃ B cap, v = .slice (some ⟨B, 0, none⟩) (n + 1) cap ∧ FR w B zs := by
  have hn : n + 1 = zs.length := by have := h.1; rw [fls_len] at this; omega
  obtain ⟨h1, h | ⟨g, cap, cur, hv, hb, hg, hc, hm, hs, ht⟩⟩ := h
  · obtain ⟨_, h0⟩ := h
    omega
  · refine ⟨g, cap, hv, ?_, ?_⟩
    · intro k hk
      have key : ∀ j, (hj : j < 2) → w.cell? ⟨g, k * 2 + j, none⟩ = (fcs zs[k])[j]? := by
        intro j hj
        have e1 : (cur.toList.take ((n + 1) * 2))[k * 2 + j]? = (fls zs)[k * 2 + j]? := by rw [ht]
        rw [List.getElem?_take, if_pos (by omega), fls_get zs k hk j hj] at e1
        simp [World.cell?, hg]
        simpa using e1
      exact ⟨key 0 (by decide), key 1 (by decide)⟩
    · rcases Nat.lt_or_ge g w.heap.size with c | c
      · exact c
      · rw [Array.getElem?_eq_none c] at hg; cases hg
theorem profile_V (g : Nat → Addr) {m n : Nat} {b o cap : Nat} {l : List Int} (x y x2 y2 : Int) (p : Nat) (w : World) (h : Rs w b o cap l) (ok : Ok l m n) (hv : vcode m n l = 0) (hl : Laid w g) (hp1 : 1 ≤ p) (hp2 : p ≤ 4000) (ho : onI m n x y = true) (hq : onI m n x2 y2 = true) : Calls Tryd.prog 10 #[raV m n (.slice (some ⟨b, o, none⟩) l.length cap), spV x y, spV x2 y2, .int .i64 (p : Int)] w fun e w' => ∃ B cp, e = .returned (.tuple #[.slice (some ⟨B, 0, none⟩) (p + 1) cp, .nilIface]) ∧ FR w' B (proL l m n x y x2 y2 p (p + 1)) ∧ Gr w w' := by
  refine (profile_D g x y x2 y2 p w h ok hv hl hp1 hp2 ho hq).mono ?_
  rintro e w' ⟨v, rfl, h1, h2⟩
  obtain ⟨B, cp, rfl, h3⟩ := own_fr h1
  exact ⟨B, cp, rfl, h3, h2⟩
theorem findex (b n cap k : Nat) (hk : k < n) (w : World) : (Instr.indexAt 36 (.slice (some ⟨b, 0, none⟩) n cap) (.int .i64 k)).run Tryd.prog w = .ok (.pointer (some ⟨b, k * 2, none⟩)) w := by
  have hu : Tryd.prog.underlying 36 = some (.slice (Tryd.prog.elem 36)) := by kernel_rfl
  refine (run_indexAt_slice (P := Tryd.prog) (w := w) 36 ⟨b, 0, none⟩ n cap .i64 (k : Int) hu).trans ?_
  rw [if_pos ⟨by omega, by omega⟩]
  have hs : (sizeOf (Tryd.prog.elem 36)).run Tryd.prog w = .ok 2 w := by kernel_rfl
  rw [hs]
  simp [Addr.add]
  try (intro h; omega)
theorem mul_k {k : Nat} {d : Int} (hk : k ≤ 61) (h1 : -40000 ≤ d) (h2 : d ≤ 40000) : -2440000 ≤ (k : Int) * d ∧ (k : Int) * d ≤ 2440000 := by
  have a1 : (k : Int) * d ≤ (k : Int) * 40000 := Int.mul_le_mul_of_nonneg_left h2 (by omega)
  have a2 : (k : Int) * (-40000) ≤ (k : Int) * d := Int.mul_le_mul_of_nonneg_left h1 (by omega)
  omega
theorem div_k {a p : Int} (hp : 1 ≤ p) (h1 : -2440000 ≤ a) (h2 : a ≤ 2440000) : -2440000 ≤ a / p ∧ a / p ≤ 2440000 := by
  constructor
  · rw [Int.le_ediv_iff_mul_le (by omega)]
    have : (-2440000) * p ≤ (-2440000) * 1 := Int.mul_le_mul_of_nonpos_left (by omega) (by omega)
    omega
  · rcases Int.lt_or_le a 0 with c | c
    · have := Int.ediv_neg_of_neg_of_pos c (show 0 < p by omega); omega
    · have := Int.ediv_le_self p c; omega
set_option maxRecDepth 4000 in
set_option maxHeartbeats 16000000 in
theorem reliefGrounds_D (g : Nat → Addr) {m n pb po b o cap : Nat} {l : List Int} (x y x2 y2 p : Int) (P : Nat) (w : World) (hl : Laid w g) (rp : PtR w pb po m n (.slice (some ⟨b, o, none⟩) l.length cap)) (rs : Rs w b o cap l) (ok : Ok l m n) (hv : vcode m n l = 0) (ll : l.length ≤ 200) (h1 : onI m n x y = true) (h2 : onI m n x2 y2 = true) (hpP : p = (P : Int)) (hp1 : 1 ≤ P) (hp2 : P ≤ 60) : Calls Tryd.prog 3 #[.pointer (some ⟨pb, po, none⟩), spV x y, spV x2 y2, .int .i64 p] w fun e w' => e = .returned (.bool true) ∧ Gr w w' := by
  have hm1 := ok.m1
  have hn1 := ok.n1
  have hm2 := ok.m2
  have hn2 := ok.n2
  have RP := hidb rp
  have S1 := hidb (fun W1 (hG : Gr w W1) => small_any pb po m n (some ⟨b, o, none⟩) l.length cap W1 (rp.below hG.out))
  rw [decide_eq_true ll] at S1
  have CW := hidb (fun W1 (hG : Gr w W1) => rasterError_any pb po m n (some ⟨b, o, none⟩) b o cap l W1 (rp.below hG.out) (rs.isl.below hG.out) (by omega))
  rw [hv] at CW
  obtain ⟨X, S, hx, hy, hX, hS⟩ := on_nat h1 hm1 hn1
  have CA := hidb (fun W1 (hG : Gr w W1) => at_C g x y hx hy W1 (rs.below hG.out) ok hv (hl.below hG.out) h1 hX hS)
  have C1 := hidb (fun W1 (hG : Gr w W1) => groundAt_on x y hx hy W1 (rp.below hG.out) (rs.below hG.out) ok hX hS)
  have CI := hidb (fun W1 (hG : Gr w W1) => groundIs_any x y hx hy W1 (rp.below hG.out) (rs.below hG.out) ok hX hS)
  unfold frE at CA CI
  generalize frN (gh l m n X S) = fa at *
  generalize frD (gh l m n X S) = fb at *
  generalize gh l m n X S = gz at *
  have CP : Hid (∀ W1, Gr w W1 → Calls Tryd.prog 10 #[raV m n (.slice (some ⟨b, o, none⟩) l.length cap), spV x y, spV x2 y2, .int .i64 p] W1 fun e w' => ∃ B cp, e = .returned (.tuple #[.slice (some ⟨B, 0, none⟩) (P + 1) cp, .nilIface]) ∧ FR w' B (proL l m n x y x2 y2 P (P + 1)) ∧ Gr W1 w') := by
    rw [hpP]
    exact hidb (fun W1 (hG : Gr w W1) => profile_V g x y x2 y2 P W1 (rs.below hG.out) ok hv (hl.below hG.out) hp1 (by omega) h1 h2)
  obtain ⟨X2, S2, hx2, hy2, hX2, hS2⟩ := on_nat h2 hm1 hn1
  have C2 := hidb (fun W1 (hG : Gr w W1) => groundAt_on x2 y2 hx2 hy2 W1 (rp.below hG.out) (rs.below hG.out) ok hX2 hS2)
  generalize gh l m n X2 S2 = gq at *
  have HAl := hidb (fun (k : Nat) (hk : (k : Int) ≤ (P : Int)) => on_alo (p := (P : Int)) h1 h2 hm1 hn1 (by omega) k hk)
  have CK := hidb (fun (k : Nat) (hk : (k : Int) ≤ (P : Int)) W1 (hG : Gr w W1) => groundIs_any (X := alX x x2 P k) (S := alS y y2 P k) (alo x x2 k P) (alo y y2 k P) (HAl.out k hk).1 (HAl.out k hk).2.1 W1 (rp.below hG.out) (rs.below hG.out) ok (HAl.out k hk).2.2.1 (HAl.out k hk).2.2.2)
  unfold frE at CK
  have hp0 : ¬ p < 1 := by omega
  have hp3 : ¬ 4000 < p := by omega
  have hp4 : ¬ 60 < p := by omega
  have e1 : IntKind.i64.wrap (p + 1) = ((P + 1 : Nat) : Int) := by rw [hpP]; exact wrap_in (by omega) (by omega)
  obtain ⟨dx, hdx, ex⟩ : ∃ z : Int, z = x2 - x ∧ IntKind.i64.wrap (x2 - x) = z := ⟨_, rfl, wrap_in (by omega) (by omega)⟩
  obtain ⟨dy, hdy, ey⟩ : ∃ z : Int, z = y2 - y ∧ IntKind.i64.wrap (y2 - y) = z := ⟨_, rfl, wrap_in (by omega) (by omega)⟩
  have HBD := hidb (show (-40000 ≤ dx ∧ dx ≤ 40000) ∧ (-40000 ≤ dy ∧ dy ≤ 40000) ∧ (0 ≤ x ∧ x ≤ 40000) ∧ (-40000 ≤ y ∧ y ≤ 40000) by omega)
  have HDX := hidb hdx
  have HDY := hidb hdy
  have HPP := hidb hpP
  have HPB := hidb (And.intro hp1 hp2)
  have F := hidb (LF.new w (.int .i64 x) (.int .i64 y) (.int .i64 x2) (.int .i64 y2) 24 24)
  have CR := hidb (grounded_any g _ (hl.below F.out.gr.out))
  have CC := hidb (fun W1 (hG : Gr w W1) c hc => coded_evc g c hc W1 (hl.below hG.out))
  have HL := hidb hl
  clear hl rp rs ok hv ll h1 h2 hp1 hp2 hpP hx hy hX hS hx2 hy2 hX2 hS2 hdx hdy HAl
  go_enter Tryd.func3, Tryd.ntmps3
  go_wp2_with fail
  refine CR.out.mono ?_
  rintro e w1 ⟨rfl, hB⟩
  have E := hidb (F.out.below hB.out)
  clear hB F CR
  go_wp2_with fail
  refine (S1.out _ E.out.gr).mono ?_
  rintro e w2 ⟨rfl, rfl⟩
  go_upto_region 5 with fail
  go_cut [11, 12] from 41 to 48 (fun s11 s12 wx => ∃ D, s11 = .pointer (some ⟨D, 0, none⟩) ∧ s12 = .nilIface ∧ At wx D [.int .i64 fa, .int .i64 fb] ∧ w.heap.size + 1 < D ∧ Hid (LF w wx (.int .i64 x) (.int .i64 y) (.int .i64 x2) (.int .i64 y2)))
  case first =>
    have E2 := E.out
    have hb3 := E.out.a1.lt
    have hbw : w.heap.size ≤ w2.heap.size := E.out.gr.out.size
    have ST : w2.heap.size ≤ w2.heap.size := Nat.le_refl _
    go_region_held (fun w' => (w'.cell? ⟨pb, po, none⟩ = some (.int .i64 m) ∧ w'.cell? ⟨pb, po + 1, none⟩ = some (.int .i64 n) ∧ w'.cell? ⟨pb, po + 2, none⟩ = some (.slice (some ⟨b, o, none⟩) l.length cap)) ∧ (w'.cell? ⟨w.heap.size, 0, none⟩ = some (.int .i64 x) ∧ w'.cell? ⟨w.heap.size, 1, none⟩ = some (.int .i64 y)))
      (first | (with_reducible exact ⟨(RP.out.below E2.gr.out).all, E2.a0.c2⟩) | exact ⟨(RP.out.below E2.gr.out).all, E2.a0.c2⟩ | exact ⟨(RP.out.below (E2.alloc _).gr.out).all, (E2.alloc _).a0.c2⟩ | exact ⟨(RP.out.below (E2.set2 NL NM _ _).gr.out).all, (E2.set2 NL NM _ _).a0.c2⟩)
      ((first
        | (go_at_call 9; with_reducible refine (CA.out _ (by with_reducible first | exact E2.gr | exact E2.drew.gr | exact (E2.alloc _).gr | exact (E2.drew.alloc _).gr | exact (E2.alloc _).drew.gr)).mono ?_; rintro e w8 ⟨rfl, hB8⟩; (with_reducible first | (have NA := At.below hB8.out (At.new2d' _ _ _ _); have NL := E2.a1.lt) | (have NA := At.below hB8.out (At.drew (At.new2 _ _ _ _)); have NL := E2.a1.lt) | (have NA := At.below hB8.out (At.new2 _ _ _ _); have NL := E2.a1.lt) | skip); have NM := E2.gr.out.size; (with_reducible first | replace E2 := E2.below hB8.out | replace E2 := E2.drew.below hB8.out | replace E2 := (E2.alloc _).below hB8.out | replace E2 := (E2.drew.alloc _).below hB8.out | replace E2 := (E2.alloc _).drew.below hB8.out); clear hB8; (first | (obtain ⟨n0, n1⟩ := NA.c2; obtain ⟨n3, n4⟩ := NA.f2; have NH := NA.has (n := 2) rfl) | skip))))
    all_goals
      go_wp2_with fail
      go_meet
      refine ⟨_, rfl, rfl, ?_, ?_, ?_⟩
    all_goals first
      | exact At.new2 _ _ _ _
      | exact At.fill2 NH _ _
      | exact E2.alloc _
      | exact E2.set2 NL NM _ _
      | exact NL
      | exact E2.a1.lt
      | exact (At.fill2 NH _ _).drew
      | exact (E2.set2 NL NM _ _).drew
      | exact (E2.alloc _).drew
  case rest =>
    clear E
    obtain ⟨D, rfl, rfl, AD, hD, E⟩ := hcut
    have HD := hidb AD
    clear AD
    go_upto_region 6 with fail
    go_cut [13, 14] from 49 to 58 (fun s13 s14 wx => (∃ B cp, s13 = .slice (some ⟨B, 0, none⟩) (P + 1) cp ∧ Hid (FR wx B (proL l m n x y x2 y2 P (P + 1)))) ∧ s14 = .nilIface ∧ Hid (At wx D [.int .i64 fa, .int .i64 fb]) ∧ Hid (LF w wx (.int .i64 x) (.int .i64 y) (.int .i64 x2) (.int .i64 y2)))
    case first =>
      have E2 := E.out
      have NA := HD.out
      go_region_held (fun w' => (w'.cell? ⟨pb, po, none⟩ = some (.int .i64 m) ∧ w'.cell? ⟨pb, po + 1, none⟩ = some (.int .i64 n) ∧ w'.cell? ⟨pb, po + 2, none⟩ = some (.slice (some ⟨b, o, none⟩) l.length cap)) ∧ (w'.cell? ⟨w.heap.size, 0, none⟩ = some (.int .i64 x) ∧ w'.cell? ⟨w.heap.size, 1, none⟩ = some (.int .i64 y)) ∧ (w'.cell? ⟨w.heap.size + 1, 0, none⟩ = some (.int .i64 x2) ∧ w'.cell? ⟨w.heap.size + 1, 1, none⟩ = some (.int .i64 y2)))
        (first | (with_reducible exact ⟨(RP.out.below E2.gr.out).all, E2.a0.c2, E2.a1.c2⟩) | exact ⟨(RP.out.below E2.gr.out).all, E2.a0.c2, E2.a1.c2⟩)
        ((first
          | (go_at_call 10; with_reducible refine (CP.out _ (by with_reducible first | exact E2.gr | exact E2.drew.gr)).mono ?_; rintro e w8 ⟨B8, cp8, rfl, FR8, hB8⟩; (with_reducible first | (replace E2 := E2.below hB8.out; replace NA := At.below hB8.out NA) | (replace E2 := E2.drew.below hB8.out; replace NA := At.below hB8.out NA.drew)); clear hB8)))
      all_goals
        go_wp2_with fail
        go_meet
        first | exact ⟨⟨_, _, rfl, hidb FR8⟩, rfl, hidb NA, hidb E2⟩ | exact ⟨⟨_, _, rfl, hidb FR8.drew⟩, rfl, hidb NA.drew, hidb E2.drew⟩
    case rest =>
      clear E HD
      obtain ⟨⟨B, cp, rfl, FB⟩, rfl, HD, E⟩ := hcut
      go_wp2_with fail
      refine (CW.out _ E.out.gr).mono ?_
      rintro e w4 ⟨rfl, hB⟩
      replace E := hidb (E.out.below hB.out)
      replace HD := hidb (At.below hB.out HD.out)
      replace FB := hidb (FB.out.below hB.out)
      clear hB CW
      obtain ⟨a0, a1⟩ := E.out.a0.c2
      go_wp2_with fail
      clear a0 a1
      refine (C1.out _ E.out.gr).mono ?_
      rintro e w5 ⟨rfl, hB⟩
      replace E := hidb (E.out.below hB.out)
      replace HD := hidb (At.below hB.out HD.out)
      replace FB := hidb (FB.out.below hB.out)
      clear hB
      obtain ⟨a0, a1⟩ := E.out.a1.c2
      go_wp2_with fail
      clear a0 a1
      refine (C2.out _ E.out.gr).mono ?_
      rintro e w5 ⟨rfl, hB⟩
      replace E := hidb (E.out.below hB.out)
      replace HD := hidb (At.below hB.out HD.out)
      replace FB := hidb (FB.out.below hB.out)
      clear hB
      obtain ⟨a0, a1⟩ := E.out.a0.c2
      obtain ⟨d0, d1⟩ := HD.out.c2
      go_wp2_with fail
      clear a0 a1 d0 d1
      refine (CI.out _ E.out.gr).mono ?_
      rintro e w5 ⟨rfl, hB⟩
      replace E := hidb (E.out.below hB.out)
      replace HD := hidb (At.below hB.out HD.out)
      replace FB := hidb (FB.out.below hB.out)
      clear hB
      clear CI C1 C2 HL CC
      go_wp2
      clear HD
      go_loopw [20] (fun t wr => ∃ (k : Nat), k ≤ P + 1 ∧ t = .int .i64 (k : Int) ∧ Hid (LF w wr (.int .i64 x) (.int .i64 y) (.int .i64 x2) (.int .i64 y2)) ∧ Hid (FR wr B (proL l m n x y x2 y2 P (P + 1)))) (fun t _ => P + 1 - (intOf t).toNat)
      case atStart => exact ⟨0, Nat.zero_le _, rfl, E, FB⟩
      case round =>
        clear E FB
        obtain ⟨k, hk, rfl, E, FB⟩ := hrel
        by_cases hkp : (k : Int) ≤ p
        · have hkP : (k : Int) ≤ (P : Int) := by rw [← HPP.out]; exact hkp
          have e5 : IntKind.i64.wrap ((k : Int) + 1) = ((k + 1 : Nat) : Int) := wrap_in (by have := HPB.out; omega) (by have := HPB.out; omega)
          obtain ⟨⟨bx1, bx2⟩, ⟨by1, by2⟩, ⟨bx3, bx4⟩, by3, by4⟩ := HBD.out
          have mx := mul_k (k := k) (d := dx) (by have := HPB.out; omega) bx1 bx2
          have my := mul_k (k := k) (d := dy) (by have := HPB.out; omega) by1 by2
          obtain ⟨kx, hkx, fx⟩ : ∃ z : Int, z = (k : Int) * dx ∧ IntKind.i64.wrap ((k : Int) * dx) = z := ⟨_, rfl, wrap_in (by omega) (by omega)⟩
          obtain ⟨ky, hky, fy⟩ : ∃ z : Int, z = (k : Int) * dy ∧ IntKind.i64.wrap ((k : Int) * dy) = z := ⟨_, rfl, wrap_in (by omega) (by omega)⟩
          rw [← hkx] at mx
          rw [← hky] at my
          have KX := hidb (fun W1 => down_any kx p (by rw [HPP.out]; have := HPB.out; omega) (by rw [HPP.out]; have := HPB.out; omega) (by omega) (by omega) W1)
          have KY := hidb (fun W1 => down_any ky p (by rw [HPP.out]; have := HPB.out; omega) (by rw [HPP.out]; have := HPB.out; omega) (by omega) (by omega) W1)
          have ax : x + kx / p = alo x x2 k P := by unfold alo; rw [hkx, HDX.out, HPP.out]
          have ay : y + ky / p = alo y y2 k P := by unfold alo; rw [hky, HDY.out, HPP.out]
          have dvx := div_k (a := kx) (p := p) (by rw [HPP.out]; have := HPB.out; omega) mx.1 mx.2
          have dvy := div_k (a := ky) (p := p) (by rw [HPP.out]; have := HPB.out; omega) my.1 my.2
          have gx : IntKind.i64.wrap (x + kx / p) = alo x x2 k P := by rw [← ax]; exact wrap_in (by omega) (by omega)
          have gy : IntKind.i64.wrap (y + ky / p) = alo y y2 k P := by rw [← ay]; exact wrap_in (by omega) (by omega)
          have KG := hidb (CK.out k hkP)
          rw [show gh l m n (alX x x2 P k) (alS y y2 P k) = ghk l m n x y x2 y2 P k from rfl] at KG
          have hkl : k < (proL l m n x y x2 y2 P (P + 1)).length := by rw [proL_len]; omega
          have hgk : (proL l m n x y x2 y2 P (P + 1))[k] = ghk l m n x y x2 y2 P k := by simp [proL]
          have HF0 : Hid (∀ W, FR W B (proL l m n x y x2 y2 P (P + 1)) → W.cell? ⟨B, k * 2, none⟩ = some (.int .i64 (frN (ghk l m n x y x2 y2 P k))) ∧ W.cell? ⟨B, k * 2 + 1, none⟩ = some (.int .i64 (frD (ghk l m n x y x2 y2 P k)))) := fun W hF => by
            have := hF.c k hkl
            rw [hgk] at this
            exact this
          have ixf := findex B (P + 1) cp k (by omega)
          generalize frN (ghk l m n x y x2 y2 P k) = zn at *
          generalize frD (ghk l m n x y x2 y2 P k) = zd at *
          generalize alo x x2 k P = vx at *
          generalize alo y y2 k P = vy at *
          generalize kx / p = qx at *
          generalize ky / p = qy at *
          have lk : k < P + 1 := by omega
          clear hkl hgk dvx dvy ax ay mx my hkx hky hkP bx1 bx2 by1 by2 bx3 bx4 by3 by4
          go_upto_region 24 with fail
          go_cut [21] from 160 to 184 (fun s21 wx => ∃ D2, s21 = .pointer (some ⟨D2, 0, none⟩) ∧ At wx D2 [.int .i64 vx, .int .i64 vy] ∧ Hid (LF w wx (.int .i64 x) (.int .i64 y) (.int .i64 x2) (.int .i64 y2)) ∧ Hid (FR wx B (proL l m n x y x2 y2 P (P + 1))))
          case first =>
            have E2 := E.out
            have F2 := FB.out
            go_region_held (fun w' => (w'.cell? ⟨w.heap.size, 0, none⟩ = some (.int .i64 x) ∧ w'.cell? ⟨w.heap.size, 1, none⟩ = some (.int .i64 y)) ∧ (w'.cell? ⟨w.heap.size + 1, 0, none⟩ = some (.int .i64 x2) ∧ w'.cell? ⟨w.heap.size + 1, 1, none⟩ = some (.int .i64 y2)))
              (first | (with_reducible exact ⟨E2.a0.c2, E2.a1.c2⟩) | exact ⟨E2.a0.c2, E2.a1.c2⟩ | exact ⟨(E2.alloc _).a0.c2, (E2.alloc _).a1.c2⟩)
              ((first
                | (go_at_call 15; with_reducible refine (KX.out _).mono ?_; rintro e w8 ⟨rfl, rfl⟩)
                | (go_at_call 15; with_reducible refine (KY.out _).mono ?_; rintro e w8 ⟨rfl, rfl⟩)))
            all_goals
              go_wp2_with fail
              go_meet
              refine ⟨_, rfl, ?_, ?_, ?_⟩
            all_goals first
              | exact At.new2 _ _ _ _
              | exact hidb (E2.alloc _)
              | exact hidb (F2.alloc _)
              | exact (At.new2 _ _ _ _).drew
              | exact At.new2d' _ _ _ _
              | exact hidb (E2.drew.alloc _)
              | exact hidb (F2.drew.alloc _)
              | exact hidb (E2.alloc _).drew
              | exact hidb (F2.alloc _).drew
          case rest =>
            clear E FB
            obtain ⟨D2, rfl, AD2, E, FB⟩ := hcut
            go_upto_region 25 with fail
            go_cut [22] from 185 to 191 (fun s22 wx => s22 = .bool true ∧ Hid (LF w wx (.int .i64 x) (.int .i64 y) (.int .i64 x2) (.int .i64 y2)) ∧ Hid (FR wx B (proL l m n x y x2 y2 P (P + 1))))
            case first =>
              have E2 := E.out
              have F2 := FB.out
              have N2 := AD2
              clear AD2
              go_region_held (fun w' => (w'.cell? ⟨D2, 0, none⟩ = some (.int .i64 vx) ∧ w'.cell? ⟨D2, 1, none⟩ = some (.int .i64 vy)) ∧ (w'.cell? ⟨B, k * 2, none⟩ = some (.int .i64 zn) ∧ w'.cell? ⟨B, k * 2 + 1, none⟩ = some (.int .i64 zd)))
                (first | (with_reducible exact ⟨N2.c2, HF0.out _ F2⟩) | exact ⟨N2.c2, HF0.out _ F2.drew⟩ | exact ⟨N2.c2, HF0.out _ F2⟩)
                ((first
                  | (go_at_call 14; with_reducible refine (KG.out _ (by with_reducible first | exact E2.gr | exact E2.drew.gr)).mono ?_; rintro e w8 ⟨rfl, hB8⟩; (with_reducible first | (replace E2 := E2.below hB8.out; replace F2 := F2.below hB8.out; replace N2 := At.below hB8.out N2) | (replace E2 := E2.drew.below hB8.out; replace F2 := F2.drew.below hB8.out; replace N2 := At.below hB8.out N2.drew)); clear hB8)))
              all_goals
                go_wp2_with fail
                go_meet
                first | exact ⟨rfl, hidb E2, hidb F2⟩ | exact ⟨rfl, hidb E2.drew, hidb F2.drew⟩
            case rest =>
              clear E FB AD2
              obtain ⟨rfl, E, FB⟩ := hcut
              go_wp2
              go_roundw
              case rel => exact ⟨k + 1, by omega, rfl, E, FB⟩
              case measure => simp [intOf]; omega
        · go_wp2
          go_ret
          exact ⟨rfl, E.out.gr⟩
end Go.Proofs.YtpdiefmmenfpaaaDoor
