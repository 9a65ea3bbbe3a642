/-
  relief.Profile of a line on the ground.
-/
import Derived.Test.YtpdiefmmenfpaaaDoorQRlG
namespace Go.Proofs.YtpdiefmmenfpaaaDoor
open Go.RowKit

/-- What a round of Profile leaves as it was. -/
structure PE (w wr W : World) (B : Nat) (k0 k1 k2 : List Value) : Prop where
  gf : GF w W B k0 k1 k2
  gw : Gr wr W
theorem PE.below {w wr W w' : World} {B : Nat} {k0 k1 k2 : List Value} (h : PE w wr W B k0 k1 k2) (hB : Below W.heap.size W w') : PE w wr w' B k0 k1 k2 := ⟨h.gf.below hB, Gr.step h.gw hB⟩
theorem PE.drew {w wr W : World} {B : Nat} {k0 k1 k2 : List Value} (h : PE w wr W B k0 k1 k2) : PE w wr W.drew B k0 k1 k2 := ⟨h.gf.drew, h.gw.drew⟩
theorem PE.alloc {w wr W : World} {B : Nat} {k0 k1 k2 : List Value} (h : PE w wr W B k0 k1 k2) (o : Obj) : PE w wr (W.alloc o) B k0 k1 k2 := h.below ((Below.refl _ _).alloc (Nat.le_refl _) o)
theorem PE.set2 {w wr W : World} {B : Nat} {k0 k1 k2 : List Value} (h : PE w wr W B k0 k1 k2) (hB : B + 1 + 1 < wr.heap.size) (hw : w.heap.size ≤ wr.heap.size) {D : Nat} (hD : wr.heap.size ≤ D) (u v : Value) : PE w wr ((W.setCell ⟨D, 0, none⟩ u).setCell ⟨D, 1, none⟩ v) B k0 k1 k2 :=
  ⟨⟨(h.gf.a0.skip (by omega) _ _).skip (by omega) _ _, (h.gf.a1.skip (by omega) _ _).skip (by omega) _ _, (h.gf.a2.skip (by omega) _ _).skip (by omega) _ _, (h.gf.gr.set (by omega) _ _).set (by omega) _ _⟩, (h.gw.set hD _ _).set hD _ _⟩
theorem PE.all {w wr W : World} {B : Nat} {a b c d e f g : Value} (h : PE w wr W B [a, b, c] [d, e] [f, g]) : (W.cell? ⟨B, 0, none⟩ = some a ∧ W.cell? ⟨B, 1, none⟩ = some b ∧ W.cell? ⟨B, 2, none⟩ = some c) ∧ (W.cell? ⟨B + 1, 0, none⟩ = some d ∧ W.cell? ⟨B + 1, 1, none⟩ = some e) ∧ (W.cell? ⟨B + 1 + 1, 0, none⟩ = some f ∧ W.cell? ⟨B + 1 + 1, 1, none⟩ = some g) := ⟨h.gf.a0.c3, h.gf.a1.c2, h.gf.a2.c2⟩
theorem At.new2d' (W : World) (a b : Value) (t : Nat) : At (W.drew.alloc (.cells #[a, b] t)) W.heap.size [a, b] := At.new2 W.drew a b t
theorem on_alo {m n : Nat} {x y x2 y2 p : Int} (h1 : onI m n x y = true) (h2 : onI m n x2 y2 = true) (hm : 1 ≤ m) (hn : 1 ≤ n) (hp : 1 ≤ p) (k : Nat) (hk : (k : Int) ≤ p) : alo x x2 k p = (alX x x2 p k : Int) ∧ -(alo y y2 k p) = (alS y y2 p k : Int) ∧ alX x x2 p k ≤ 256 * (m - 1) ∧ alS y y2 p k ≤ 256 * (n - 1) := by
  have b1 := alo_bd (f := x) (t := x2) hp (show 0 ≤ (k : Int) by omega) hk
  have b2 := alo_bd (f := y) (t := y2) hp (show 0 ≤ (k : Int) by omega) hk
  unfold onI inI at h1 h2
  simp only [Bool.and_eq_true, decide_eq_true_eq] at h1 h2
  unfold alX alS
  omega
theorem own_mono {w : World} {base base' e size n : Nat} {v : Value} {xs : List Value} (h : w.ownsRow base e size v n xs) (hb : base' ≤ base) : w.ownsRow base' e size v n xs := by
  obtain ⟨h1, h2⟩ := h
  refine ⟨h1, ?_⟩
  rcases h2 with h2 | ⟨g, cap, cur, rfl, h3, h4, h5⟩
  · exact .inl h2
  · exact .inr ⟨g, cap, cur, rfl, Nat.le_trans hb h3, h4, h5⟩
theorem At.grown' {W w' : World} {B : Nat} {l : List Value} {row : Option Nat} (h : At W B l) (hg : W.grownBy w' row) (hne : some B ≠ row) : At w' B l := by
  have hb := hg.block B h.2 hne
  exact ⟨fun i hi => ⟨(World.cell?_of_block (w := W) (a := ⟨B, i, none⟩) hb).trans (h.1 i hi).1, (World.frozen?_of_block (w := W) (a := ⟨B, i, none⟩) hb).trans (h.1 i hi).2⟩, Nat.lt_of_lt_of_le h.2 hg.size⟩
theorem gf_grown {w W w2 : World} {B n e size : Nat} {o : Obj} {v : Value} {k0 k1 k2 xs : List Value} (h : GF w W B k0 k1 k2) (hO : W.ownsRow (B + 1 + 1 + 1) e size v n xs) (hB : w.heap.size = B) (hg : (W.alloc o).grownBy w2 v.ownBlock) : GF w w2 B k0 k1 k2 := by
  have hne : ∀ C, C < B + 1 + 1 + 1 → some C ≠ v.ownBlock := fun C hC e => by have := (hO.lt C e.symm).1; omega
  refine ⟨At.grown' (h.a0.alloc o) hg (hne _ (by omega)), At.grown' (h.a1.alloc o) hg (hne _ (by omega)), At.grown' (h.a2.alloc o) hg (hne _ (by omega)), ?_⟩
  exact Below.grown (h.gr.alloc o).out hg (by have := h.gr.out.size; simp; omega) (fun k hk => by have := (hO.lt k hk).1; omega)
set_option maxRecDepth 4000 in
set_option maxHeartbeats 16000000 in
theorem profile_D (g : Nat → Addr) {m n : Nat} {b o cap : Nat} {l : List Int} (x y x2 y2 : Int) (p : Nat) (w : World) (h : Rs w b o cap l) (ok : Ok l m n) (hv : vcode m n l = 0) (hl : Laid w g) (hp1 : 1 ≤ p) (hp2 : p ≤ 4000) (ho : onI m n x y = true) (hq : onI m n x2 y2 = true) : Calls Tryd.prog 10 #[raV m n (.slice (some ⟨b, o, none⟩) l.length cap), spV x y, spV x2 y2, .int .i64 (p : Int)] w fun e w' => ∃ v, e = .returned (.tuple #[v, .nilIface]) ∧ w'.ownsRow w.heap.size 28 2 v (p + 1) (fls (proL l m n x y x2 y2 p (p + 1))) ∧ Gr w w' := by
  have hm1 := ok.m1
  have hn1 := ok.n1
  have hm2 := ok.m2
  have hn2 := ok.n2
  have F := hidb (GF.new w (.int .i64 m) (.int .i64 n) (.slice (some ⟨b, o, none⟩) l.length cap) (.int .i64 x) (.int .i64 y) (.int .i64 x2) (.int .i64 y2) 35 24 24)
  have C1 := hidb (valid_any g m n (some ⟨b, o, none⟩) b o cap l _ (h.isl.below F.out.gr.out) (by have := ok.len_le; omega) (hl.below F.out.gr.out))
  rw [hv, show evc g 0 = .nilIface from rfl] at C1
  have C2 := hidb (fun W1 => rwithin_any (p : Int) 1 4000 W1)
  rw [show inI 1 4000 (p : Int) = true by unfold inI; simp; omega] at C2
  have C3 := hidb (fun W1 => on_any m n ok.m2 ok.n2 (.slice (some ⟨b, o, none⟩) l.length cap) x y W1)
  have C4 := hidb (fun W1 => on_any m n ok.m2 ok.n2 (.slice (some ⟨b, o, none⟩) l.length cap) x2 y2 W1)
  rw [ho] at C3
  rw [hq] at C4
  have HAl := hidb (fun (k : Nat) (hk : (k : Int) ≤ (p : Int)) => on_alo (p := (p : Int)) ho hq hm1 hn1 (by omega) k hk)
  have CX := hidb (fun (k : Nat) (hk : (k : Int) ≤ (p : Int)) W1 => along_any x x2 k (p : Int) (by omega) (by omega) (by omega) (by omega) (by unfold onI inI at ho; simp at ho; omega) (by unfold onI inI at ho; simp at ho; omega) (by unfold onI inI at hq; simp at hq; omega) (by unfold onI inI at hq; simp at hq; omega) W1)
  have CY := hidb (fun (k : Nat) (hk : (k : Int) ≤ (p : Int)) W1 => along_any y y2 k (p : Int) (by omega) (by omega) (by omega) (by omega) (by unfold onI inI at ho; simp at ho; omega) (by unfold onI inI at ho; simp at ho; omega) (by unfold onI inI at hq; simp at hq; omega) (by unfold onI inI at hq; simp at hq; omega) W1)
  have CG := hidb (fun (k : Nat) (hk : (k : Int) ≤ (p : Int)) W1 (hG : Gr w W1) => ground_any (X := alX x x2 p k) (S := alS y y2 p k) (alo x x2 k p) (alo y y2 k p) (HAl.out k hk).1 (HAl.out k hk).2.1 W1 (h.below hG.out) ok (HAl.out k hk).2.2.1 (HAl.out k hk).2.2.2)
  obtain ⟨i0, hi, hz0, hz1, hz2⟩ := info_parts infoFr
  obtain ⟨P1, hP1⟩ : ∃ q : Nat, q = p + 1 := ⟨_, rfl⟩
  have e1 : IntKind.i64.wrap ((p : Int) + 1) = (P1 : Int) := by rw [show (p : Int) + 1 = (P1 : Int) by omega]; exact wrap_in (by omega) (by omega)
  rw [← hP1]
  have HP1 := hidb hP1
  have lP : P1 ≤ 4001 := by omega
  clear hP1
  clear hm1 hn1 hm2 hn2 h ok hv hl ho hq HAl
  go_enter Tryd.func10, Tryd.ntmps10
  go_wp2_with fail
  refine C1.out.mono ?_
  rintro e w1 ⟨rfl, hB⟩
  have E := hidb (F.out.below hB.out)
  clear hB F C1
  go_wp2_with fail
  refine (C2.out _).mono ?_
  rintro e w2 ⟨rfl, rfl⟩
  obtain ⟨x0, x1⟩ := E.out.a1.c2
  obtain ⟨y0, y1, y2'⟩ := E.out.a0.c3
  go_wp2_with fail
  refine (C3.out _).mono ?_
  rintro e w3 ⟨rfl, hB⟩
  replace E := hidb (E.out.below hB.out)
  clear x0 x1 y0 y1 y2' hB
  obtain ⟨x0, x1⟩ := E.out.a2.c2
  obtain ⟨y0, y1, y2'⟩ := E.out.a0.c3
  go_wp2_with fail
  refine (C4.out _).mono ?_
  rintro e w4 ⟨rfl, hB⟩
  replace E := hidb (E.out.below hB.out)
  clear x0 x1 y0 y1 y2' hB C2 C3 C4
  have szB := E.out.a2.lt
  go_wp2_with (refine wpList_make_own _ rfl _ _ 36 rfl (w.heap.size + 1 + 1 + 1) 28 i0 (.agg #[.int .i64 0, .int .i64 0]) 2 undFr hi hz0 hz1 .i64 .i64 _ P1 rfl rfl rfl (by rw [hz2]; omega) (by unfold maxLen; omega) (by omega) ?_)
  intro w5 hown hgrow
  have hB5 : Below w4.heap.size w4 w5 := (Below.refl _ _).grown hgrow (Nat.le_refl _) (by intro k hk; cases hk)
  replace E := hidb (E.out.below hB5)
  replace szB : w.heap.size + 1 + 1 < w5.heap.size := Nat.lt_of_lt_of_le szB hB5.size
  clear hgrow hB5
  go_wp2
  go_loopw [11, 40] (fun v t wr => ∃ (k : Nat) (ad : Option Addr) (cp : Nat), k ≤ P1 ∧ v = .slice ad k cp ∧ t = .int .i64 (k : Int) ∧ wr.ownsRow (w.heap.size + 1 + 1 + 1) 28 2 v k (fls (proL l m n x y x2 y2 p k)) ∧ Hid (GF w wr w.heap.size [.int .i64 m, .int .i64 n, .slice (some ⟨b, o, none⟩) l.length cap] [.int .i64 x, .int .i64 y] [.int .i64 x2, .int .i64 y2])) (fun _ t _ => P1 - (intOf t).toNat)
  case atStart => exact ⟨0, _, _, Nat.zero_le _, rfl, rfl, by simpa [proL, fls] using hown, E⟩
  case round =>
    clear hown E szB
    obtain ⟨k, ad, cp, hk, rfl, rfl, hown, E⟩ := hrel
    have HO := hidb hown
    clear hown
    by_cases h1 : k < P1
    · have h1' : (k : Int) < (P1 : Int) := by omega
      have hkp : (k : Int) ≤ (p : Int) := by have := HP1.out; omega
      have e5 : IntKind.i64.wrap ((k : Int) + 1) = ((k + 1 : Nat) : Int) := wrap_in (by omega) (by omega)
      have KX := hidb (CX.out k hkp)
      have KY := hidb (CY.out k hkp)
      have KG := hidb (CG.out k hkp)
      unfold frE at KG
      rw [show gh l m n (alX x x2 p k) (alS y y2 p k) = ghk l m n x y x2 y2 p k from rfl] at KG
      obtain ⟨z, hz⟩ : ∃ z, ghk l m n x y x2 y2 p k = z := ⟨_, rfl⟩
      have HZ := hidb hz
      rw [hz] at KG
      clear hz
      generalize alo x x2 k p = ax at *
      generalize alo y y2 k p = ay at *
      have HK := hidb hkp
      clear hkp
      go_upto_region 12 with fail
      go_cut [13, 14] from 43 to 62 (fun s13 s14 wx => ∃ D, s13 = .pointer (some ⟨D, 0, none⟩) ∧ s14 = .nilIface ∧ At wx D (fcs z) ∧ Hid (PE w wr wx w.heap.size [.int .i64 m, .int .i64 n, .slice (some ⟨b, o, none⟩) l.length cap] [.int .i64 x, .int .i64 y] [.int .i64 x2, .int .i64 y2]))
      case first =>
        have E2 : PE w wr wr w.heap.size [.int .i64 m, .int .i64 n, .slice (some ⟨b, o, none⟩) l.length cap] [.int .i64 x, .int .i64 y] [.int .i64 x2, .int .i64 y2] := ⟨E.out, Gr.refl _⟩
        have hb3 := E.out.a2.lt
        have hbw : w.heap.size ≤ wr.heap.size := by omega
        go_region_held (fun w' => (w'.cell? ⟨w.heap.size, 0, none⟩ = some (.int .i64 m) ∧ w'.cell? ⟨w.heap.size, 1, none⟩ = some (.int .i64 n) ∧ w'.cell? ⟨w.heap.size, 2, none⟩ = some (.slice (some ⟨b, o, none⟩) l.length cap)) ∧ (w'.cell? ⟨w.heap.size + 1, 0, none⟩ = some (.int .i64 x) ∧ w'.cell? ⟨w.heap.size + 1, 1, none⟩ = some (.int .i64 y)) ∧ (w'.cell? ⟨w.heap.size + 1 + 1, 0, none⟩ = some (.int .i64 x2) ∧ w'.cell? ⟨w.heap.size + 1 + 1, 1, none⟩ = some (.int .i64 y2)))
          (first | (with_reducible exact E2.all) | exact E2.all | exact (E2.alloc _).all | exact (E2.set2 hb3 hbw NL _ _).all)
          ((first
            | (go_at_call 34; with_reducible refine (KX.out _).mono ?_; rintro e w8 ⟨rfl, rfl⟩)
            | (go_at_call 34; with_reducible refine (KY.out _).mono ?_; rintro e w8 ⟨rfl, rfl⟩)
            | (go_at_call 32; with_reducible refine (KG.out _ (by with_reducible first | exact E2.gf.gr | exact E2.drew.gf.gr | exact (E2.alloc _).gf.gr | exact (E2.drew.alloc _).gf.gr | exact (E2.alloc _).drew.gf.gr)).mono ?_; rintro e w8 ⟨rfl, hB8⟩; (with_reducible first | (have NA := At.below hB8.out (At.new2d' _ _ _ _); have NL := E2.gw.out.size) | (have NA := At.below hB8.out (At.drew (At.new2 _ _ _ _)); have NL := E2.gw.out.size) | (have NA := At.below hB8.out (At.new2 _ _ _ _); have NL := E2.gw.out.size) | skip); (with_reducible first | replace E2 := E2.below hB8.out | replace E2 := E2.drew.below hB8.out | replace E2 := (E2.alloc _).below hB8.out | replace E2 := (E2.drew.alloc _).below hB8.out | replace E2 := (E2.alloc _).drew.below hB8.out); have SZ := E2.gw.out.size; clear hB8; (first | (obtain ⟨n0, n1⟩ := NA.c2; obtain ⟨n3, n4⟩ := NA.f2; have NH := NA.has (n := 2) rfl) | skip))))
        all_goals
          go_wp2_with fail
          go_meet
          refine ⟨_, rfl, rfl, ?_, ?_⟩
        all_goals first
          | exact At.new2 _ _ _ _
          | exact At.fill2 NH _ _
          | exact E2.alloc _
          | exact E2.set2 hb3 hbw NL _ _
          | exact (At.fill2 NH _ _).drew
          | exact (E2.set2 hb3 hbw NL _ _).drew
          | exact (E2.alloc _).drew
      case rest =>
        clear E
        obtain ⟨D, rfl, rfl, AD, E2⟩ := hcut
        have HO2 := own_bel HO.out E2.out.gw.out
        have hb3 : w.heap.size + 1 + 1 < wc.heap.size := E2.out.gf.a2.lt
        obtain ⟨d0, d1⟩ := AD.c2
        clear AD HO
        go_wp2_with (at_builtin; refine wpList_append_own _ rfl _ _ 36 rfl (w.heap.size + 1 + 1 + 1) 28 i0 (.agg #[.int .i64 0, .int .i64 0]) 2 16 undFr hi hz0 hz1 hz2 rfl (by decide) _ _ _ rfl (HO2.alloc _) ⟨wc.heap.size, 0, none⟩ 1 1 (fcs z) rfl rfl ?c1 ?c2 ?c3 ?c4 ?c5 ?_)
        case c1 => intro j u hj; exact news2 hj (by simp [go_sem, Addr.add]) (by simp [go_sem, Addr.add])
        case c2 => intro u hu; simp at hu; rcases hu with rfl | rfl <;> rfl
        case c3 => unfold maxLen; omega
        case c4 => omega
        case c5 => simp; omega
        intro v' w6 hown' hgrow _
        rw [fls_snoc, ← HZ.out, proL_snoc] at hown'
        obtain ⟨ad', cap', hv'⟩ := own_shape2 hown'
        have E3 : GF w w6 w.heap.size [.int .i64 m, .int .i64 n, .slice (some ⟨b, o, none⟩) l.length cap] [.int .i64 x, .int .i64 y] [.int .i64 x2, .int .i64 y2] := gf_grown E2.out.gf HO2 rfl hgrow
        clear hgrow HO2 d0 d1
        go_wp2
        go_roundw
        case rel => exact ⟨k + 1, ad', cap', by omega, hv', rfl, hown', hidb E3⟩
        case measure => simp [intOf]; omega
    · have h1' : ¬ (k : Int) < (P1 : Int) := by omega
      have hkP : k = P1 := by omega
      have HO3 := hidb (own_mono HO.out (show w.heap.size ≤ w.heap.size + 1 + 1 + 1 by omega))
      rw [hkP] at HO3
      have HKP := hidb hkP
      clear hkP HO
      go_wp2
      go_ret2
      exact ⟨_, rfl, by have := HO3.out; rw [HKP.out]; exact this, E.out.gr⟩
end Go.Proofs.YtpdiefmmenfpaaaDoor
