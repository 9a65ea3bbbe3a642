/-
  fix.Solve, of valid ranges.
-/
import Derived.Test.YtehkonddgiakaaaDoorQFxM
namespace Go.Proofs.YtehkonddgiakaaaDoor
open Go.RowKit
attribute [local go_sem ↓] Go.wp_at_zero Go.wp_at_succ

/-- Nine numbers stored into a new block. -/
theorem Mat.made {W : World} {B : Nat} {ps : List (Bool × Value)} {zs : List Int} (hA : At W B (pc zero9)) (hp : ps.length = 9) (hz : zs.length = 9) (hN : ∀ t (h : t < ps.length) (h' : t < zs.length), Nm W ps[t].1 ps[t].2 zs[t]) : Mat (W.setCells B 0 (pc ps)) B ps zs := by
  have hl : (pc ps).length = 18 := by rw [pc_len, hp]
  have ht : W.there B 0 (pc ps).length := hA.there (by rw [hl]; decide)
  obtain ⟨m, hm⟩ : ∃ m, W.cell? ⟨B, 0, none⟩ = some (.bool m) := ⟨false, (hA.1 0 (by decide)).1⟩
  refine ⟨⟨fun i hi => ⟨?_, ?_⟩, by rw [size_setCs]; exact hA.lt⟩, hp, hz, fun t h h' => ⟨(hN t h h').1.setCs hm _, (hN t h h').2⟩⟩
  · have := World.rangeAt_setCells_same W B 0 (pc ps) ht i (pc ps)[i] (List.getElem?_eq_getElem hi)
    rwa [Nat.zero_add] at this
  · have := (ht i hi).2
    rw [Nat.zero_add] at this
    rw [World.frozen?_setCells]; exact this
theorem nine {ps : List (Bool × Value)} (h : ps.length = 9) : ∃ m0 m1 m2 m3 m4 m5 m6 m7 m8 v0 v1 v2 v3 v4 v5 v6 v7 v8, ps = [(m0, v0), (m1, v1), (m2, v2), (m3, v3), (m4, v4), (m5, v5), (m6, v6), (m7, v7), (m8, v8)] := by
  match ps, h with
  | [(a0, b0), (a1, b1), (a2, b2), (a3, b3), (a4, b4), (a5, b5), (a6, b6), (a7, b7), (a8, b8)], _ => exact ⟨_, _, _, _, _, _, _, _, _, _, _, _, _, _, _, _, _, _, rfl⟩
theorem At.c18 {W' : World} {B : Nat} {m0 m1 m2 m3 m4 m5 m6 m7 m8 : Bool} {v0 v1 v2 v3 v4 v5 v6 v7 v8 : Value} (h : At W' B (pc [(m0, v0), (m1, v1), (m2, v2), (m3, v3), (m4, v4), (m5, v5), (m6, v6), (m7, v7), (m8, v8)])) : W'.cell? ⟨B, 0, none⟩ = some (.bool m0) ∧ W'.cell? ⟨B, 1, none⟩ = some (v0) ∧ W'.cell? ⟨B, 2, none⟩ = some (.bool m1) ∧ W'.cell? ⟨B, 3, none⟩ = some (v1) ∧ W'.cell? ⟨B, 4, none⟩ = some (.bool m2) ∧ W'.cell? ⟨B, 5, none⟩ = some (v2) ∧ W'.cell? ⟨B, 6, none⟩ = some (.bool m3) ∧ W'.cell? ⟨B, 7, none⟩ = some (v3) ∧ W'.cell? ⟨B, 8, none⟩ = some (.bool m4) ∧ W'.cell? ⟨B, 9, none⟩ = some (v4) ∧ W'.cell? ⟨B, 10, none⟩ = some (.bool m5) ∧ W'.cell? ⟨B, 11, none⟩ = some (v5) ∧ W'.cell? ⟨B, 12, none⟩ = some (.bool m6) ∧ W'.cell? ⟨B, 13, none⟩ = some (v6) ∧ W'.cell? ⟨B, 14, none⟩ = some (.bool m7) ∧ W'.cell? ⟨B, 15, none⟩ = some (v7) ∧ W'.cell? ⟨B, 16, none⟩ = some (.bool m8) ∧ W'.cell? ⟨B, 17, none⟩ = some (v8) := ⟨(h.1 0 (by simp [pc])).1, (h.1 1 (by simp [pc])).1, (h.1 2 (by simp [pc])).1, (h.1 3 (by simp [pc])).1, (h.1 4 (by simp [pc])).1, (h.1 5 (by simp [pc])).1, (h.1 6 (by simp [pc])).1, (h.1 7 (by simp [pc])).1, (h.1 8 (by simp [pc])).1, (h.1 9 (by simp [pc])).1, (h.1 10 (by simp [pc])).1, (h.1 11 (by simp [pc])).1, (h.1 12 (by simp [pc])).1, (h.1 13 (by simp [pc])).1, (h.1 14 (by simp [pc])).1, (h.1 15 (by simp [pc])).1, (h.1 16 (by simp [pc])).1, (h.1 17 (by simp [pc])).1⟩
theorem At.setCs {W : World} {B c : Nat} {l : List Value} (h : At W B l) (hc : B ≠ c) (vs : List Value) : At (W.setCells c 0 vs) B l := by
  refine ⟨fun i hi => ⟨?_, ?_⟩, by rw [size_setCs]; exact h.lt⟩
  · rw [World.cell?_setCells_out c vs 0 W ⟨B, i, none⟩ (fun hb _ => absurd hb hc)]; exact (h.1 i hi).1
  · rw [World.frozen?_setCells]; exact (h.1 i hi).2
theorem q_five (g : Nat → Addr) (x y : Int) : (qf x y = true ∧ qe g x y = .nilIface) ∨ (qf x y = false ∧ qe g x y = errV g 1) := by
  unfold qf qe re
  by_cases h : fits (rn x.natAbs y.natAbs) (rd x.natAbs y.natAbs)
  · left; exact ⟨decide_eq_true h, if_pos h⟩
  · right; exact ⟨decide_eq_false h, if_neg h⟩
theorem Pt.setI {w : World} {v : Value} {l : List Nat} {B : Nat} {x : Int} (h : Pt w v l) (hA : w.cell? ⟨B, 0, none⟩ = some (.int .i64 x)) (o : Nat) (y : Value) : Pt (w.setCell ⟨B, o, none⟩ y) v l := by
  rcases h with h | ⟨b, cap, h1, h2, h3, h4, h5⟩
  · exact .inl h
  · rcases Nat.eq_zero_or_pos l.length with c | c
    · refine .inr ⟨b, cap, h1, h2, h3, fun i hi => by omega, by simpa using h5⟩
    · have hne : ¬ B = b := by
        intro e
        subst e
        have c' := h4 0 c
        rw [hA] at c'; cases c'
      refine .inr ⟨b, cap, h1, h2, h3, fun i hi => ?_, by simpa using h5⟩
      have hne' : ¬ b = B := fun e => hne e.symm
      simp [go_sem, h4 i hi]
theorem Nm.setI2 {w : World} {m : Bool} {v : Value} {z : Int} {B : Nat} {a b x y : Int} (h : Nm w m v z) (hA : At w B [.int .i64 a, .int .i64 b]) : Nm ((w.setCell ⟨B, 0, none⟩ (.int .i64 x)).setCell ⟨B, 1, none⟩ (.int .i64 y)) m v z :=
  ⟨(h.1.setI hA.c2.1 0 _).setI (hA.put 0 (.int .i64 x)).c2.1 1 _, h.2⟩
theorem Mat.setI2 {W : World} {S : Nat} {ps : List (Bool × Value)} {zs : List Int} {B : Nat} {a b x y : Int} (h : Mat W S ps zs) (hA : At W B [.int .i64 a, .int .i64 b]) (hB : ¬ B = S) : Mat ((W.setCell ⟨B, 0, none⟩ (.int .i64 x)).setCell ⟨B, 1, none⟩ (.int .i64 y)) S ps zs :=
  ⟨(h.at_.skip hB _ _).skip hB _ _, h.pl, h.zl, fun t u v => (h.nm t u v).setI2 hA⟩
set_option maxRecDepth 8000 in
set_option maxHeartbeats 16000000 in
theorem solve_ok (g : Nat → Addr) (ad : Option Addr) (b cap : Nat) (l : List Rg) (X Y E : Value) (w : World) (h : RSl 30 w ad b cap l) (hl : Laid w g) (hr : rerr g l = .nilIface) (hp : SP g l X Y E) : Calls Tryd.prog 7 #[.slice ad l.length cap] w fun e w' => e = .returned (.tuple #[X, Y, E]) ∧ Gr w w' := by
  obtain ⟨ll, hok⟩ := rerr_nil hr
  have HV := hidb (fun w (h : RSl 30 w ad b cap l) hl => valid_any g ad b cap l w h (by omega) hl)
  rw [hr] at HV
  have HDi := hidb (fun w (h : RSl 30 w ad b cap l) => differences_all ad b cap l w h (by omega) hok)
  have HAd := hidb (fun w ad b cap (h : RSl 73 w ad b cap (difs l)) => added_any ad b cap (difs l) w h (by have := difs_len l; omega) (difs_sme hok))
  have hbd := sms_bd hok (by omega)
  have hz9 : (sms (difs l)).length = 9 := by simp [sms]
  have HCr := hidb (fun a b ha hb w ps hp hN => crossed_any a b ha hb ps (sms (difs l)) w hp hz9 hN hbd)
  have HB0 := hidb (crs_bw hbd (a := 0) (b := 1) (by decide) (by decide)).1
  have HB1 := hidb (crs_bw hbd (a := 2) (b := 1) (by decide) (by decide)).1
  have HB2 := hidb (crs_bw hbd (a := 0) (b := 2) (by decide) (by decide)).1
  have HZ9 := hidb hz9
  have HR := hidb h
  have HL := hidb hl
  have HSP := hidb hp
  have HRr := hidb hr
  clear h hl hp hr hbd hz9 hok
  generalize hD : (difs l).length = D at *
  clear hD
  have hge : w.heap.size ≤ w.heap.size + 1 := by omega
  have XA := (At.new2 w (.int .i64 0) (.int .i64 0) 25).alloc (.cells #[.int .i64 0, .int .i64 0] 25)
  have YA := At.nx2 (W := w) (.cells #[.int .i64 0, .int .i64 0] 25) (.int .i64 0) (.int .i64 0) 25
  have HC := ((Gr.refl w).alloc (.cells #[.int .i64 0, .int .i64 0] 25)).alloc (.cells #[.int .i64 0, .int .i64 0] 25)
  go_enter Tryd.func7, Tryd.ntmps7
  go_wp2_with fail
  refine (HV.out _ (HR.out.below HC.out) (HL.out.below HC.out)).mono ?_
  rintro e w1 ⟨rfl, hB⟩
  replace XA := At.below hB XA
  replace YA := At.below hB YA
  replace HC := Gr.step HC hB
  clear hB HV
  go_wp2_with fail
  refine (HDi.out _ (HR.out.below HC.out)).mono ?_
  rintro e w2 ⟨ad2, b2, cap2, rfl, hr2, hB⟩
  replace XA := At.below hB XA
  replace YA := At.below hB YA
  replace HC := Gr.step HC hB
  have HR2 := hidb hr2
  clear hB HDi hr2 HR
  go_wp2_with fail
  refine (HAd.out _ _ _ _ HR2.out).mono ?_
  rintro e w3 ⟨ps, rfl, hp9, hN, hB, _⟩
  replace XA := At.below hB XA
  replace YA := At.below hB YA
  replace HC := Gr.step HC hB
  have HN := hidb hN
  have HP9 := hidb hp9
  clear hB HAd HR2 hN hp9
  have ZA := At.pairs w3 71
  obtain ⟨B, hBe⟩ : ∃ B, B = w3.heap.size := ⟨_, rfl⟩
  rw [← hBe] at ZA
  have hBl : w.heap.size + 1 < B := by rw [hBe]; exact YA.lt
  have HM := hidb (Mat.made ZA HP9.out HZ9.out (fun t h h' => (HN.out t h h').below ((Below.refl _ _).alloc (Nat.le_refl _) _)))
  replace XA := (XA.alloc (.cells #[.bool false, .slice none 0 0, .bool false, .slice none 0 0, .bool false, .slice none 0 0, .bool false, .slice none 0 0, .bool false, .slice none 0 0, .bool false, .slice none 0 0, .bool false, .slice none 0 0, .bool false, .slice none 0 0, .bool false, .slice none 0 0] 71)).setCs (c := B) (by omega) (pc ps)
  replace YA := (YA.alloc (.cells #[.bool false, .slice none 0 0, .bool false, .slice none 0 0, .bool false, .slice none 0 0, .bool false, .slice none 0 0, .bool false, .slice none 0 0, .bool false, .slice none 0 0, .bool false, .slice none 0 0, .bool false, .slice none 0 0, .bool false, .slice none 0 0] 71)).setCs (c := B) (by omega) (pc ps)
  replace HC := Gr.setCs (W := w3) (c := B) (by omega) (pc ps) 0 (HC.alloc (.cells #[.bool false, .slice none 0 0, .bool false, .slice none 0 0, .bool false, .slice none 0 0, .bool false, .slice none 0 0, .bool false, .slice none 0 0, .bool false, .slice none 0 0, .bool false, .slice none 0 0, .bool false, .slice none 0 0, .bool false, .slice none 0 0] 71))
  have HL18 : Hid ((pc ps).length = 18) := by rw [pc_len, HP9.out]; rfl
  have HO : Hid (∀ v ∈ pc ps, v.oneCell' = true) := HM.out.ones
  have HU := hidb (show Tryd.prog.underlying 71 = some _ from Tryd.underlying71)
  rw [hBe] at HM
  go_wp2_with (first
    | refine wpList_store_mid rfl 71 _ _ rfl w3.heap.size 0 (pc ps).toArray rfl rfl ((At.pairs w3 71).there (by rw [List.size_toArray, HL18.out]; decide)) (by rw [List.size_toArray, HL18.out]; exact infoN) (all_oneCell_toArray HO.out) ?_
    | refine wpList_load_mid rfl 71 _ rfl w3.heap.size 0 rfl (pc ps) _ HM.out.at_.range HU.out rfl (by rw [HL18.out]; exact infoN) ?_)
  rw [← hBe]
  rw [← hBe] at HM
  clear hBe ZA HN
  generalize (w3.alloc (.cells #[.bool false, .slice none 0 0, .bool false, .slice none 0 0, .bool false, .slice none 0 0, .bool false, .slice none 0 0, .bool false, .slice none 0 0, .bool false, .slice none 0 0, .bool false, .slice none 0 0, .bool false, .slice none 0 0, .bool false, .slice none 0 0] 71)).setCells B 0 (pc ps) = w4 at *
  refine (HCr.out 0 1 (by decide) (by decide) w4 ps HP9.out HM.out.nm).mono ?_
  rintro e w5 ⟨o, t, rfl, hn, hB, _⟩
  obtain ⟨ado, Lo, capo, hf⟩ := hn.form
  subst hf
  replace XA := At.below hB XA
  replace YA := At.below hB YA
  replace HC := Gr.step HC hB
  replace HM := hidb (HM.out.below hB)
  clear hB
  have OA := At.new2 w5 (.bool o) (.slice ado Lo capo) 68
  obtain ⟨O, hO⟩ : ∃ O, O = w5.heap.size := ⟨_, rfl⟩
  rw [← hO] at OA
  have hOl : B < O := by rw [hO]; exact HM.out.at_.lt
  replace XA := XA.alloc (.cells #[.bool o, .slice ado Lo capo] 68)
  replace YA := YA.alloc (.cells #[.bool o, .slice ado Lo capo] 68)
  replace HC := HC.alloc (.cells #[.bool o, .slice ado Lo capo] 68)
  replace HM := hidb (HM.out.alloc (.cells #[.bool o, .slice ado Lo capo] 68))
  have HOv := hidb (hn.below ((Below.refl _ _).alloc (Nat.le_refl _) (.cells #[.bool o, .slice ado Lo capo] 68)))
  clear hn
  go_wp2_with fail
  rw [← hO]
  clear hO
  generalize w5.alloc (.cells #[.bool o, .slice ado Lo capo] 68) = w6 at *
  refine (sign_nm HOv.out).mono ?_
  rintro e w7 ⟨rfl, hB, _⟩
  replace XA := At.below hB XA
  replace YA := At.below hB YA
  replace OA := At.below hB OA
  replace HC := Gr.step HC hB
  replace HM := hidb (HM.out.below hB)
  replace HOv := hidb (HOv.out.below hB)
  clear hB
  obtain ⟨x0, x1⟩ := XA.c2
  obtain ⟨x2, x3⟩ := XA.f2
  obtain ⟨y0, y1⟩ := YA.c2
  obtain ⟨y2, y3⟩ := YA.f2
  have HSP2 : Hid ((sOv l = 0 ∧ X = fr0 ∧ Y = fr0 ∧ E = errV g 5) ∨ (¬ sOv l = 0 ∧ ((qf (sX l) (sOv l) = false ∧ X = fr0 ∧ Y = fr0 ∧ E = errV g 1) ∨ (qf (sX l) (sOv l) = true ∧ qf (sY l) (sOv l) = false ∧ X = fr0 ∧ Y = fr0 ∧ E = errV g 1) ∨ (qf (sX l) (sOv l) = true ∧ qf (sY l) (sOv l) = true ∧ X = .agg #[.int .i64 (qx (sX l) (sOv l)), .int .i64 (qy (sX l) (sOv l))] ∧ Y = .agg #[.int .i64 (qx (sY l) (sOv l)), .int .i64 (qy (sY l) (sOv l))] ∧ E = .nilIface)))) := by
    rcases HSP.out with ⟨q0, _⟩ | ⟨_, q1, q2⟩ | ⟨_, q1, q2⟩ | ⟨_, q1, q2⟩ | ⟨_, q1, q2⟩
    · exact absurd HRr.out q0
    · exact .inl ⟨q1, q2⟩
    · exact .inr ⟨q1, .inl q2⟩
    · exact .inr ⟨q1, .inr (.inl q2)⟩
    · exact .inr ⟨q1, .inr (.inr q2)⟩
  clear HSP HRr
  rcases HSP2.out with ⟨q1, q2, q3, q4⟩ | ⟨q1, q2⟩
  · have hs : sgn (crs (sms (difs l)) 0 1) = 0 := by
      have e : crs (sms (difs l)) 0 1 = 0 := q1
      rw [e]; rfl
    rw [hs]
    have CL : Hid (Laid w7 g) := HL.out.below HC.out
    have cE : w7.cell? ⟨0, 0, none⟩ = some (errV g 5) := CL.out.cell 5 (by decide)
    have hE : 0 < w.heap.size := lt_of_cell (HL.out.cell 5 (by decide))
    have n1 : ¬ w.heap.size = 0 := by omega
    have n2 : ¬ w.heap.size + 1 = 0 := by omega
    have K2 := hidb q2
    have K3 := hidb q3
    have K4 := hidb q4
    clear hs q1 q2 q3 q4 HSP2 HM HOv OA
    go_upto_region 7 with fail
    go_region_held (fun w' => w'.cell? ⟨0, 0, none⟩ = some (errV g 5))
      (first | (with_reducible assumption) | exact cE | exact keep2 cE n1 | exact keep2 (keep2 cE n1) n2 | exact keep2 (keep2 cE n2) n1)
      (fail)
    all_goals
      go_wp2
      exact bodyPost_ret (v := .tuple #[fr0, fr0, errV g 5]) (by simp [results, Tryd.results7, go_sem, x0, x1, y0, y1]) rfl ⟨by rw [K2.out, K3.out, K4.out], by first | exact ((((HC.set (Nat.le_refl _) _ _).set (Nat.le_refl _) _ _).set hge _ _).set hge _ _).drew | exact ((((HC.drew.set (Nat.le_refl _) _ _).set (Nat.le_refl _) _ _).set hge _ _).set hge _ _)⟩
  · have hs : ¬ sgn (crs (sms (difs l)) 0 1) = 0 := sgn_ne q1
    have HQ := hidb q2
    have HNz := hidb q1
    have HF1 := hidb (fun w m n u v (h : Nm w m u (crs (sms (difs l)) 2 1)) (k : Nm w n v (crs (sms (difs l)) 0 1)) (hl : Laid w g) => frac_all g HB1.out HB0.out HNz.out h k hl)
    have HF2 := hidb (fun w m n u v (h : Nm w m u (crs (sms (difs l)) 0 2)) (k : Nm w n v (crs (sms (difs l)) 0 1)) (hl : Laid w g) => frac_all g HB2.out HB0.out HNz.out h k hl)
    generalize sgn (crs (sms (difs l)) 0 1) = sy at *
    clear q1 q2 HSP2 x0 x1 x2 x3 y0 y1 y2 y3
    obtain ⟨m0, m1, m2, m3, m4, m5, m6, m7, m8, v0, v1, v2, v3, v4, v5, v6, v7, v8, rfl⟩ := nine HP9.out
    go_upto_region 8 with fail
    have hs0 : (sy == 0) = false := by simpa using hs
    try simp only [hs0]
    clear hs0 hs
    go_cut [4] from 26 to 32 (fun s4 wx => s4 = qe g (sX l) (sOv l) ∧ At wx w.heap.size [.int .i64 (qx (sX l) (sOv l)), .int .i64 (qy (sX l) (sOv l))] ∧ At wx (w.heap.size + 1) [.int .i64 0, .int .i64 0] ∧ At wx O [.bool o, .slice ado Lo capo] ∧ Hid (Mat wx B [(m0, v0), (m1, v1), (m2, v2), (m3, v3), (m4, v4), (m5, v5), (m6, v6), (m7, v7), (m8, v8)] (sms (difs l))) ∧ Hid (Nm wx o (.slice ado Lo capo) (crs (sms (difs l)) 0 1)) ∧ Gr w wx)
    case first =>
     as_aux_lemma =>
      go_region_held (fun w' => (w'.cell? ⟨B, 0, none⟩ = some (.bool m0) ∧ w'.cell? ⟨B, 1, none⟩ = some (v0) ∧ w'.cell? ⟨B, 2, none⟩ = some (.bool m1) ∧ w'.cell? ⟨B, 3, none⟩ = some (v1) ∧ w'.cell? ⟨B, 4, none⟩ = some (.bool m2) ∧ w'.cell? ⟨B, 5, none⟩ = some (v2) ∧ w'.cell? ⟨B, 6, none⟩ = some (.bool m3) ∧ w'.cell? ⟨B, 7, none⟩ = some (v3) ∧ w'.cell? ⟨B, 8, none⟩ = some (.bool m4) ∧ w'.cell? ⟨B, 9, none⟩ = some (v4) ∧ w'.cell? ⟨B, 10, none⟩ = some (.bool m5) ∧ w'.cell? ⟨B, 11, none⟩ = some (v5) ∧ w'.cell? ⟨B, 12, none⟩ = some (.bool m6) ∧ w'.cell? ⟨B, 13, none⟩ = some (v6) ∧ w'.cell? ⟨B, 14, none⟩ = some (.bool m7) ∧ w'.cell? ⟨B, 15, none⟩ = some (v7) ∧ w'.cell? ⟨B, 16, none⟩ = some (.bool m8) ∧ w'.cell? ⟨B, 17, none⟩ = some (v8)) ∧ w'.cell? ⟨O, 0, none⟩ = some (.bool o) ∧ w'.cell? ⟨O, 1, none⟩ = some (.slice ado Lo capo))
        (first | exact ⟨HM.out.at_.c18, OA.c2⟩ | exact ⟨((HM.out.at_.skip (by omega) _ _).skip (by omega) _ _).c18, ((OA.skip (by omega) _ _).skip (by omega) _ _).c2⟩)
        ((first
          | (go_at_call 24; refine (HCr.out 2 1 (by decide) (by decide) _ [(m0, v0), (m1, v1), (m2, v2), (m3, v3), (m4, v4), (m5, v5), (m6, v6), (m7, v7), (m8, v8)] HP9.out (fun t h h' => (HM.out.nm t h h').drew)).mono ?_; rintro e w8 ⟨o8, t8, rfl, h8, hB9, _⟩; replace hB9 := hB9.out; (with_reducible first | replace hB9 := undr hB9 | skip); replace HC := Gr.step HC hB9; replace XA := At.below hB9 XA; replace YA := At.below hB9 YA; replace OA := At.below hB9 OA; replace HM := hidb (HM.out.below hB9); replace HOv := hidb (HOv.out.below hB9); have N8 := hidb h8; clear h8 hB9)
          | (go_at_call 26; refine (HF1.out _ _ _ _ _ N8.out HOv.out (HL.out.below HC.out)).mono ?_; rintro e w9 ⟨rfl, hB9, _⟩; (with_reducible first | replace hB9 := undr hB9 | skip); replace HC := Gr.step HC hB9; replace XA := At.below hB9 XA; replace YA := At.below hB9 YA; replace OA := At.below hB9 OA; replace HM := hidb (HM.out.below hB9); replace HOv := hidb (HOv.out.below hB9); clear hB9; obtain ⟨x0, x1⟩ := XA.c2; obtain ⟨x2, x3⟩ := XA.f2)))
      all_goals
        clear x0 x1 x2 x3
        go_wp2_with fail
        go_meet
        exact ⟨rfl, At.fill2 (XA.has rfl) _ _, (YA.skip (by omega) _ _).skip (by omega) _ _, (OA.skip (by omega) _ _).skip (by omega) _ _, HM.out.setI2 XA (by omega), HOv.out.setI2 XA, (HC.set (Nat.le_refl _) _ _).set (Nat.le_refl _) _ _⟩
    case rest =>
      clear XA YA OA HM HOv HC
      obtain ⟨rfl, XA, YA, OA, HM, HOv, HC⟩ := hcut
      rcases HQ.out with ⟨r1, q2, q3, q4⟩ | hBC
      · have hqe : qe g (sX l) (sOv l) = errV g 1 := by
          rcases q_five g (sX l) (sOv l) with ⟨k, _⟩ | ⟨_, k⟩
          · rw [r1] at k; cases k
          · exact k
        rw [hqe]
        have K2 := hidb q2
        have K3 := hidb q3
        have K4 := hidb q4
        obtain ⟨x0, x1⟩ := XA.c2
        obtain ⟨x2, x3⟩ := XA.f2
        obtain ⟨y0, y1⟩ := YA.c2
        obtain ⟨y2, y3⟩ := YA.f2
        clear hqe r1 q2 q3 q4 HQ
        go_wp2
        exact bodyPost_ret (v := .tuple #[fr0, fr0, errV g 1]) (by simp [results, Tryd.results7, go_sem, x0, x1, y0, y1]) rfl ⟨by rw [K2.out, K3.out, K4.out], (((HC.set (Nat.le_refl _) _ _).set (Nat.le_refl _) _ _).set hge _ _).set hge _ _⟩
      · have r1 : qf (sX l) (sOv l) = true := by rcases hBC with ⟨k, _⟩ | ⟨k, _⟩ <;> exact k
        have hqe : qe g (sX l) (sOv l) = .nilIface := by
          rcases q_five g (sX l) (sOv l) with ⟨_, k⟩ | ⟨k, _⟩
          · exact k
          · rw [r1] at k; cases k
        rw [hqe]
        have HBC := hidb hBC
        clear hqe r1 hBC HQ
        go_upto_region 11 with fail
        go_cut [4] from 38 to 44 (fun s4 wx => s4 = qe g (sY l) (sOv l) ∧ At wx w.heap.size [.int .i64 (qx (sX l) (sOv l)), .int .i64 (qy (sX l) (sOv l))] ∧ At wx (w.heap.size + 1) [.int .i64 (qx (sY l) (sOv l)), .int .i64 (qy (sY l) (sOv l))] ∧ Gr w wx)
        case first =>
         as_aux_lemma =>
          go_region_held (fun w' => (w'.cell? ⟨B, 0, none⟩ = some (.bool m0) ∧ w'.cell? ⟨B, 1, none⟩ = some (v0) ∧ w'.cell? ⟨B, 2, none⟩ = some (.bool m1) ∧ w'.cell? ⟨B, 3, none⟩ = some (v1) ∧ w'.cell? ⟨B, 4, none⟩ = some (.bool m2) ∧ w'.cell? ⟨B, 5, none⟩ = some (v2) ∧ w'.cell? ⟨B, 6, none⟩ = some (.bool m3) ∧ w'.cell? ⟨B, 7, none⟩ = some (v3) ∧ w'.cell? ⟨B, 8, none⟩ = some (.bool m4) ∧ w'.cell? ⟨B, 9, none⟩ = some (v4) ∧ w'.cell? ⟨B, 10, none⟩ = some (.bool m5) ∧ w'.cell? ⟨B, 11, none⟩ = some (v5) ∧ w'.cell? ⟨B, 12, none⟩ = some (.bool m6) ∧ w'.cell? ⟨B, 13, none⟩ = some (v6) ∧ w'.cell? ⟨B, 14, none⟩ = some (.bool m7) ∧ w'.cell? ⟨B, 15, none⟩ = some (v7) ∧ w'.cell? ⟨B, 16, none⟩ = some (.bool m8) ∧ w'.cell? ⟨B, 17, none⟩ = some (v8)) ∧ w'.cell? ⟨O, 0, none⟩ = some (.bool o) ∧ w'.cell? ⟨O, 1, none⟩ = some (.slice ado Lo capo))
            (first | exact ⟨HM.out.at_.c18, OA.c2⟩ | exact ⟨((HM.out.at_.skip (by omega) _ _).skip (by omega) _ _).c18, ((OA.skip (by omega) _ _).skip (by omega) _ _).c2⟩)
            ((first
              | (go_at_call 24; refine (HCr.out 0 2 (by decide) (by decide) _ [(m0, v0), (m1, v1), (m2, v2), (m3, v3), (m4, v4), (m5, v5), (m6, v6), (m7, v7), (m8, v8)] HP9.out (fun t h h' => (HM.out.nm t h h').drew)).mono ?_; rintro e w8 ⟨o8, t8, rfl, h8, hB9, _⟩; replace hB9 := hB9.out; (with_reducible first | replace hB9 := undr hB9 | skip); replace HC := Gr.step HC hB9; replace XA := At.below hB9 XA; replace YA := At.below hB9 YA; replace OA := At.below hB9 OA; replace HM := hidb (HM.out.below hB9); replace HOv := hidb (HOv.out.below hB9); have N8 := hidb h8; clear h8 hB9)
              | (go_at_call 26; refine (HF2.out _ _ _ _ _ N8.out HOv.out (HL.out.below HC.out)).mono ?_; rintro e w9 ⟨rfl, hB9, _⟩; (with_reducible first | replace hB9 := undr hB9 | skip); replace HC := Gr.step HC hB9; replace XA := At.below hB9 XA; replace YA := At.below hB9 YA; replace OA := At.below hB9 OA; replace HM := hidb (HM.out.below hB9); replace HOv := hidb (HOv.out.below hB9); clear hB9; obtain ⟨x0, x1⟩ := YA.c2; obtain ⟨x2, x3⟩ := YA.f2)))
          all_goals
            clear x0 x1 x2 x3
            go_wp2_with fail
            go_meet
            exact ⟨rfl, (XA.skip (by omega) _ _).skip (by omega) _ _, At.fill2 (YA.has rfl) _ _, (HC.set hge _ _).set hge _ _⟩
        case rest =>
          clear XA YA OA HM HOv HC
          obtain ⟨rfl, XA, YA, HC⟩ := hcut
          obtain ⟨x0, x1⟩ := XA.c2
          obtain ⟨x2, x3⟩ := XA.f2
          obtain ⟨y0, y1⟩ := YA.c2
          obtain ⟨y2, y3⟩ := YA.f2
          rcases HBC.out with ⟨_, r2, q2, q3, q4⟩ | ⟨_, r2, q2, q3, q4⟩
          · have hqe : qe g (sY l) (sOv l) = errV g 1 := by
              rcases q_five g (sY l) (sOv l) with ⟨k, _⟩ | ⟨_, k⟩
              · rw [r2] at k; cases k
              · exact k
            rw [hqe]
            have K2 := hidb q2
            have K3 := hidb q3
            have K4 := hidb q4
            clear hqe r2 q2 q3 q4 HBC
            go_wp2
            exact bodyPost_ret (v := .tuple #[fr0, fr0, errV g 1]) (by simp [results, Tryd.results7, go_sem, x0, x1, y0, y1]) rfl ⟨by rw [K2.out, K3.out, K4.out], (((HC.set (Nat.le_refl _) _ _).set (Nat.le_refl _) _ _).set hge _ _).set hge _ _⟩
          · have hqe : qe g (sY l) (sOv l) = .nilIface := by
              rcases q_five g (sY l) (sOv l) with ⟨_, k⟩ | ⟨k, _⟩
              · exact k
              · rw [r2] at k; cases k
            rw [hqe]
            have K2 := hidb q2
            have K3 := hidb q3
            have K4 := hidb q4
            clear hqe r2 q2 q3 q4 HBC
            generalize qx (sX l) (sOv l) = a1 at *
            generalize qy (sX l) (sOv l) = a2 at *
            generalize qx (sY l) (sOv l) = b1 at *
            generalize qy (sY l) (sOv l) = b2 at *
            go_upto_region 14 with fail
            go_region_law (fail)
            all_goals
              go_wp2
              exact bodyPost_ret (v := .tuple #[.agg #[.int .i64 a1, .int .i64 a2], .agg #[.int .i64 b1, .int .i64 b2], .nilIface]) (by simp [results, Tryd.results7, go_sem, Act.put, x0, x1, y0, y1]) rfl ⟨by rw [K2.out, K3.out, K4.out], by first | exact ((((HC.set (Nat.le_refl _) _ _).set (Nat.le_refl _) _ _).set hge _ _).set hge _ _).drew | exact ((((HC.drew.set (Nat.le_refl _) _ _).set (Nat.le_refl _) _ _).set hge _ _).set hge _ _)⟩
end Go.Proofs.YtehkonddgiakaaaDoor
