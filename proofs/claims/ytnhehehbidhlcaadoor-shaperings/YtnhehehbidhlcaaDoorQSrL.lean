/-
  ShapeRings: the law.
-/
import Derived.Test.YtnhehehbidhlcaaDoorQSrI
namespace Go.Proofs.YtnhehehbidhlcaaDoor
open Go.RowKit
attribute [local go_sem ↓] Go.wp_at_zero Go.wp_at_succ

theorem coded_5 (g : Nat → Addr) (i : Nat) (hi : i < 8) (w : World) (hl : Laid w g) : Calls Tryd.prog 11 #[errV g i, .int .i64 ((i : Int) + 1)] w fun e w' => e = .returned (.bool true) ∧ Gr w w' := by
  refine (coded_sent g i hi _ w hl).mono ?_
  rintro e w' ⟨rfl, hB⟩
  exact ⟨by simp, hB⟩
theorem Laid.gr {w w' : World} {a : Nat → Addr} (h : Laid w a) (hb : Gr w w') : Laid w' a := h.below hb.out
set_option maxRecDepth 4000 in
set_option maxHeartbeats 4000000 in
theorem rings_few (g : Nat → Addr) (ad : Option Addr) (n cap : Nat) (p : Sp) (w : World) (hl : Laid w g) (hf : ¬ fwP n) : Calls Tryd.prog 3 #[.slice ad n cap, sv p] w fun e w' => e = .returned (.bool true) ∧ Gr w w' := by
  have HG := (Gr.refl w).alloc (.cells #[.int .i64 p.1, .int .i64 p.2] 24)
  have HR := hidb (ringed_any g _ (hl.gr HG).lb)
  have HG2 := hidb HG
  have HF := hidb (few_any ad n cap)
  rw [decide_eq_false hf] at HF
  clear hl HG hf
  go_enter Tryd.func3, Tryd.ntmps3
  go_wp2_with fail
  refine HR.out.mono ?_
  rintro e w2 ⟨rfl, hB⟩
  replace HG2 := hidb (Gr.step HG2.out hB.out)
  clear hB
  go_wp2_with fail
  refine (HF.out _).mono ?_
  rintro e w3 ⟨rfl, rfl⟩
  go_wp2
  go_ret
  exact ⟨rfl, HG2.out⟩
/-- What lies in memory while the law looks. -/
structure RW (w W : World) (p : Sp) (g : Nat → Addr) (ad : Option Addr) (b o cap : Nat) (l : List Sp) : Prop where
  p : At W w.heap.size (sc p)
  s : SSl W ad b o cap l
  la : Laid W g
  gr : Gr w W
theorem RW.below {w W w' : World} {p : Sp} {g : Nat → Addr} {ad : Option Addr} {b o cap : Nat} {l : List Sp} (h : RW w W p g ad b o cap l) (hB : Below W.heap.size W w') : RW w w' p g ad b o cap l := ⟨At.below hB h.p, h.s.below hB, h.la.below hB, Gr.step h.gr hB⟩
set_option maxRecDepth 4000 in
set_option maxHeartbeats 8000000 in
theorem rings_bad (g : Nat → Addr) (ad : Option Addr) (b o cap : Nat) (l : List Sp) (p : Sp) (w : World) (hl : Laid w g) (h : SSl w ad b o cap l) (hf : fwP l.length) (hc : ¬ rcd l = 0) : Calls Tryd.prog 3 #[.slice ad l.length cap, sv p] w fun e w' => e = .returned (.bool true) ∧ Gr w w' := by
  have ll : l.length ≤ 5000 := by unfold fwP at hf; omega
  have HG := (Gr.refl w).alloc (.cells #[.int .i64 p.1, .int .i64 p.2] 24)
  have E : Hid (RW w (w.alloc (.cells #[.int .i64 p.1, .int .i64 p.2] 24)) p g ad b o cap l) := ⟨At.new2 _ _ _ _, h.gr HG, hl.gr HG, HG⟩
  have HR := hidb (fun W (hW : RW w W p g ad b o cap l) => ringed_any g W hW.la.lb)
  have HF := hidb (few_any ad l.length cap)
  rw [decide_eq_true hf] at HF
  have HA := hidb (fun W (hW : RW w W p g ad b o cap l) => area_bad g ll hc W hW.s hW.la.lb)
  have HS := hidb (fun W (hW : RW w W p g ad b o cap l) => simple_bad g ll hc W hW.s hW.la.lb)
  have HW := hidb (fun W (hW : RW w W p g ad b o cap l) => where_bad g ll hc p W hW.s hW.la.lb)
  have HE := hidb (fun W (hW : RW w W p g ad b o cap l) => ringError_any ll W hW.s)
  have hr : rcd l = 2 ∨ rcd l = 3 := by
    unfold rcd at hc ⊢
    split
    · exact .inl rfl
    · split
      · rename_i h1 h2; rw [if_neg h1, if_pos h2] at hc; exact absurd rfl hc
      · exact .inr rfl
  obtain ⟨i, hi, hi8⟩ : ∃ i, rcd l = i + 1 ∧ i < 8 := by rcases hr with e | e <;> rw [e]; exact ⟨1, rfl, by omega⟩; exact ⟨2, rfl, by omega⟩
  have HC := hidb (fun W (hW : RW w W p g ad b o cap l) => coded_5 g i hi8 W hW.la)
  rw [hi, Nat.add_sub_cancel] at HA HS HW
  rw [hi] at HE
  push_cast at HE
  have c1 : (0 : Int) < (i : Int) + 1 := by omega
  clear hl HG hf h hc hr hi hi8 ll
  obtain ⟨n, hn⟩ : ∃ n, n = l.length := ⟨_, rfl⟩
  rw [← hn] at HF HA HS HW HE ⊢
  obtain ⟨eI, heI⟩ : ∃ z : Int, z = (i : Int) + 1 := ⟨_, rfl⟩
  rw [← heI] at HE HC c1
  clear hn heI
  go_enter Tryd.func3, Tryd.ntmps3
  go_wp2_with fail
  refine (HR.out _ E.out).mono ?_
  rintro e w21 ⟨rfl, hB⟩
  replace E := hidb (E.out.below hB.out)
  clear hB
  go_wp2_with fail
  refine (HF.out _).mono ?_
  rintro e w9 ⟨rfl, rfl⟩
  go_wp2_with fail
  refine (HA.out _ E.out).mono ?_
  rintro e w22 ⟨rfl, hB⟩
  replace E := hidb (E.out.below hB.out)
  clear hB
  go_wp2_with fail
  refine (HS.out _ E.out).mono ?_
  rintro e w23 ⟨rfl, hB⟩
  replace E := hidb (E.out.below hB.out)
  clear hB
  obtain ⟨q0, q1⟩ := E.out.p.c2
  go_wp2_with fail
  refine (HW.out _ E.out).mono ?_
  rintro e w24 ⟨rfl, hB⟩
  replace E := hidb (E.out.below hB.out)
  clear hB
  clear q0 q1
  go_wp2_with fail
  refine (HE.out _ E.out).mono ?_
  rintro e w25 ⟨rfl, hB⟩
  replace E := hidb (E.out.below hB.out)
  clear hB
  go_wp2_with fail
  refine (HC.out _ E.out).mono ?_
  rintro e w26 ⟨rfl, hB⟩
  replace E := hidb (E.out.below hB.out)
  clear hB
  go_wp2_with fail
  refine (HC.out _ E.out).mono ?_
  rintro e w27 ⟨rfl, hB⟩
  replace E := hidb (E.out.below hB.out)
  clear hB
  go_wp2_with fail
  refine (HC.out _ E.out).mono ?_
  rintro e w28 ⟨rfl, hB⟩
  replace E := hidb (E.out.below hB.out)
  clear hB
  go_wp2
  go_ret
  exact ⟨rfl, E.out.gr⟩
set_option maxRecDepth 4000 in
set_option maxHeartbeats 8000000 in
theorem rings_ok (g : Nat → Addr) (ad : Option Addr) (b o cap : Nat) (l : List Sp) (p : Sp) (w : World) (hl : Laid w g) (h : SSl w ad b o cap l) (hf : fwP l.length) (hc : rcd l = 0) : Calls Tryd.prog 3 #[.slice ad l.length cap, sv p] w fun e w' => e = .returned (.bool true) ∧ Gr w w' := by
  obtain ⟨l4, hp⟩ := rcd_ok hc
  have l3 := hp.1
  have HG := (Gr.refl w).alloc (.cells #[.int .i64 p.1, .int .i64 p.2] 24)
  have E : Hid (RW w (w.alloc (.cells #[.int .i64 p.1, .int .i64 p.2] 24)) p g ad b o cap l) := ⟨At.new2 _ _ _ _, h.gr HG, hl.gr HG, HG⟩
  have HR := hidb (fun W (hW : RW w W p g ad b o cap l) => ringed_any g W hW.la.lb)
  have HF := hidb (few_any ad l.length cap)
  rw [decide_eq_true hf] at HF
  have HA := hidb (fun W (hW : RW w W p g ad b o cap l) => area_ok g hc W hW.s hW.la.lb)
  have HS := hidb (fun W (hW : RW w W p g ad b o cap l) => simple_ok g hc W hW.s hW.la.lb)
  have HE := hidb (fun W (hW : RW w W p g ad b o cap l) => ringError_any (by omega) W hW.s)
  rw [hc] at HE
  push_cast at HE
  have HA2 := hidb (fun W (hW : RW w W p g ad b o cap l) => areaOf_any (by omega) l4 (rg_ok hp) W hW.s)
  rw [area_eq (by omega)] at HA2
  have HS2 := hidb (fun W (hW : RW w W p g ad b o cap l) => isSimple_any l3 l4 (rg_ok hp) W hW.s)
  have HP := hidb (fun W => isPlace_any p W)
  have HC := hidb (fun W (hW : RW w W p g ad b o cap l) => coded_5 g 2 (by omega) W hW.la)
  push_cast at HC
  have HW1 := hidb (fun (k : ¬ okS p) W (hW : RW w W p g ad b o cap l) => where_far g hc p k W hW.s hW.la.lb)
  have HW2 := hidb (fun (k : okS p) W (hW : RW w W p g ad b o cap l) => where_ok g hc p k W hW.s hW.la.lb)
  have HI2 := hidb (fun (k : okS p) W (hW : RW w W p g ad b o cap l) => placeIn_any (by omega) l4 (rg_ok hp) p k W hW.s)
  clear hl HG hf h hc l4 hp l3
  generalize sw (eg l) = A at *
  generalize decide (smP l) = bs at *
  generalize whP (eg l) p = V at *
  obtain ⟨n, hn⟩ : ∃ n, n = l.length := ⟨_, rfl⟩
  rw [← hn] at HF HA HS HE HA2 HS2 HW1 HW2 HI2 ⊢
  clear hn
  by_cases k : okS p
  · rw [decide_eq_true k] at HP
    have HW := hidb (HW2.out k)
    have HI := hidb (HI2.out k)
    clear k HW1 HW2 HI2 HC
    go_enter Tryd.func3, Tryd.ntmps3
    go_wp2_with fail
    refine (HR.out _ E.out).mono ?_
    rintro e w29 ⟨rfl, hB⟩
    replace E := hidb (E.out.below hB.out)
    clear hB
    go_wp2_with fail
    refine (HF.out _).mono ?_
    rintro e w9 ⟨rfl, rfl⟩
    go_wp2_with fail
    refine (HA.out _ E.out).mono ?_
    rintro e w30 ⟨rfl, hB⟩
    replace E := hidb (E.out.below hB.out)
    clear hB
    go_wp2_with fail
    refine (HS.out _ E.out).mono ?_
    rintro e w31 ⟨rfl, hB⟩
    replace E := hidb (E.out.below hB.out)
    clear hB
    obtain ⟨q0, q1⟩ := E.out.p.c2
    go_wp2_with fail
    refine (HW.out _ E.out).mono ?_
    rintro e w32 ⟨rfl, hB⟩
    replace E := hidb (E.out.below hB.out)
    clear hB
    clear q0 q1
    go_wp2_with fail
    refine (HE.out _ E.out).mono ?_
    rintro e w33 ⟨rfl, hB⟩
    replace E := hidb (E.out.below hB.out)
    clear hB
    go_wp2_with fail
    refine (HA2.out _ E.out).mono ?_
    rintro e w34 ⟨rfl, hB⟩
    replace E := hidb (E.out.below hB.out)
    clear hB
    go_wp2_with fail
    refine (HS2.out _ E.out).mono ?_
    rintro e w35 ⟨rfl, hB⟩
    replace E := hidb (E.out.below hB.out)
    clear hB
    obtain ⟨q0, q1⟩ := E.out.p.c2
    go_wp2_with fail
    refine (HP.out _).mono ?_
    rintro e w36 ⟨rfl, hB⟩
    replace E := hidb (E.out.below hB.out)
    clear hB
    clear q0 q1
    obtain ⟨q0, q1⟩ := E.out.p.c2
    go_wp2_with fail
    refine (HI.out _ E.out).mono ?_
    rintro e w37 ⟨rfl, hB⟩
    replace E := hidb (E.out.below hB.out)
    clear hB
    clear q0 q1
    go_wp2
    go_ret
    exact ⟨rfl, E.out.gr⟩
  · rw [decide_eq_false k] at HP
    have HW := hidb (HW1.out k)
    clear k HW1 HW2 HI2
    go_enter Tryd.func3, Tryd.ntmps3
    go_wp2_with fail
    refine (HR.out _ E.out).mono ?_
    rintro e w38 ⟨rfl, hB⟩
    replace E := hidb (E.out.below hB.out)
    clear hB
    go_wp2_with fail
    refine (HF.out _).mono ?_
    rintro e w9 ⟨rfl, rfl⟩
    go_wp2_with fail
    refine (HA.out _ E.out).mono ?_
    rintro e w39 ⟨rfl, hB⟩
    replace E := hidb (E.out.below hB.out)
    clear hB
    go_wp2_with fail
    refine (HS.out _ E.out).mono ?_
    rintro e w40 ⟨rfl, hB⟩
    replace E := hidb (E.out.below hB.out)
    clear hB
    obtain ⟨q0, q1⟩ := E.out.p.c2
    go_wp2_with fail
    refine (HW.out _ E.out).mono ?_
    rintro e w41 ⟨rfl, hB⟩
    replace E := hidb (E.out.below hB.out)
    clear hB
    clear q0 q1
    go_wp2_with fail
    refine (HE.out _ E.out).mono ?_
    rintro e w42 ⟨rfl, hB⟩
    replace E := hidb (E.out.below hB.out)
    clear hB
    go_wp2_with fail
    refine (HA2.out _ E.out).mono ?_
    rintro e w43 ⟨rfl, hB⟩
    replace E := hidb (E.out.below hB.out)
    clear hB
    go_wp2_with fail
    refine (HS2.out _ E.out).mono ?_
    rintro e w44 ⟨rfl, hB⟩
    replace E := hidb (E.out.below hB.out)
    clear hB
    obtain ⟨q0, q1⟩ := E.out.p.c2
    go_wp2_with fail
    refine (HP.out _).mono ?_
    rintro e w45 ⟨rfl, hB⟩
    replace E := hidb (E.out.below hB.out)
    clear hB
    clear q0 q1
    go_wp2_with fail
    refine (HC.out _ E.out).mono ?_
    rintro e w46 ⟨rfl, hB⟩
    replace E := hidb (E.out.below hB.out)
    clear hB
    go_wp2
    go_ret
    exact ⟨rfl, E.out.gr⟩
theorem shapeRings_law (g : Nat → Addr) (ad : Option Addr) (n cap : Nat) (p1 p2 : Int) (w : World) (hl : Laid w g) (ha : SArg w ad n cap) : Calls Tryd.prog 3 #[.slice ad n cap, .agg #[.int .i64 p1, .int .i64 p2]] w fun e w' => e = .returned (.bool true) ∧ Gr w w' := by
  obtain ⟨b, o, l, rfl, hs⟩ := ha
  by_cases c1 : fwP l.length
  · by_cases c2 : rcd l = 0
    · exact rings_ok g ad b o cap l (p1, p2) w hl hs c1 c2
    · exact rings_bad g ad b o cap l (p1, p2) w hl hs c1 c2
  · exact rings_few g ad l.length cap (p1, p2) w hl c1
end Go.Proofs.YtnhehehbidhlcaaDoor
