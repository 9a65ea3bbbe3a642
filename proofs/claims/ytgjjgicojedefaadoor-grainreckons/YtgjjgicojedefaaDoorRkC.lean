/-
  grain's ratio.less, exactly, Add, Sub, Mul, Div.
-/
import Derived.Test.YtgjjgicojedefaaDoorRkB
namespace Go.Proofs.YtgjjgicojedefaaDoor
open Go.RowKit BG
attribute [local go_sem ↓] Go.wp_at_zero Go.wp_at_succ

theorem rgt_neg {n d : Int} (h : Rgt n d) : Rgt (-n) d := by
  obtain ⟨⟨h1, h2, h3, h4⟩, hg⟩ := h
  exact ⟨⟨by omega, by omega, by omega, by omega⟩, by rw [Int.natAbs_neg]; exact hg⟩
theorem less_any (g : Nat → Addr) (an ad bn bd : Int) (ha : Rgt an ad) (hb : Rgt bn bd) (w : World) (hl : Laid w g) : Calls Tryd.prog 52 #[.agg #[.int .i64 an, .int .i64 ad], .agg #[.int .i64 bn, .int .i64 bd]] w fun e w' => e = .returned (.tuple #[.agg #[.int .i64 (qx (an * bd + -(bn * ad)) (ad * bd)), .int .i64 (qy (an * bd + -(bn * ad)) (ad * bd))], qe g (an * bd + -(bn * ad)) (ad * bd)]) ∧ Below w.heap.size w w' := by
  have H := hidb (fun w hl => rplus_any g an ad (-bn) bd ha (rgt_neg hb) w hl)
  rw [Int.neg_mul] at H
  have b3 := hb.1.2.2.1
  have b4 := hb.1.2.2.2
  generalize qx (an * bd + -(bn * ad)) (ad * bd) = X at *
  generalize qy (an * bd + -(bn * ad)) (ad * bd) = Z at *
  generalize qe g (an * bd + -(bn * ad)) (ad * bd) = E at *
  have HC : Gr w (((w.alloc (.cells #[.int .i64 an, .int .i64 ad] 88)).alloc (.cells #[.int .i64 bn, .int .i64 bd] 88)).alloc (.cells #[.int .i64 0, .int .i64 0] 29)) := (((Gr.refl w).alloc _).alloc _).alloc _
  have RA := At.ny2 (W := w) (.cells #[.int .i64 an, .int .i64 ad] 88) (.cells #[.int .i64 bn, .int .i64 bd] 88) (.int .i64 0) (.int .i64 0) 29
  have hge : w.heap.size ≤ w.heap.size + 1 + 1 := by omega
  go_enter Tryd.func52, Tryd.ntmps52
  go_wp2_with fail
  refine (H.out _ (hl.below HC.out)).mono ?_
  rintro e w1 ⟨rfl, hB⟩
  replace HC := Gr.step HC hB
  replace RA := At.below hB RA
  clear hB H
  obtain ⟨r0, r1⟩ := RA.c2
  obtain ⟨f0, f1⟩ := RA.f2
  go_wp2
  exact bodyPost_ret (v := .tuple #[.agg #[.int .i64 X, .int .i64 Z], E]) (by simp [results, Tryd.results52, go_sem, r0, r1]) rfl ⟨rfl, (HC.set hge _ _).set hge _ _⟩
theorem ex_no1 (g : Nat → Addr) (an ad bn bd : Int) (f : Value) (h1 : -9223372036854775808 ≤ an) (h2 : an ≤ 9223372036854775807) (hr : ¬ Rgt an ad) (w : World) (hl : Laid w g) : Calls Tryd.prog 50 #[.agg #[.int .i64 an, .int .i64 ad], .agg #[.int .i64 bn, .int .i64 bd], f] w fun e w' => e = .returned (.tuple #[fr0, errV g 2]) ∧ Below w.heap.size w w' := by
  have HR := hidb (fun w => right_no h1 h2 hr w)
  have HC : Gr w (((w.alloc (.cells #[.int .i64 an, .int .i64 ad] 29)).alloc (.cells #[.int .i64 bn, .int .i64 bd] 29)).alloc (.cells #[.int .i64 0, .int .i64 0] 29)) := (((Gr.refl w).alloc _).alloc _).alloc _
  have PA := ((At.new2 w (.int .i64 an) (.int .i64 ad) 29).alloc (.cells #[.int .i64 bn, .int .i64 bd] 29)).alloc (.cells #[.int .i64 0, .int .i64 0] 29)
  have QA := (At.nx2 (W := w) (.cells #[.int .i64 an, .int .i64 ad] 29) (.int .i64 bn) (.int .i64 bd) 29).alloc (.cells #[.int .i64 0, .int .i64 0] 29)
  have RA := At.ny2 (W := w) (.cells #[.int .i64 an, .int .i64 ad] 29) (.cells #[.int .i64 bn, .int .i64 bd] 29) (.int .i64 0) (.int .i64 0) 29
  have hge : w.heap.size ≤ w.heap.size + 1 + 1 := by omega
  go_enter Tryd.func50, Tryd.ntmps50
  go_wp2_with fail
  refine (HR.out _).mono ?_
  rintro e w1 ⟨rfl, hB⟩
  replace HC := Gr.step HC hB
  replace PA := At.below hB PA
  replace QA := At.below hB QA
  replace RA := At.below hB RA
  clear hB HR PA QA
  have cE : w1.cell? ⟨2, 0, none⟩ = some (errV g 2) := (hl.below HC.out).cell 2 (by decide)
  have hlt : 2 < w.heap.size := lt_of_cell (hl.cell 2 (by decide))
  have hne : ¬ w.heap.size + 1 + 1 = 2 := by omega
  clear hl hlt
  obtain ⟨r0, r1⟩ := RA.c2
  obtain ⟨f0, f1⟩ := RA.f2
  go_wp2_with fail
  go_region_held (fun w' => w'.cell? ⟨2, 0, none⟩ = some (errV g 2))
    (first | (with_reducible assumption) | exact cE | exact keep2 cE hne)
    (fail)
  go_wp2
  exact bodyPost_ret (v := .tuple #[fr0, errV g 2]) (by simp [results, Tryd.results50, go_sem, r0, r1]) rfl ⟨rfl, by first | exact ((HC.set hge _ _).set hge _ _).drew | exact ((HC.drew.set hge _ _).set hge _ _) | exact (HC.set hge _ _).set hge _ _⟩
theorem ex_no2 (g : Nat → Addr) (an ad bn bd : Int) (f : Value) (h1 : -9223372036854775808 ≤ bn) (h2 : bn ≤ 9223372036854775807) (hq : Rgt an ad) (hr : ¬ Rgt bn bd) (w : World) (hl : Laid w g) : Calls Tryd.prog 50 #[.agg #[.int .i64 an, .int .i64 ad], .agg #[.int .i64 bn, .int .i64 bd], f] w fun e w' => e = .returned (.tuple #[fr0, errV g 2]) ∧ Below w.heap.size w w' := by
  have HQ := hidb (fun w => right_yes hq w)
  have HR := hidb (fun w => right_no h1 h2 hr w)
  have HC : Gr w (((w.alloc (.cells #[.int .i64 an, .int .i64 ad] 29)).alloc (.cells #[.int .i64 bn, .int .i64 bd] 29)).alloc (.cells #[.int .i64 0, .int .i64 0] 29)) := (((Gr.refl w).alloc _).alloc _).alloc _
  have PA := ((At.new2 w (.int .i64 an) (.int .i64 ad) 29).alloc (.cells #[.int .i64 bn, .int .i64 bd] 29)).alloc (.cells #[.int .i64 0, .int .i64 0] 29)
  have QA := (At.nx2 (W := w) (.cells #[.int .i64 an, .int .i64 ad] 29) (.int .i64 bn) (.int .i64 bd) 29).alloc (.cells #[.int .i64 0, .int .i64 0] 29)
  have RA := At.ny2 (W := w) (.cells #[.int .i64 an, .int .i64 ad] 29) (.cells #[.int .i64 bn, .int .i64 bd] 29) (.int .i64 0) (.int .i64 0) 29
  have hge : w.heap.size ≤ w.heap.size + 1 + 1 := by omega
  go_enter Tryd.func50, Tryd.ntmps50
  go_wp2_with fail
  refine (HQ.out _).mono ?_
  rintro e w1 ⟨rfl, hB⟩
  replace HC := Gr.step HC hB
  replace PA := At.below hB PA
  replace QA := At.below hB QA
  replace RA := At.below hB RA
  clear hB HQ
  obtain ⟨q0, q1⟩ := QA.c2
  go_wp2_with fail
  refine (HR.out _).mono ?_
  rintro e w2 ⟨rfl, hB⟩
  replace HC := Gr.step HC hB
  replace PA := At.below hB PA
  replace QA := At.below hB QA
  replace RA := At.below hB RA
  clear hB HR PA QA q0 q1
  have cE : w2.cell? ⟨2, 0, none⟩ = some (errV g 2) := (hl.below HC.out).cell 2 (by decide)
  have hlt : 2 < w.heap.size := lt_of_cell (hl.cell 2 (by decide))
  have hne : ¬ w.heap.size + 1 + 1 = 2 := by omega
  clear hl hlt
  obtain ⟨r0, r1⟩ := RA.c2
  obtain ⟨f0, f1⟩ := RA.f2
  go_wp2_with fail
  go_region_held (fun w' => w'.cell? ⟨2, 0, none⟩ = some (errV g 2))
    (first | (with_reducible assumption) | exact cE | exact keep2 cE hne)
    (fail)
  go_wp2
  exact bodyPost_ret (v := .tuple #[fr0, errV g 2]) (by simp [results, Tryd.results50, go_sem, r0, r1]) rfl ⟨rfl, by first | exact ((HC.set hge _ _).set hge _ _).drew | exact ((HC.drew.set hge _ _).set hge _ _) | exact (HC.set hge _ _).set hge _ _⟩
theorem ex_plus (an ad bn bd : Int) (X Z : Int) (E : Value) (hq : Rgt an ad) (hr : Rgt bn bd) (w : World)
    (HT : ∀ w1 : World, Gr w w1 → Calls Tryd.prog 51 #[.agg #[.int .i64 an, .int .i64 ad], .agg #[.int .i64 bn, .int .i64 bd]] w1 fun e w' => e = .returned (.tuple #[.agg #[.int .i64 X, .int .i64 Z], E]) ∧ Below w1.heap.size w1 w') : Calls Tryd.prog 50 #[.agg #[.int .i64 an, .int .i64 ad], .agg #[.int .i64 bn, .int .i64 bd], .func (Fn.func 51) #[] #[]] w fun e w' => e = .returned (.tuple #[.agg #[.int .i64 X, .int .i64 Z], E]) ∧ Below w.heap.size w w' := by
  have HQ := hidb (fun w => right_yes hq w)
  have HR := hidb (fun w => right_yes hr w)
  have H := hidb HT
  clear HT
  have HC : Gr w (((w.alloc (.cells #[.int .i64 an, .int .i64 ad] 29)).alloc (.cells #[.int .i64 bn, .int .i64 bd] 29)).alloc (.cells #[.int .i64 0, .int .i64 0] 29)) := (((Gr.refl w).alloc _).alloc _).alloc _
  have PA := ((At.new2 w (.int .i64 an) (.int .i64 ad) 29).alloc (.cells #[.int .i64 bn, .int .i64 bd] 29)).alloc (.cells #[.int .i64 0, .int .i64 0] 29)
  have QA := (At.nx2 (W := w) (.cells #[.int .i64 an, .int .i64 ad] 29) (.int .i64 bn) (.int .i64 bd) 29).alloc (.cells #[.int .i64 0, .int .i64 0] 29)
  have RA := At.ny2 (W := w) (.cells #[.int .i64 an, .int .i64 ad] 29) (.cells #[.int .i64 bn, .int .i64 bd] 29) (.int .i64 0) (.int .i64 0) 29
  have hge : w.heap.size ≤ w.heap.size + 1 + 1 := by omega
  go_enter Tryd.func50, Tryd.ntmps50
  go_wp2_with fail
  refine (HQ.out _).mono ?_
  rintro e w1 ⟨rfl, hB⟩
  replace HC := Gr.step HC hB
  replace PA := At.below hB PA
  replace QA := At.below hB QA
  replace RA := At.below hB RA
  clear hB HQ
  obtain ⟨q0, q1⟩ := QA.c2
  go_wp2_with fail
  refine (HR.out _).mono ?_
  rintro e w2 ⟨rfl, hB⟩
  replace HC := Gr.step HC hB
  replace PA := At.below hB PA
  replace QA := At.below hB QA
  replace RA := At.below hB RA
  clear hB HR q0 q1
  obtain ⟨p0, p1⟩ := PA.c2
  obtain ⟨q0, q1⟩ := QA.c2
  go_wp2_with fail
  refine (H.out _ HC).mono ?_
  rintro e w3 ⟨rfl, hB⟩
  replace HC := Gr.step HC hB
  replace PA := At.below hB PA
  replace QA := At.below hB QA
  replace RA := At.below hB RA
  clear hB H p0 p1 q0 q1
  obtain ⟨r0, r1⟩ := RA.c2
  obtain ⟨f0, f1⟩ := RA.f2
  go_wp2
  exact bodyPost_ret (v := .tuple #[.agg #[.int .i64 X, .int .i64 Z], E]) (by simp [results, Tryd.results50, go_sem, r0, r1]) rfl ⟨rfl, (HC.set hge _ _).set hge _ _⟩
theorem top_plus (an ad bn bd : Int) (X Z : Int) (E : Value) (w : World)
    (HT : ∀ w1 : World, Gr w w1 → Calls Tryd.prog 50 #[.agg #[.int .i64 an, .int .i64 ad], .agg #[.int .i64 bn, .int .i64 bd], .func (Fn.func 51) #[] #[]] w1 fun e w' => e = .returned (.tuple #[.agg #[.int .i64 X, .int .i64 Z], E]) ∧ Below w1.heap.size w1 w') : Calls Tryd.prog 21 #[.agg #[.int .i64 an, .int .i64 ad], .agg #[.int .i64 bn, .int .i64 bd]] w fun e w' => e = .returned (.tuple #[.agg #[.int .i64 X, .int .i64 Z], E]) ∧ Below w.heap.size w w' := by
  have H := hidb HT
  clear HT
  have HC : Gr w (((w.alloc (.cells #[.int .i64 an, .int .i64 ad] 29)).alloc (.cells #[.int .i64 bn, .int .i64 bd] 29)).alloc (.cells #[.int .i64 0, .int .i64 0] 29)) := (((Gr.refl w).alloc _).alloc _).alloc _
  have PA := ((At.new2 w (.int .i64 an) (.int .i64 ad) 29).alloc (.cells #[.int .i64 bn, .int .i64 bd] 29)).alloc (.cells #[.int .i64 0, .int .i64 0] 29)
  have QA := (At.nx2 (W := w) (.cells #[.int .i64 an, .int .i64 ad] 29) (.int .i64 bn) (.int .i64 bd) 29).alloc (.cells #[.int .i64 0, .int .i64 0] 29)
  have RA := At.ny2 (W := w) (.cells #[.int .i64 an, .int .i64 ad] 29) (.cells #[.int .i64 bn, .int .i64 bd] 29) (.int .i64 0) (.int .i64 0) 29
  have hge : w.heap.size ≤ w.heap.size + 1 + 1 := by omega
  go_enter Tryd.func21, Tryd.ntmps21
  go_wp2_with fail
  refine (H.out _ HC).mono ?_
  rintro e w3 ⟨rfl, hB⟩
  replace HC := Gr.step HC hB
  replace PA := At.below hB PA
  replace QA := At.below hB QA
  replace RA := At.below hB RA
  clear hB H PA QA
  obtain ⟨r0, r1⟩ := RA.c2
  obtain ⟨f0, f1⟩ := RA.f2
  go_wp2
  exact bodyPost_ret (v := .tuple #[.agg #[.int .i64 X, .int .i64 Z], E]) (by simp [results, Tryd.results21, go_sem, r0, r1]) rfl ⟨rfl, (HC.set hge _ _).set hge _ _⟩
theorem ex_less (an ad bn bd : Int) (X Z : Int) (E : Value) (hq : Rgt an ad) (hr : Rgt bn bd) (w : World)
    (HT : ∀ w1 : World, Gr w w1 → Calls Tryd.prog 52 #[.agg #[.int .i64 an, .int .i64 ad], .agg #[.int .i64 bn, .int .i64 bd]] w1 fun e w' => e = .returned (.tuple #[.agg #[.int .i64 X, .int .i64 Z], E]) ∧ Below w1.heap.size w1 w') : Calls Tryd.prog 50 #[.agg #[.int .i64 an, .int .i64 ad], .agg #[.int .i64 bn, .int .i64 bd], .func (Fn.func 52) #[] #[]] w fun e w' => e = .returned (.tuple #[.agg #[.int .i64 X, .int .i64 Z], E]) ∧ Below w.heap.size w w' := by
  have HQ := hidb (fun w => right_yes hq w)
  have HR := hidb (fun w => right_yes hr w)
  have H := hidb HT
  clear HT
  have HC : Gr w (((w.alloc (.cells #[.int .i64 an, .int .i64 ad] 29)).alloc (.cells #[.int .i64 bn, .int .i64 bd] 29)).alloc (.cells #[.int .i64 0, .int .i64 0] 29)) := (((Gr.refl w).alloc _).alloc _).alloc _
  have PA := ((At.new2 w (.int .i64 an) (.int .i64 ad) 29).alloc (.cells #[.int .i64 bn, .int .i64 bd] 29)).alloc (.cells #[.int .i64 0, .int .i64 0] 29)
  have QA := (At.nx2 (W := w) (.cells #[.int .i64 an, .int .i64 ad] 29) (.int .i64 bn) (.int .i64 bd) 29).alloc (.cells #[.int .i64 0, .int .i64 0] 29)
  have RA := At.ny2 (W := w) (.cells #[.int .i64 an, .int .i64 ad] 29) (.cells #[.int .i64 bn, .int .i64 bd] 29) (.int .i64 0) (.int .i64 0) 29
  have hge : w.heap.size ≤ w.heap.size + 1 + 1 := by omega
  go_enter Tryd.func50, Tryd.ntmps50
  go_wp2_with fail
  refine (HQ.out _).mono ?_
  rintro e w1 ⟨rfl, hB⟩
  replace HC := Gr.step HC hB
  replace PA := At.below hB PA
  replace QA := At.below hB QA
  replace RA := At.below hB RA
  clear hB HQ
  obtain ⟨q0, q1⟩ := QA.c2
  go_wp2_with fail
  refine (HR.out _).mono ?_
  rintro e w2 ⟨rfl, hB⟩
  replace HC := Gr.step HC hB
  replace PA := At.below hB PA
  replace QA := At.below hB QA
  replace RA := At.below hB RA
  clear hB HR q0 q1
  obtain ⟨p0, p1⟩ := PA.c2
  obtain ⟨q0, q1⟩ := QA.c2
  go_wp2_with fail
  refine (H.out _ HC).mono ?_
  rintro e w3 ⟨rfl, hB⟩
  replace HC := Gr.step HC hB
  replace PA := At.below hB PA
  replace QA := At.below hB QA
  replace RA := At.below hB RA
  clear hB H p0 p1 q0 q1
  obtain ⟨r0, r1⟩ := RA.c2
  obtain ⟨f0, f1⟩ := RA.f2
  go_wp2
  exact bodyPost_ret (v := .tuple #[.agg #[.int .i64 X, .int .i64 Z], E]) (by simp [results, Tryd.results50, go_sem, r0, r1]) rfl ⟨rfl, (HC.set hge _ _).set hge _ _⟩
theorem top_less (an ad bn bd : Int) (X Z : Int) (E : Value) (w : World)
    (HT : ∀ w1 : World, Gr w w1 → Calls Tryd.prog 50 #[.agg #[.int .i64 an, .int .i64 ad], .agg #[.int .i64 bn, .int .i64 bd], .func (Fn.func 52) #[] #[]] w1 fun e w' => e = .returned (.tuple #[.agg #[.int .i64 X, .int .i64 Z], E]) ∧ Below w1.heap.size w1 w') : Calls Tryd.prog 22 #[.agg #[.int .i64 an, .int .i64 ad], .agg #[.int .i64 bn, .int .i64 bd]] w fun e w' => e = .returned (.tuple #[.agg #[.int .i64 X, .int .i64 Z], E]) ∧ Below w.heap.size w w' := by
  have H := hidb HT
  clear HT
  have HC : Gr w (((w.alloc (.cells #[.int .i64 an, .int .i64 ad] 29)).alloc (.cells #[.int .i64 bn, .int .i64 bd] 29)).alloc (.cells #[.int .i64 0, .int .i64 0] 29)) := (((Gr.refl w).alloc _).alloc _).alloc _
  have PA := ((At.new2 w (.int .i64 an) (.int .i64 ad) 29).alloc (.cells #[.int .i64 bn, .int .i64 bd] 29)).alloc (.cells #[.int .i64 0, .int .i64 0] 29)
  have QA := (At.nx2 (W := w) (.cells #[.int .i64 an, .int .i64 ad] 29) (.int .i64 bn) (.int .i64 bd) 29).alloc (.cells #[.int .i64 0, .int .i64 0] 29)
  have RA := At.ny2 (W := w) (.cells #[.int .i64 an, .int .i64 ad] 29) (.cells #[.int .i64 bn, .int .i64 bd] 29) (.int .i64 0) (.int .i64 0) 29
  have hge : w.heap.size ≤ w.heap.size + 1 + 1 := by omega
  go_enter Tryd.func22, Tryd.ntmps22
  go_wp2_with fail
  refine (H.out _ HC).mono ?_
  rintro e w3 ⟨rfl, hB⟩
  replace HC := Gr.step HC hB
  replace PA := At.below hB PA
  replace QA := At.below hB QA
  replace RA := At.below hB RA
  clear hB H PA QA
  obtain ⟨r0, r1⟩ := RA.c2
  obtain ⟨f0, f1⟩ := RA.f2
  go_wp2
  exact bodyPost_ret (v := .tuple #[.agg #[.int .i64 X, .int .i64 Z], E]) (by simp [results, Tryd.results22, go_sem, r0, r1]) rfl ⟨rfl, (HC.set hge _ _).set hge _ _⟩
theorem ex_times (an ad bn bd : Int) (X Z : Int) (E : Value) (hq : Rgt an ad) (hr : Rgt bn bd) (w : World)
    (HT : ∀ w1 : World, Gr w w1 → Calls Tryd.prog 53 #[.agg #[.int .i64 an, .int .i64 ad], .agg #[.int .i64 bn, .int .i64 bd]] w1 fun e w' => e = .returned (.tuple #[.agg #[.int .i64 X, .int .i64 Z], E]) ∧ Below w1.heap.size w1 w') : Calls Tryd.prog 50 #[.agg #[.int .i64 an, .int .i64 ad], .agg #[.int .i64 bn, .int .i64 bd], .func (Fn.func 53) #[] #[]] w fun e w' => e = .returned (.tuple #[.agg #[.int .i64 X, .int .i64 Z], E]) ∧ Below w.heap.size w w' := by
  have HQ := hidb (fun w => right_yes hq w)
  have HR := hidb (fun w => right_yes hr w)
  have H := hidb HT
  clear HT
  have HC : Gr w (((w.alloc (.cells #[.int .i64 an, .int .i64 ad] 29)).alloc (.cells #[.int .i64 bn, .int .i64 bd] 29)).alloc (.cells #[.int .i64 0, .int .i64 0] 29)) := (((Gr.refl w).alloc _).alloc _).alloc _
  have PA := ((At.new2 w (.int .i64 an) (.int .i64 ad) 29).alloc (.cells #[.int .i64 bn, .int .i64 bd] 29)).alloc (.cells #[.int .i64 0, .int .i64 0] 29)
  have QA := (At.nx2 (W := w) (.cells #[.int .i64 an, .int .i64 ad] 29) (.int .i64 bn) (.int .i64 bd) 29).alloc (.cells #[.int .i64 0, .int .i64 0] 29)
  have RA := At.ny2 (W := w) (.cells #[.int .i64 an, .int .i64 ad] 29) (.cells #[.int .i64 bn, .int .i64 bd] 29) (.int .i64 0) (.int .i64 0) 29
  have hge : w.heap.size ≤ w.heap.size + 1 + 1 := by omega
  go_enter Tryd.func50, Tryd.ntmps50
  go_wp2_with fail
  refine (HQ.out _).mono ?_
  rintro e w1 ⟨rfl, hB⟩
  replace HC := Gr.step HC hB
  replace PA := At.below hB PA
  replace QA := At.below hB QA
  replace RA := At.below hB RA
  clear hB HQ
  obtain ⟨q0, q1⟩ := QA.c2
  go_wp2_with fail
  refine (HR.out _).mono ?_
  rintro e w2 ⟨rfl, hB⟩
  replace HC := Gr.step HC hB
  replace PA := At.below hB PA
  replace QA := At.below hB QA
  replace RA := At.below hB RA
  clear hB HR q0 q1
  obtain ⟨p0, p1⟩ := PA.c2
  obtain ⟨q0, q1⟩ := QA.c2
  go_wp2_with fail
  refine (H.out _ HC).mono ?_
  rintro e w3 ⟨rfl, hB⟩
  replace HC := Gr.step HC hB
  replace PA := At.below hB PA
  replace QA := At.below hB QA
  replace RA := At.below hB RA
  clear hB H p0 p1 q0 q1
  obtain ⟨r0, r1⟩ := RA.c2
  obtain ⟨f0, f1⟩ := RA.f2
  go_wp2
  exact bodyPost_ret (v := .tuple #[.agg #[.int .i64 X, .int .i64 Z], E]) (by simp [results, Tryd.results50, go_sem, r0, r1]) rfl ⟨rfl, (HC.set hge _ _).set hge _ _⟩
theorem top_times (an ad bn bd : Int) (X Z : Int) (E : Value) (w : World)
    (HT : ∀ w1 : World, Gr w w1 → Calls Tryd.prog 50 #[.agg #[.int .i64 an, .int .i64 ad], .agg #[.int .i64 bn, .int .i64 bd], .func (Fn.func 53) #[] #[]] w1 fun e w' => e = .returned (.tuple #[.agg #[.int .i64 X, .int .i64 Z], E]) ∧ Below w1.heap.size w1 w') : Calls Tryd.prog 23 #[.agg #[.int .i64 an, .int .i64 ad], .agg #[.int .i64 bn, .int .i64 bd]] w fun e w' => e = .returned (.tuple #[.agg #[.int .i64 X, .int .i64 Z], E]) ∧ Below w.heap.size w w' := by
  have H := hidb HT
  clear HT
  have HC : Gr w (((w.alloc (.cells #[.int .i64 an, .int .i64 ad] 29)).alloc (.cells #[.int .i64 bn, .int .i64 bd] 29)).alloc (.cells #[.int .i64 0, .int .i64 0] 29)) := (((Gr.refl w).alloc _).alloc _).alloc _
  have PA := ((At.new2 w (.int .i64 an) (.int .i64 ad) 29).alloc (.cells #[.int .i64 bn, .int .i64 bd] 29)).alloc (.cells #[.int .i64 0, .int .i64 0] 29)
  have QA := (At.nx2 (W := w) (.cells #[.int .i64 an, .int .i64 ad] 29) (.int .i64 bn) (.int .i64 bd) 29).alloc (.cells #[.int .i64 0, .int .i64 0] 29)
  have RA := At.ny2 (W := w) (.cells #[.int .i64 an, .int .i64 ad] 29) (.cells #[.int .i64 bn, .int .i64 bd] 29) (.int .i64 0) (.int .i64 0) 29
  have hge : w.heap.size ≤ w.heap.size + 1 + 1 := by omega
  go_enter Tryd.func23, Tryd.ntmps23
  go_wp2_with fail
  refine (H.out _ HC).mono ?_
  rintro e w3 ⟨rfl, hB⟩
  replace HC := Gr.step HC hB
  replace PA := At.below hB PA
  replace QA := At.below hB QA
  replace RA := At.below hB RA
  clear hB H PA QA
  obtain ⟨r0, r1⟩ := RA.c2
  obtain ⟨f0, f1⟩ := RA.f2
  go_wp2
  exact bodyPost_ret (v := .tuple #[.agg #[.int .i64 X, .int .i64 Z], E]) (by simp [results, Tryd.results23, go_sem, r0, r1]) rfl ⟨rfl, (HC.set hge _ _).set hge _ _⟩
theorem ex_over (an ad bn bd : Int) (X Z : Int) (E : Value) (hq : Rgt an ad) (hr : Rgt bn bd) (w : World)
    (HT : ∀ w1 : World, Gr w w1 → Calls Tryd.prog 54 #[.agg #[.int .i64 an, .int .i64 ad], .agg #[.int .i64 bn, .int .i64 bd]] w1 fun e w' => e = .returned (.tuple #[.agg #[.int .i64 X, .int .i64 Z], E]) ∧ Below w1.heap.size w1 w') : Calls Tryd.prog 50 #[.agg #[.int .i64 an, .int .i64 ad], .agg #[.int .i64 bn, .int .i64 bd], .func (Fn.func 54) #[] #[]] w fun e w' => e = .returned (.tuple #[.agg #[.int .i64 X, .int .i64 Z], E]) ∧ Below w.heap.size w w' := by
  have HQ := hidb (fun w => right_yes hq w)
  have HR := hidb (fun w => right_yes hr w)
  have H := hidb HT
  clear HT
  have HC : Gr w (((w.alloc (.cells #[.int .i64 an, .int .i64 ad] 29)).alloc (.cells #[.int .i64 bn, .int .i64 bd] 29)).alloc (.cells #[.int .i64 0, .int .i64 0] 29)) := (((Gr.refl w).alloc _).alloc _).alloc _
  have PA := ((At.new2 w (.int .i64 an) (.int .i64 ad) 29).alloc (.cells #[.int .i64 bn, .int .i64 bd] 29)).alloc (.cells #[.int .i64 0, .int .i64 0] 29)
  have QA := (At.nx2 (W := w) (.cells #[.int .i64 an, .int .i64 ad] 29) (.int .i64 bn) (.int .i64 bd) 29).alloc (.cells #[.int .i64 0, .int .i64 0] 29)
  have RA := At.ny2 (W := w) (.cells #[.int .i64 an, .int .i64 ad] 29) (.cells #[.int .i64 bn, .int .i64 bd] 29) (.int .i64 0) (.int .i64 0) 29
  have hge : w.heap.size ≤ w.heap.size + 1 + 1 := by omega
  go_enter Tryd.func50, Tryd.ntmps50
  go_wp2_with fail
  refine (HQ.out _).mono ?_
  rintro e w1 ⟨rfl, hB⟩
  replace HC := Gr.step HC hB
  replace PA := At.below hB PA
  replace QA := At.below hB QA
  replace RA := At.below hB RA
  clear hB HQ
  obtain ⟨q0, q1⟩ := QA.c2
  go_wp2_with fail
  refine (HR.out _).mono ?_
  rintro e w2 ⟨rfl, hB⟩
  replace HC := Gr.step HC hB
  replace PA := At.below hB PA
  replace QA := At.below hB QA
  replace RA := At.below hB RA
  clear hB HR q0 q1
  obtain ⟨p0, p1⟩ := PA.c2
  obtain ⟨q0, q1⟩ := QA.c2
  go_wp2_with fail
  refine (H.out _ HC).mono ?_
  rintro e w3 ⟨rfl, hB⟩
  replace HC := Gr.step HC hB
  replace PA := At.below hB PA
  replace QA := At.below hB QA
  replace RA := At.below hB RA
  clear hB H p0 p1 q0 q1
  obtain ⟨r0, r1⟩ := RA.c2
  obtain ⟨f0, f1⟩ := RA.f2
  go_wp2
  exact bodyPost_ret (v := .tuple #[.agg #[.int .i64 X, .int .i64 Z], E]) (by simp [results, Tryd.results50, go_sem, r0, r1]) rfl ⟨rfl, (HC.set hge _ _).set hge _ _⟩
theorem top_over (an ad bn bd : Int) (X Z : Int) (E : Value) (w : World)
    (HT : ∀ w1 : World, Gr w w1 → Calls Tryd.prog 50 #[.agg #[.int .i64 an, .int .i64 ad], .agg #[.int .i64 bn, .int .i64 bd], .func (Fn.func 54) #[] #[]] w1 fun e w' => e = .returned (.tuple #[.agg #[.int .i64 X, .int .i64 Z], E]) ∧ Below w1.heap.size w1 w') : Calls Tryd.prog 24 #[.agg #[.int .i64 an, .int .i64 ad], .agg #[.int .i64 bn, .int .i64 bd]] w fun e w' => e = .returned (.tuple #[.agg #[.int .i64 X, .int .i64 Z], E]) ∧ Below w.heap.size w w' := by
  have H := hidb HT
  clear HT
  have HC : Gr w (((w.alloc (.cells #[.int .i64 an, .int .i64 ad] 29)).alloc (.cells #[.int .i64 bn, .int .i64 bd] 29)).alloc (.cells #[.int .i64 0, .int .i64 0] 29)) := (((Gr.refl w).alloc _).alloc _).alloc _
  have PA := ((At.new2 w (.int .i64 an) (.int .i64 ad) 29).alloc (.cells #[.int .i64 bn, .int .i64 bd] 29)).alloc (.cells #[.int .i64 0, .int .i64 0] 29)
  have QA := (At.nx2 (W := w) (.cells #[.int .i64 an, .int .i64 ad] 29) (.int .i64 bn) (.int .i64 bd) 29).alloc (.cells #[.int .i64 0, .int .i64 0] 29)
  have RA := At.ny2 (W := w) (.cells #[.int .i64 an, .int .i64 ad] 29) (.cells #[.int .i64 bn, .int .i64 bd] 29) (.int .i64 0) (.int .i64 0) 29
  have hge : w.heap.size ≤ w.heap.size + 1 + 1 := by omega
  go_enter Tryd.func24, Tryd.ntmps24
  go_wp2_with fail
  refine (H.out _ HC).mono ?_
  rintro e w3 ⟨rfl, hB⟩
  replace HC := Gr.step HC hB
  replace PA := At.below hB PA
  replace QA := At.below hB QA
  replace RA := At.below hB RA
  clear hB H PA QA
  obtain ⟨r0, r1⟩ := RA.c2
  obtain ⟨f0, f1⟩ := RA.f2
  go_wp2
  exact bodyPost_ret (v := .tuple #[.agg #[.int .i64 X, .int .i64 Z], E]) (by simp [results, Tryd.results24, go_sem, r0, r1]) rfl ⟨rfl, (HC.set hge _ _).set hge _ _⟩
end Go.Proofs.YtgjjgicojedefaaDoor
