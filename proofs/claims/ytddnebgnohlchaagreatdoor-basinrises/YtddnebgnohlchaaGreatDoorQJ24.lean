/-
  basin.Rise.; basin.Rise of a right cell.
-/
import Derived.Test.YtddnebgnohlchaaGreatDoorQRiI
import Derived.Test.YtddnebgnohlchaaGreatDoorQJ17
namespace Go.Proofs.YtddnebgnohlchaaGreatDoor
open Go.RowKit
attribute [local go_sem ↓] Go.wp_at_zero Go.wp_at_succ

theorem bwithin_any (x lo hi : Int) (w : World) : Calls Tryz.prog 35 #[.int .i64 x, .int .i64 lo, .int .i64 hi] w fun e w' => e = .returned (.bool (inI lo hi x)) ∧ w' = w := by
  by_cases c : lo ≤ x
  · have e1 : inI lo hi x = decide (x ≤ hi) := by unfold inI; rw [decide_eq_true c]; simp
    rw [e1]
    clear e1
    go_enter Tryz.func35, Tryz.ntmps35
    go_wp2
    go_ret
    exact ⟨by simp, rfl⟩
  · have e1 : inI lo hi x = false := by unfold inI; rw [decide_eq_false c]; simp
    rw [e1]
    clear e1
    go_enter Tryz.func35, Tryz.ntmps35
    go_wp2
    go_ret
    exact ⟨by simp, rfl⟩
/-- What lies in memory. -/
structure RP (w W : World) (T F : Nat) (t : List Value) : Prop where
  t : At W T t
  f : At W F [.int .i64 0, .int .i64 0]
  gr : Gr w W
  b : w.heap.size ≤ F
theorem RP.below {w W w' : World} {T F : Nat} {t : List Value} (h : RP w W T F t) (hB : Below W.heap.size W w') : RP w w' T F t := ⟨At.below hB h.t, At.below hB h.f, Gr.step h.gr hB, h.b⟩
theorem RP.start (w : World) (a b c : Value) : RP w ((w.alloc (.cells #[a, b, c] 32)).alloc (.cells #[.int .i64 0, .int .i64 0] 50)) w.heap.size (w.heap.size + 1) [a, b, c] :=
  ⟨(At.new3 _ _ _ _ _).alloc _, At.nx2 _ _ _ _, ((Gr.refl w).alloc _).alloc _, by omega⟩
abbrev fr00 : Value := .agg #[.int .i64 0, .int .i64 0]
set_option maxRecDepth 4000 in
set_option maxHeartbeats 4000000 in
theorem brise_no (g : Nat → Addr) {W H : Int} {ad : Option Addr} {b o cap : Nat} {l : List Int} (u v : Value) (w : World) (h : ISl w ad b o cap l) (ll : l.length ≤ 20000) (hl : Lai w g) (hv : ¬ vcode W H l = 0) : Calls Tryz.prog 16 #[raV W H (.slice ad l.length cap), u, v] w fun e w' => e = .returned (.tuple #[fr00, .slice none 0 0, evc g (vcode W H l)]) ∧ Gr w w' := by
  have PX := hidb (RP.start w (.int .i64 W) (.int .i64 H) (.slice ad l.length cap))
  have C1 := hidb (valid_lai g W H ad b o cap l _ (h.below PX.out.gr.out) ll (hl.below PX.out.gr.out))
  rw [evc_of hv] at C1 ⊢
  generalize vcode W H l - 1 = ei at *
  clear h ll hl hv
  go_enter Tryz.func16, Tryz.ntmps16
  obtain ⟨q0, q1, q2⟩ := PX.out.t.c3
  go_wp2_with fail
  refine C1.out.mono ?_
  rintro e w1 ⟨rfl, hB⟩
  clear q0 q1 q2
  replace PX := hidb (PX.out.below hB.out)
  have hF := PX.out.b
  have G := PX.out.gr
  obtain ⟨r0, r1⟩ := PX.out.f.c2
  obtain ⟨f0, f1⟩ := PX.out.f.f2
  generalize w.heap.size + 1 = F at *
  clear hB C1 PX
  go_wp2
  exact bodyPost_ret (v := .tuple #[fr00, .slice none 0 0, errV g ei]) (by simp [results, Tryz.results16, go_sem, r0, r1]) rfl ⟨rfl, by ((with_reducible repeat' (first | assumption | refine Gr.drew ?_ | refine Gr.alloc ?_ _ | refine Gr.set ?_ (by first | omega | (simp; omega)) _ _ | exact Gr.refl _)); done)⟩
set_option maxRecDepth 4000 in
set_option maxHeartbeats 4000000 in
theorem brise_out (g : Nat → Addr) {m n Lb Lo Lcap : Nat} {l : List Int} (c water : Int) (hc : ¬ ((0 ≤ c ∧ c < (l.length : Int)) ∧ 0 ≤ water ∧ water ≤ 1099511627776)) (w : World) (hR : Rs w Lb Lo Lcap l) (ok : Ok l m n) (hv : vcode m n l = 0) (hl : Lai w g) : Calls Tryz.prog 16 #[raV m n (.slice (some ⟨Lb, Lo, none⟩) l.length Lcap), .int .i64 c, .int .i64 water] w fun e w' => e = .returned (.tuple #[fr00, .slice none 0 0, evc g 4]) ∧ Gr w w' := by
  have hlen := ok.len_le
  have PX := hidb (RP.start w (.int .i64 (m : Int)) (.int .i64 (n : Int)) (.slice (some ⟨Lb, Lo, none⟩) l.length Lcap))
  have C1 := hidb (valid_lai g m n _ Lb Lo Lcap l _ (hR.below PX.out.gr.out).isl (by omega) (hl.below PX.out.gr.out))
  rw [hv, show evc g 0 = .nilIface from rfl] at C1
  obtain ⟨n1, hn1, e0⟩ : ∃ z : Int, z = (l.length : Int) - 1 ∧ IntKind.i64.wrap ((l.length : Int) - 1) = z := ⟨_, rfl, wrap_in (by omega) (by omega)⟩
  have HW := hidb (fun W => bwithin_any c 0 n1 W)
  have HV := hidb (fun W => bwithin_any water 0 1099511627776 W)
  have HLa := hidb hl
  obtain ⟨N, hN⟩ : ∃ N, N = l.length := ⟨_, rfl⟩
  rw [← hN] at PX C1 e0 hc hn1 ⊢
  have Hc := hidb (show (0 ≤ c ∧ c ≤ n1) → ¬ (0 ≤ water ∧ water ≤ 1099511627776) from fun h1 h2 => hc ⟨⟨h1.1, by omega⟩, h2⟩)
  rw [show evc g 4 = errV g 3 from rfl]
  clear hR ok hv hl hlen hc hn1 hN
  show Calls Tryz.prog 16 #[.agg #[.int .i64 (m : Int), .int .i64 (n : Int), .slice (some ⟨Lb, Lo, none⟩) N Lcap], .int .i64 c, .int .i64 water] w _
  go_enter Tryz.func16, Tryz.ntmps16
  obtain ⟨q0, q1, q2⟩ := PX.out.t.c3
  go_wp2_with fail
  refine C1.out.mono ?_
  rintro e w1 ⟨rfl, hB⟩
  clear q0 q1 q2
  replace PX := hidb (PX.out.below hB.out)
  clear hB C1
  obtain ⟨q0, q1, q2⟩ := PX.out.t.c3
  have hF := PX.out.b
  have G := PX.out.gr
  obtain ⟨r0, r1⟩ := PX.out.f.c2
  obtain ⟨f0, f1⟩ := PX.out.f.f2
  have cE := (show World.cell? _ ⟨0, 0, none⟩ = some (errV g 3) from (HLa.out.below PX.out.gr.out).cell 3 (by decide))
  have hEl : 0 < w.heap.size := lt_of_cell (HLa.out.cell 3 (by decide))
  have hne : ¬ w.heap.size + 1 = 0 := by omega
  go_wp2_with fail
  refine (HW.out _).mono ?_
  rintro e w1b ⟨rfl, rfl⟩
  by_cases h1 : 0 ≤ c ∧ c ≤ n1
  · rw [inI_of h1]
    have h2 := Hc.out h1
    clear h1
    go_wp2_with fail
    refine (HV.out _).mono ?_
    rintro e w1c ⟨rfl, rfl⟩
    rw [inI_not h2]
    clear h2
    go_upto_region 5 with fail
    generalize w.heap.size + 1 = F at *
    go_region_held (fun w' => w'.cell? ⟨0, 0, none⟩ = some (errV g 3))
      (first | (with_reducible assumption) | exact cE | exact keep2 cE hne)
      (fail)
    go_wp2
    exact bodyPost_ret (v := .tuple #[fr00, .slice none 0 0, errV g 3]) (by simp [results, Tryz.results16, go_sem, r0, r1]) rfl ⟨rfl, by ((with_reducible repeat' (first | assumption | refine Gr.drew ?_ | refine Gr.alloc ?_ _ | refine Gr.set ?_ (by first | omega | (simp; omega)) _ _ | exact Gr.refl _)); done)⟩
  · rw [inI_not h1]
    clear h1
    go_upto_region 5 with fail
    generalize w.heap.size + 1 = F at *
    go_region_held (fun w' => w'.cell? ⟨0, 0, none⟩ = some (errV g 3))
      (first | (with_reducible assumption) | exact cE | exact keep2 cE hne)
      (fail)
    go_wp2
    exact bodyPost_ret (v := .tuple #[fr00, .slice none 0 0, errV g 3]) (by simp [results, Tryz.results16, go_sem, r0, r1]) rfl ⟨rfl, by ((with_reducible repeat' (first | assumption | refine Gr.drew ?_ | refine Gr.alloc ?_ _ | refine Gr.set ?_ (by first | omega | (simp; omega)) _ _ | exact Gr.refl _)); done)⟩
end Go.Proofs.YtddnebgnohlchaaGreatDoor
namespace Go.Proofs.YtddnebgnohlchaaGreatDoor
open Go.RowKit
attribute [local go_sem ↓] Go.wp_at_zero Go.wp_at_succ

set_option maxRecDepth 4000 in
set_option maxHeartbeats 4000000 in
theorem brise_rim (g : Nat → Addr) {m n Lb Lo Lcap : Nat} {l : List Int} (c : Nat) (water : Int) (hc : c < l.length) (hw : 0 ≤ water ∧ water ≤ 1099511627776) (hr : rim m n c) (w : World) (hR : Rs w Lb Lo Lcap l) (ok : Ok l m n) (hv : vcode m n l = 0) (hl : Laid w g) : Calls Tryz.prog 16 #[raV m n (.slice (some ⟨Lb, Lo, none⟩) l.length Lcap), .int .i64 (c : Int), .int .i64 water] w fun e w' => e = .returned (.tuple #[fr00, .slice none 0 0, evc g 6]) ∧ Gr w w' := by
  have hlen := ok.len_le
  have PX := hidb (RP.start w (.int .i64 (m : Int)) (.int .i64 (n : Int)) (.slice (some ⟨Lb, Lo, none⟩) l.length Lcap))
  have C1 := hidb (valid_lai g m n _ Lb Lo Lcap l _ (hR.below PX.out.gr.out).isl (by omega) (hl.lai.below PX.out.gr.out))
  rw [hv, show evc g 0 = .nilIface from rfl] at C1
  obtain ⟨n1, hn1, e0⟩ : ∃ z : Int, z = (l.length : Int) - 1 ∧ IntKind.i64.wrap ((l.length : Int) - 1) = z := ⟨_, rfl, wrap_in (by omega) (by omega)⟩
  have HW := hidb (fun W => bwithin_any (c : Int) 0 n1 W)
  have HV := hidb (fun W => bwithin_any water 0 1099511627776 W)
  rw [inI_of (show 0 ≤ (c : Int) ∧ (c : Int) ≤ n1 by omega)] at HW
  rw [inI_of hw] at HV
  have HO : Hid (∀ W, Calls Tryz.prog 36 #[.agg #[.int .i64 (m : Int), .int .i64 (n : Int), .slice (some ⟨Lb, Lo, none⟩) l.length Lcap], .int .i64 (c : Int)] W fun e w' => e = .returned (.bool true) ∧ Gr W w') := fun W => by
    have := onRim_any (m := m) (n := n) (some ⟨Lb, Lo, none⟩) l.length Lcap c ok.m1 ok.m2 ok.n2 (by rw [← ok.len]; exact hc) ok.len W
    rw [decide_eq_true hr] at this
    exact this
  have HLa := hidb hl
  obtain ⟨N, hN⟩ : ∃ N, N = l.length := ⟨_, rfl⟩
  rw [← hN] at PX C1 e0 HO ⊢
  rw [show evc g 6 = errV g 5 from rfl]
  clear hR ok hv hl hlen hc hn1 hN hw hr
  show Calls Tryz.prog 16 #[.agg #[.int .i64 (m : Int), .int .i64 (n : Int), .slice (some ⟨Lb, Lo, none⟩) N Lcap], .int .i64 (c : Int), .int .i64 water] w _
  go_enter Tryz.func16, Tryz.ntmps16
  obtain ⟨q0, q1, q2⟩ := PX.out.t.c3
  go_wp2_with fail
  refine C1.out.mono ?_
  rintro e w1 ⟨rfl, hB⟩
  clear q0 q1 q2
  replace PX := hidb (PX.out.below hB.out)
  clear hB C1
  obtain ⟨q0, q1, q2⟩ := PX.out.t.c3
  go_wp2_with fail
  refine (HW.out _).mono ?_
  rintro e w1b ⟨rfl, rfl⟩
  go_wp2_with fail
  refine (HV.out _).mono ?_
  rintro e w1c ⟨rfl, rfl⟩
  go_wp2_with fail
  refine (HO.out _).mono ?_
  rintro e w2 ⟨rfl, hB⟩
  clear q0 q1 q2
  replace PX := hidb (PX.out.below hB.out)
  clear hB HO HW HV
  have hF := PX.out.b
  have G := PX.out.gr
  obtain ⟨r0, r1⟩ := PX.out.f.c2
  obtain ⟨f0, f1⟩ := PX.out.f.f2
  have cE := (show World.cell? _ ⟨1, 0, none⟩ = some (errV g 5) from (HLa.out.below PX.out.gr.out).cell 5 (by decide))
  have hEl : 1 < w.heap.size := lt_of_cell (HLa.out.cell 5 (by decide))
  have hne : ¬ w.heap.size + 1 = 1 := by omega
  go_upto_region 7 with fail
  generalize w.heap.size + 1 = F at *
  go_region_held (fun w' => w'.cell? ⟨1, 0, none⟩ = some (errV g 5))
    (first | (with_reducible assumption) | exact cE | exact keep2 cE hne)
    (fail)
  go_wp2
  exact bodyPost_ret (v := .tuple #[fr00, .slice none 0 0, errV g 5]) (by simp [results, Tryz.results16, go_sem, r0, r1]) rfl ⟨rfl, by ((with_reducible repeat' (first | assumption | refine Gr.drew ?_ | refine Gr.alloc ?_ _ | refine Gr.set ?_ (by first | omega | (simp; omega)) _ _ | exact Gr.refl _)); done)⟩
/-- What Rise answers of a right cell. -/
def QAns (m n : Nat) (l : List Int) (c : Nat) (water : Int) (w' : World) (a b : Int) (v : Value) : Prop :=
  (Stp m n l c water (gl l c) ∧ a = gl l c ∧ b = 1 ∧ v = .slice none 0 0) ∨
  ∃ (top : Int) (O : List Nat) (base g cap : Nat), (gl l c < top ∧ top ≤ 1048576 ∧ 1 ≤ O.length) ∧ Pool m n l c water (top - 1) O ∧ Stp m n l c water top ∧ Low a b (min (water + sL l O) (top * O.length)) O.length ∧ v = .slice (some ⟨g, 0, none⟩) O.length cap ∧ w'.ownsRow base 3 1 (.slice (some ⟨g, 0, none⟩) O.length cap) O.length (ir (srI (on O)))
theorem RAns.q {m n c : Nat} {l : List Int} {water : Int} {w w' : World} {e : Ending} (h : RAns m n l c water w w' e) : ∃ a b v, e = .returned (.tuple #[.agg #[.int .i64 a, .int .i64 b], v, .nilIface]) ∧ QAns m n l c water w' a b v ∧ ∀ B, B < w.heap.size → v.ownBlock ≠ some B := by
  rcases h with ⟨h1, rfl⟩ | ⟨top, O, a, b, base, g, cap, h1, h2, h3, h4, rfl, h5, h6⟩
  · exact ⟨_, _, _, rfl, .inl ⟨h1, rfl, rfl, rfl⟩, fun B _ e => by cases e⟩
  · exact ⟨a, b, _, rfl, .inr ⟨top, O, base, g, cap, h1, h2, h3, h4, rfl, h5⟩, fun B hB e => by have := (h5.lt B e).1; omega⟩
theorem QAns.below {m n c : Nat} {l : List Int} {water : Int} {w' w2 : World} {a b : Int} {v : Value} (h : QAns m n l c water w' a b v) (hB : Below w'.heap.size w' w2) : QAns m n l c water w2 a b v := by
  rcases h with h | ⟨top, O, base, g, cap, h1, h2, h3, h4, h5, h6⟩
  · exact .inl h
  · exact .inr ⟨top, O, base, g, cap, h1, h2, h3, h4, h5, own_keep h6 hB⟩
theorem QAns.put {m n c : Nat} {l : List Int} {water : Int} {w' : World} {a b : Int} {v : Value} (h : QAns m n l c water w' a b v) {B : Nat} (hB : v.ownBlock ≠ some B) (o : Nat) (u : Value) : QAns m n l c water (w'.setCell ⟨B, o, none⟩ u) a b v := by
  rcases h with h | ⟨top, O, base, g, cap, h1, h2, h3, h4, h5, h6⟩
  · exact .inl h
  · subst h5; exact .inr ⟨top, O, base, g, cap, h1, h2, h3, h4, rfl, own_put h6 hB _ _⟩
/-- What Rise answers, as an ending. -/
def BAns (m n : Nat) (l : List Int) (c : Nat) (water : Int) (w w' : World) (e : Ending) : Prop := (∃ a b v, e = .returned (.tuple #[.agg #[.int .i64 a, .int .i64 b], v, .nilIface]) ∧ QAns m n l c water w' a b v) ∧ Gr w w'
set_option maxRecDepth 4000 in
set_option maxHeartbeats 4000000 in
theorem brise_ok (g : Nat → Addr) {m n Lb Lo Lcap : Nat} {l : List Int} (c : Nat) (water : Int) (hc : c < l.length) (hw : 0 ≤ water ∧ water ≤ 1099511627776) (hr : ¬ rim m n c) (w : World) (hR : Rs w Lb Lo Lcap l) (ok : Ok l m n) (hv : vcode m n l = 0) (hl : Laid w g) : Calls Tryz.prog 16 #[raV m n (.slice (some ⟨Lb, Lo, none⟩) l.length Lcap), .int .i64 (c : Int), .int .i64 water] w fun e w' => BAns m n l c water w w' e := by
  have hlen := ok.len_le
  have PX := hidb (RP.start w (.int .i64 (m : Int)) (.int .i64 (n : Int)) (.slice (some ⟨Lb, Lo, none⟩) l.length Lcap))
  have C1 := hidb (valid_lai g m n _ Lb Lo Lcap l _ (hR.below PX.out.gr.out).isl (by omega) (hl.lai.below PX.out.gr.out))
  rw [hv, show evc g 0 = .nilIface from rfl] at C1
  obtain ⟨n1, hn1, e0⟩ : ∃ z : Int, z = (l.length : Int) - 1 ∧ IntKind.i64.wrap ((l.length : Int) - 1) = z := ⟨_, rfl, wrap_in (by omega) (by omega)⟩
  have HW := hidb (fun W => bwithin_any (c : Int) 0 n1 W)
  have HV := hidb (fun W => bwithin_any water 0 1099511627776 W)
  rw [inI_of (show 0 ≤ (c : Int) ∧ (c : Int) ≤ n1 by omega)] at HW
  rw [inI_of hw] at HV
  have HO : Hid (∀ W, Calls Tryz.prog 36 #[.agg #[.int .i64 (m : Int), .int .i64 (n : Int), .slice (some ⟨Lb, Lo, none⟩) l.length Lcap], .int .i64 (c : Int)] W fun e w' => e = .returned (.bool false) ∧ Gr W w') := fun W => by
    have := onRim_any (m := m) (n := n) (some ⟨Lb, Lo, none⟩) l.length Lcap c ok.m1 ok.m2 ok.n2 (by rw [← ok.len]; exact hc) ok.len W
    rw [decide_eq_false hr] at this
    exact this
  have HRi : Hid (∀ W, Gr w W → Calls Tryz.prog 37 #[.agg #[.int .i64 (m : Int), .int .i64 (n : Int), .slice (some ⟨Lb, Lo, none⟩) l.length Lcap], .int .i64 (c : Int), .int .i64 water] W fun e w' => RAns m n l c water W w' e ∧ Gr W w') := fun W hG => rise_any c water hc hw W (hR.below hG.out) ok
  obtain ⟨N, hN⟩ : ∃ N, N = l.length := ⟨_, rfl⟩
  rw [← hN] at PX C1 e0 HO HRi ⊢
  clear hR ok hv hl hlen hc hn1 hN hw hr
  show Calls Tryz.prog 16 #[.agg #[.int .i64 (m : Int), .int .i64 (n : Int), .slice (some ⟨Lb, Lo, none⟩) N Lcap], .int .i64 (c : Int), .int .i64 water] w _
  go_enter Tryz.func16, Tryz.ntmps16
  obtain ⟨q0, q1, q2⟩ := PX.out.t.c3
  go_wp2_with fail
  refine C1.out.mono ?_
  rintro e w1 ⟨rfl, hB⟩
  clear q0 q1 q2
  replace PX := hidb (PX.out.below hB.out)
  clear hB C1
  obtain ⟨q0, q1, q2⟩ := PX.out.t.c3
  go_wp2_with fail
  refine (HW.out _).mono ?_
  rintro e w1b ⟨rfl, rfl⟩
  go_wp2_with fail
  refine (HV.out _).mono ?_
  rintro e w1c ⟨rfl, rfl⟩
  go_wp2_with fail
  refine (HO.out _).mono ?_
  rintro e w2 ⟨rfl, hB⟩
  clear q0 q1 q2
  replace PX := hidb (PX.out.below hB.out)
  clear hB HO HW HV
  obtain ⟨q0, q1, q2⟩ := PX.out.t.c3
  go_wp2_with fail
  refine (HRi.out _ PX.out.gr).mono ?_
  rintro e w3 ⟨ha, hB⟩
  have hFl := PX.out.f.lt
  replace PX := hidb (PX.out.below hB.out)
  obtain ⟨a, b, v, rfl, hq, hne⟩ := ha.q
  have hne2 := hne _ hFl
  have hF := PX.out.b
  obtain ⟨r0, r1⟩ := PX.out.f.c2
  obtain ⟨f0, f1⟩ := PX.out.f.f2
  have HQ := hidb ((hq.put hne2 0 (.int .i64 a)).put hne2 1 (.int .i64 b))
  have HG := hidb ((PX.out.gr.set hF 0 (.int .i64 a)).set hF 1 (.int .i64 b))
  clear ha hq hne hne2 hB hFl q0 q1 q2
  generalize w.heap.size + 1 = F at *
  clear hF
  go_wp2
  exact bodyPost_ret (v := .tuple #[.agg #[.int .i64 a, .int .i64 b], v, .nilIface]) (by simp [results, Tryz.results16, go_sem, r0, r1]) rfl ⟨⟨a, b, v, rfl, HQ.out⟩, HG.out⟩
end Go.Proofs.YtddnebgnohlchaaGreatDoor
