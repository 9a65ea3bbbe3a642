/-
  fix.Proved.
-/
import Derived.Test.YtehkonddgiakaaaDoorQFnD
namespace Go.Proofs.YtehkonddgiakaaaDoor
open Go.RowKit

/-- Is a point in a box? -/
def pin (a b c d x y : Int) : Prop := ¬ x < a ∧ ¬ c < x ∧ ¬ y < b ∧ ¬ d < y
instance (a b c d x y : Int) : Decidable (pin a b c d x y) := by unfold pin; exact inferInstance
/-- Proved's own blocks: the box, the point. -/
structure PvP (w W : World) (a b c d x y : Int) : Prop where
  a0 : At W w.heap.size [.int .i64 a, .int .i64 b, .int .i64 c, .int .i64 d]
  a1 : At W (w.heap.size + 1) [.int .i64 x, .int .i64 y]
  gr : Gr w W
theorem PvP.below {w W w' : World} {a b c d x y : Int} (h : PvP w W a b c d x y) (hB : Below W.heap.size W w') : PvP w w' a b c d x y := ⟨h.a0.below hB, h.a1.below hB, Gr.step h.gr hB⟩
theorem PvP.alloc {w W : World} {a b c d x y : Int} (h : PvP w W a b c d x y) (o : Obj) : PvP w (W.alloc o) a b c d x y := ⟨h.a0.alloc o, h.a1.alloc o, h.gr.alloc o⟩
theorem PvP.drew {w W : World} {a b c d x y : Int} (h : PvP w W a b c d x y) : PvP w W.drew a b c d x y := ⟨h.a0, h.a1, h.gr.drew⟩
theorem PvP.new (w : World) (a b c d x y : Int) (t t' : Nat) : PvP w ((w.alloc (.cells #[.int .i64 a, .int .i64 b, .int .i64 c, .int .i64 d] t)).alloc (.cells #[.int .i64 x, .int .i64 y] t')) a b c d x y :=
  ⟨(At.new4 w _ _ _ _ t).alloc _, At.nx2 (W := w) _ _ _ t', ((Gr.refl w).alloc _).alloc _⟩
theorem not_pin {a b c d x y : Int} (h : ¬ pin a b c d x y) : x < a ∨ (¬ x < a ∧ c < x) ∨ (¬ x < a ∧ ¬ c < x ∧ y < b) ∨ (¬ x < a ∧ ¬ c < x ∧ ¬ y < b ∧ d < y) := by unfold pin at h; omega
set_option maxRecDepth 4000 in
set_option maxHeartbeats 4000000 in
theorem proved_out (v : Value) (a b c d x y mi : Int) (w : World) (h : ¬ pin a b c d x y) : Calls Tryd.prog 19 #[v, boV a b c d, spV x y, .int .i64 mi] w fun e w' => e = .returned (.bool false) ∧ Gr w w' := by
  have P := hidb (PvP.new w a b c d x y 47 45)
  rcases not_pin h with k1 | ⟨k1, k2⟩ | ⟨k1, k2, k3⟩ | ⟨k1, k2, k3, k4⟩
  all_goals
    clear h
    obtain ⟨b0, b1, b2, b3⟩ := P.out.a0.c4
    obtain ⟨a0, a1⟩ := P.out.a1.c2
    go_enter Tryd.func19, Tryd.ntmps19
    go_wp2
    go_ret
    exact ⟨rfl, P.out.gr⟩
set_option maxRecDepth 4000 in
set_option maxHeartbeats 4000000 in
theorem proved_err (g : Nat → Addr) (i : Nat) (v : Value) (a b c d x y mi p q m : Int) (w : World) (h : pin a b c d x y) (hN : ∀ W, Gr w W → Calls Tryd.prog 18 #[v, boV a b c d] W fun e w' => e = .returned (.tuple #[spV p q, .int .i64 m, errV g i]) ∧ Gr W w') : Calls Tryd.prog 19 #[v, boV a b c d, spV x y, .int .i64 mi] w fun e w' => e = .returned (.bool false) ∧ Gr w w' := by
  have P := hidb (PvP.new w a b c d x y 47 45)
  have CN := hidb hN
  obtain ⟨k1, k2, k3, k4⟩ := h
  obtain ⟨b0, b1, b2, b3⟩ := P.out.a0.c4
  obtain ⟨a0, a1⟩ := P.out.a1.c2
  clear hN
  go_enter Tryd.func19, Tryd.ntmps19
  go_wp2_with fail
  refine (CN.out _ P.out.gr).mono ?_
  rintro e w1 ⟨rfl, hB⟩
  replace P := hidb (P.out.below hB.out)
  clear hB b0 b1 b2 b3 a0 a1
  go_wp2
  go_ret
  exact ⟨rfl, P.out.gr.alloc _⟩
set_option maxRecDepth 4000 in
set_option maxHeartbeats 4000000 in
theorem proved_ok (v : Value) (a b c d x y mi p q m z : Int) (w : World) (h : pin a b c d x y) (hN : ∀ W, Gr w W → Calls Tryd.prog 18 #[v, boV a b c d] W fun e w' => e = .returned (.tuple #[spV p q, .int .i64 m, .nilIface]) ∧ Gr W w') (hM : ∀ W, Gr w W → Calls Tryd.prog 38 #[v, spV x y] W fun e w' => e = .returned (.int .i64 z) ∧ Gr W w') : Calls Tryd.prog 19 #[v, boV a b c d, spV x y, .int .i64 mi] w fun e w' => e = .returned (.bool (decide (mi = m ∧ z = mi))) ∧ Gr w w' := by
  have P := hidb (PvP.new w a b c d x y 47 45)
  have CN := hidb hN
  have CM := hidb hM
  obtain ⟨k1, k2, k3, k4⟩ := h
  obtain ⟨b0, b1, b2, b3⟩ := P.out.a0.c4
  obtain ⟨a0, a1⟩ := P.out.a1.c2
  clear hN hM
  by_cases c1 : mi = m
  · by_cases c2 : z = mi
    · rw [decide_eq_true ⟨c1, c2⟩]
      subst c1 c2
      go_enter Tryd.func19, Tryd.ntmps19
      go_wp2_with fail
      refine (CN.out _ P.out.gr).mono ?_
      rintro e w1 ⟨rfl, hB⟩
      replace P := hidb ((P.out.below hB.out).alloc (.cells #[.int .i64 p, .int .i64 q] 45))
      clear hB b0 b1 b2 b3 a0 a1
      go_upto_region 4 with fail
      generalize w1.alloc (.cells #[.int .i64 p, .int .i64 q] 45) = w2 at *
      obtain ⟨a0, a1⟩ := P.out.a1.c2
      go_wp2_with fail
      refine (CM.out _ P.out.gr).mono ?_
      rintro e w3 ⟨rfl, hB⟩
      replace P := hidb (P.out.below hB.out)
      clear hB a0 a1
      go_wp2
      go_ret
      exact ⟨rfl, P.out.gr⟩
    · rw [decide_eq_false (fun h => c2 h.2)]
      subst c1
      have c2' : (z == mi) = false := by simpa using c2
      go_enter Tryd.func19, Tryd.ntmps19
      go_wp2_with fail
      refine (CN.out _ P.out.gr).mono ?_
      rintro e w1 ⟨rfl, hB⟩
      replace P := hidb ((P.out.below hB.out).alloc (.cells #[.int .i64 p, .int .i64 q] 45))
      clear hB b0 b1 b2 b3 a0 a1
      go_upto_region 4 with fail
      generalize w1.alloc (.cells #[.int .i64 p, .int .i64 q] 45) = w2 at *
      obtain ⟨a0, a1⟩ := P.out.a1.c2
      go_wp2_with fail
      refine (CM.out _ P.out.gr).mono ?_
      rintro e w3 ⟨rfl, hB⟩
      replace P := hidb (P.out.below hB.out)
      clear hB a0 a1
      go_wp2
      go_ret
      exact ⟨rfl, P.out.gr⟩
  · rw [decide_eq_false (fun h => c1 h.1)]
    have c1' : (mi == m) = false := by simpa using c1
    go_enter Tryd.func19, Tryd.ntmps19
    go_wp2_with fail
    refine (CN.out _ P.out.gr).mono ?_
    rintro e w1 ⟨rfl, hB⟩
    replace P := hidb (P.out.below hB.out)
    clear hB b0 b1 b2 b3 a0 a1
    go_wp2
    go_ret
    exact ⟨rfl, P.out.gr.alloc _⟩
end Go.Proofs.YtehkonddgiakaaaDoor
