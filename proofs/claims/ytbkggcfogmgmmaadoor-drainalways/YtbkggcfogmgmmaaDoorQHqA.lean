/-
  What container/heap calls by its interface: which functions they are; cmp.Compare, cmp.Or.
-/
import Derived.Test.YtbkggcfogmgmmaaDoorQJ1
import Derived.Handy
namespace Go.Proofs.YtbkggcfogmgmmaaDoor
open Go.RowKit

theorem mPush (p : Addr) (w : World) : (Go.method 301 120 (.pointer (some p)) "Push").run Tryd.prog w = .ok (118, .pointer (some p)) w := by kernel_rfl
theorem mPop (p : Addr) (w : World) : (Go.method 301 120 (.pointer (some p)) "Pop").run Tryd.prog w = .ok (117, .pointer (some p)) w := by kernel_rfl
theorem mLoad (p : Addr) (v : Value) (w : World) (h : w.cell? p = some v) : (loadVar 66 p).run Tryd.prog w = .ok v w := by
  have hu : (loadVar 66 p).run Tryd.prog w = (load p).run Tryd.prog w := by kernel_rfl
  rw [hu]
  simp [go_sem, h]
theorem mLen (p : Addr) (v : Value) (w : World) (h : w.cell? p = some v) : (Go.method 301 120 (.pointer (some p)) "Len").run Tryd.prog w = .ok (63, v) w := by
  have hu : (Go.method 301 120 (.pointer (some p)) "Len").run Tryd.prog w = (do let r ← loadVar 66 p; pure (63, r) : Sem (FuncId × Value)).run Tryd.prog w := by kernel_rfl
  rw [hu]
  simp [go_sem, h, Result.andThen]
theorem mLess (p : Addr) (v : Value) (w : World) (h : w.cell? p = some v) : (Go.method 301 120 (.pointer (some p)) "Less").run Tryd.prog w = .ok (110, v) w := by
  have hu : (Go.method 301 120 (.pointer (some p)) "Less").run Tryd.prog w = (do let r ← loadVar 66 p; pure (110, r) : Sem (FuncId × Value)).run Tryd.prog w := by kernel_rfl
  rw [hu]
  simp [go_sem, h, Result.andThen]
theorem mSwap (p : Addr) (v : Value) (w : World) (h : w.cell? p = some v) : (Go.method 301 120 (.pointer (some p)) "Swap").run Tryd.prog w = .ok (111, v) w := by
  have hu : (Go.method 301 120 (.pointer (some p)) "Swap").run Tryd.prog w = (do let r ← loadVar 66 p; pure (111, r) : Sem (FuncId × Value)).run Tryd.prog w := by kernel_rfl
  rw [hu]
  simp [go_sem, h, Result.andThen]
/-- Which of two is less, as a number. -/
def cmI (x y : Int) : Int := if x < y then -1 else if y < x then 1 else 0
def orI (a b : Int) : Int := if a = 0 then b else a
theorem isNaN_any (x : Int) (w : World) : Calls Tryd.prog 114 #[.int .i64 x] w fun e w' => e = .returned (.bool false) ∧ w' = w := by
  go_enter Tryd.func114, Tryd.ntmps114
  go_wp2
  go_ret
  exact ⟨by simp, rfl⟩
theorem compare_any (x y : Int) (w : World) : Calls Tryd.prog 113 #[.int .i64 x, .int .i64 y] w fun e w' => e = .returned (.int .i64 (cmI x y)) ∧ w' = w := by
  by_cases c1 : x < y
  · have e1 : cmI x y = -1 := by unfold cmI; rw [if_pos c1]
    rw [e1]
    clear e1
    go_enter Tryd.func113, Tryd.ntmps113
    go_wp2
    go_ret
    exact ⟨rfl, rfl⟩
  · by_cases c2 : y < x
    · have e1 : cmI x y = 1 := by unfold cmI; rw [if_neg c1, if_pos c2]
      rw [e1]
      clear e1
      go_enter Tryd.func113, Tryd.ntmps113
      go_wp2
      go_ret
      exact ⟨rfl, rfl⟩
    · have e1 : cmI x y = 0 := by unfold cmI; rw [if_neg c1, if_neg c2]
      rw [e1]
      clear e1
      go_enter Tryd.func113, Tryd.ntmps113
      go_wp2
      go_ret
      exact ⟨rfl, rfl⟩
theorem or_any (B : Nat) (a b : Int) (w : World) (h : At w B [.int .i64 a, .int .i64 b]) : Calls Tryd.prog 112 #[.slice (some ⟨B, 0, none⟩) 2 2] w fun e w' => e = .returned (.int .i64 (orI a b)) ∧ w' = w := by
  obtain ⟨c0, c1⟩ := h.c2
  clear h
  by_cases h1 : a = 0
  · have e1 : orI a b = b := by unfold orI; rw [if_pos h1]
    rw [e1]
    subst h1
    clear e1
    by_cases h2 : b = 0
    · subst h2
      go_enter Tryd.func112, Tryd.ntmps112
      go_wp2
      refine wp_loop_rounds 3 ?_
      rw [rounds_succ]
      go_wp2
      rw [rounds_succ]
      go_wp2
      rw [rounds_succ]
      go_wp2
      go_ret
      exact ⟨rfl, rfl⟩
    · go_enter Tryd.func112, Tryd.ntmps112
      go_wp2
      refine wp_loop_rounds 3 ?_
      rw [rounds_succ]
      go_wp2
      rw [rounds_succ]
      go_wp2
      go_ret
      exact ⟨rfl, rfl⟩
  · have e1 : orI a b = a := by unfold orI; rw [if_neg h1]
    rw [e1]
    clear e1
    go_enter Tryd.func112, Tryd.ntmps112
    go_wp2
    refine wp_loop_rounds 3 ?_
    rw [rounds_succ]
    go_wp2
    go_ret
    exact ⟨rfl, rfl⟩
end Go.Proofs.YtbkggcfogmgmmaaDoor
