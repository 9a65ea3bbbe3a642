/-
  FixNearest: what its walks share.
-/
import Derived.Test.YtehkonddgiakaaaDoorQFnE
import Derived.Test.YtehkonddgiakaaaDoorQFxQ
namespace Go.Proofs.YtehkonddgiakaaaDoor
open Go.RowKit

theorem coded_i (g : Nat → Addr) (i : Nat) (hi : i < 8) (n : Int) (hn : n = (i : Int) + 1) (w : World) (hl : Laid w g) : Calls Tryd.prog 10 #[errV g i, .int .i64 n] w fun e w' => e = .returned (.bool true) ∧ Gr w w' := by
  refine (coded_sent g i hi n w hl).mono ?_
  rintro e w' ⟨rfl, hB⟩
  exact ⟨by rw [hn]; simp, hB⟩
theorem coded_0 (w : World) : Calls Tryd.prog 10 #[.nilIface, .int .i64 0] w fun e w' => e = .returned (.bool true) ∧ Gr w w' := by
  refine (coded_nil 0 w).mono ?_
  rintro e w' ⟨rfl, rfl⟩
  exact ⟨rfl, Gr.refl _⟩
theorem rerr_cases (g : Nat → Addr) (l : List Rg) : (rerr g l = .nilIface ∧ rcode l = 0 ∧ ∀ r ∈ l, okR r) ∨ ∃ i, i < 8 ∧ rerr g l = errV g i ∧ rcode l = i + 1 := by
  unfold rerr rcode
  split
  · exact .inr ⟨1, by decide, rfl, rfl⟩
  · split
    · rename_i h; exact .inl ⟨rfl, rfl, h⟩
    · exact .inr ⟨2, by decide, rfl, rfl⟩
theorem spot_same (x y : Int) (w : World) : (binOp .eql 45 (spV x y) (spV x y)).run Tryd.prog w = .ok (.bool true) w := by
  simp [go_sem]
/-- The law's own blocks: the box, the point, what Nearest told. -/
structure LwF (w W : World) (B : Nat) (a b c d x y p q : Int) : Prop where
  pr : PvP w W a b c d x y
  p0 : At W B [.int .i64 p, .int .i64 q]
  pw : w.heap.size + 1 < B
theorem LwF.below {w W w' : World} {B : Nat} {a b c d x y p q : Int} (h : LwF w W B a b c d x y p q) (hB : Below W.heap.size W w') : LwF w w' B a b c d x y p q := ⟨h.pr.below hB, h.p0.below hB, h.pw⟩
theorem LwF.drew {w W : World} {B : Nat} {a b c d x y p q : Int} (h : LwF w W B a b c d x y p q) : LwF w W.drew B a b c d x y p q := ⟨h.pr.drew, h.p0, h.pw⟩
theorem LwF.alloc {w W : World} {B : Nat} {a b c d x y p q : Int} (h : LwF w W B a b c d x y p q) (o : Obj) : LwF w (W.alloc o) B a b c d x y p q := ⟨h.pr.alloc o, h.p0.alloc o, h.pw⟩
theorem PvP.set {w W : World} {a b c d x y : Int} (h : PvP w W a b c d x y) {B : Nat} (hc : w.heap.size + 1 < B) (o : Nat) (v : Value) : PvP w (W.setCell ⟨B, o, none⟩ v) a b c d x y := ⟨h.a0.skip (by omega) _ _, h.a1.skip (by omega) _ _, h.gr.set (by omega) _ _⟩
theorem PvP.all {w W : World} {a b c d x y : Int} (h : PvP w W a b c d x y) : (W.cell? ⟨w.heap.size, 0, none⟩ = some (.int .i64 a) ∧ W.cell? ⟨w.heap.size, 1, none⟩ = some (.int .i64 b) ∧ W.cell? ⟨w.heap.size, 2, none⟩ = some (.int .i64 c) ∧ W.cell? ⟨w.heap.size, 3, none⟩ = some (.int .i64 d)) ∧ W.cell? ⟨w.heap.size + 1, 0, none⟩ = some (.int .i64 x) ∧ W.cell? ⟨w.heap.size + 1, 1, none⟩ = some (.int .i64 y) := ⟨h.a0.c4, h.a1.c2⟩
end Go.Proofs.YtehkonddgiakaaaDoor
