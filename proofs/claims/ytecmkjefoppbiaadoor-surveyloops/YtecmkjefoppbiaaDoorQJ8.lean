/-
  errors.Is and errors.As at the program's own sentinels, by contracts: Go's own text of both is walked.; errors.As at the target **api.Fault, by its contract where the error is one of errors.New's make: false, nothing old turns.; plain.Code at nil and at each of the eight sentinels, and the law's own 'coded'.
-/
import Derived.Test.YtecmkjefoppbiaaDoorProg
import Derived.WalkKit
import Derived.LaidEql
import Derived.Stop.Asserts
import Derived.RowKitTokens
import Derived.Outline
import Derived.Stop.IfaceNil
namespace Go.Proofs.YtecmkjefoppbiaaDoor
open Go.RowKit Go.Extern.Stop Go.Stop Go.Extern

theorem Tryd.isTypeOf (v : Value) (w : World) : (Extern.ReflectliteType.typeOf #[.iface 136 v]).run Tryd.prog w = .ok (.iface 114 (.agg #[.pointer (some ⟨11, 136, none⟩)])) w := by kernel_rfl
/-- The model's entry for (rtype).Comparable, under a name. -/
def cmpEntry : Array Value → Sem Value := Extern.ReflectliteType.method fun t => do Rtype.noPackHeld "Comparable" t; pure (.bool (← typeInfo t).comparable)
theorem Tryd.isComparable (w : World) : (cmpEntry #[.agg #[.pointer (some ⟨11, 136, none⟩)]]).run Tryd.prog w = .ok (.bool true) w := by kernel_rfl
theorem Tryd.isMethodComparable (v : Value) (w : World) : (Go.method 270 114 v "Comparable").run Tryd.prog w = .ok (93, v) w := by kernel_rfl
theorem Tryd.isComp : (Tryd.prog.info? 136).map (·.comparable) = some true := by kernel_rfl
theorem Tryd.isSize : (Tryd.prog.info? 158).map (·.size) = some 1 := by kernel_rfl
theorem Tryd.noIsE (v : Value) (xT : TypeId) (w : World) : (Instr.typeAssert (.iface 136 v) xT 124 true).run Tryd.prog w = .ok (.tuple #[.nilIface, .bool false]) w := run_typeAssert_lacksB Tryd.underlying124 (by kernel_rfl) (by kernel_rfl) v xT w
theorem Tryd.noUnwrapE (v : Value) (xT : TypeId) (w : World) : (Instr.typeAssert (.iface 136 v) xT 121 true).run Tryd.prog w = .ok (.tuple #[.nilIface, .bool false]) w := run_typeAssert_lacksB Tryd.underlying121 (by kernel_rfl) (by kernel_rfl) v xT w
theorem Tryd.noUnwrapsE (v : Value) (xT : TypeId) (w : World) : (Instr.typeAssert (.iface 136 v) xT 122 true).run Tryd.prog w = .ok (.tuple #[.nilIface, .bool false]) w := run_typeAssert_lacksB Tryd.underlying122 (by kernel_rfl) (by kernel_rfl) v xT w

/-- errors.Is(x, x), x a pointer to an errors.errorString. -/
theorem is_same (a : Addr) (w : World) :
    Calls Tryd.prog 28 #[.iface 136 (.pointer (some a)), .iface 136 (.pointer (some a))] w fun e w' => e = .returned (.bool true) ∧ w' = w := by
  obtain ⟨i, hi, hcmp⟩ := Option.map_eq_some_iff.1 Tryd.isComp
  obtain ⟨j, hj, hjs⟩ := Option.map_eq_some_iff.1 Tryd.isSize
  have h8 := @run_callFunc_extern Tryd.prog 41 _ Extern.ReflectliteType.typeOf Tryd.func41 (by kernel_rfl) (by kernel_rfl) (by kernel_rfl) (by kernel_rfl)
  have h32 := @run_callFunc_extern Tryd.prog 93 _ cmpEntry Tryd.func93 (by kernel_rfl) (by kernel_rfl) (by kernel_rfl) (by kernel_rfl)
  have tT := Tryd.isTypeOf
  have cT := Tryd.isComparable
  have mR := Tryd.isMethodComparable
  have heq := run_eql_iface_ptr_same (P := Tryd.prog) w a Tryd.underlying30 Tryd.underlying136 hi hcmp hj
  go_enter Tryd.func28, Tryd.ntmps28
  go_wp2
  refine wp_loop_rounds 1 ?_
  rw [rounds_succ]
  go_wp2
  go_ret
  exact ⟨rfl, rfl⟩

/-- errors.Is(x, y), two different pointers to errors.errorString: false. -/
theorem is_other (a b : Addr) (ca cb : Array Value) (ta tb : TypeId) (w : World) (hne : a ≠ b) (ha : w.heap[a.block]? = some (.cells ca ta (0, 0))) (hb : w.heap[b.block]? = some (.cells cb tb (0, 0))) :
    Calls Tryd.prog 28 #[.iface 136 (.pointer (some a)), .iface 136 (.pointer (some b))] w fun e w' => e = .returned (.bool false) ∧ w' = w := by
  obtain ⟨i, hi, hcmp⟩ := Option.map_eq_some_iff.1 Tryd.isComp
  obtain ⟨j, hj, hjs⟩ := Option.map_eq_some_iff.1 Tryd.isSize
  have h8 := @run_callFunc_extern Tryd.prog 41 _ Extern.ReflectliteType.typeOf Tryd.func41 (by kernel_rfl) (by kernel_rfl) (by kernel_rfl) (by kernel_rfl)
  have h32 := @run_callFunc_extern Tryd.prog 93 _ cmpEntry Tryd.func93 (by kernel_rfl) (by kernel_rfl) (by kernel_rfl) (by kernel_rfl)
  have tT := Tryd.isTypeOf
  have cT := Tryd.isComparable
  have mR := Tryd.isMethodComparable
  have nE := Tryd.noIsE
  have uE := Tryd.noUnwrapE
  have vE := Tryd.noUnwrapsE
  have heq := run_eql_iface_ptr_other (P := Tryd.prog) w Tryd.underlying30 Tryd.underlying136 hi hcmp hj (by rw [hjs]; decide) hne ha hb
  go_enter Tryd.func28, Tryd.ntmps28
  go_wp2
  refine wp_loop_rounds 1 ?_
  rw [rounds_succ]
  go_wp2
  go_ret
  exact ⟨rfl, rfl⟩
end Go.Proofs.YtecmkjefoppbiaaDoor
namespace Go.Proofs.YtecmkjefoppbiaaDoor
open Go.RowKit Go.Extern.Stop Go.Stop Go.Extern

def kindEntry : Array Value → Sem Value := ReflectliteType.abiMethod fun t => do pure (.int .u8 (← Rtype.kind t))
def unpackEntry : Array Value → Sem Value := fun args => ReflectliteValue.unpack (args.getD 0 (.tuple #[]))
def typeEntry : Array Value → Sem Value := ReflectliteValue.methodAny (ReflectliteValue.valueError "reflectlite.Value.Type" 0) (fun t _ _ _ => ReflectliteType.toType t)
def nilEntry : Array Value → Sem Value := ReflectliteValue.method (ReflectliteValue.valueError "reflectlite.Value.IsNil" 0) ReflectliteValue.isNil
def elemEntry : Array Value → Sem Value := ReflectliteType.method ReflectliteType.elem
def implEntry : Array Value → Sem Value := ReflectliteType.relation "Implements" ReflectliteType.implements_
def assnEntry : Array Value → Sem Value := ReflectliteType.relation "AssignableTo" ReflectliteType.assignableTo

theorem Tryd.asUnpack (t : Addr) (w : World) : (unpackEntry #[.iface 77 (.pointer (some t))]).run Tryd.prog w
    = .ok (.agg #[.pointer (some ⟨11, 77, none⟩), .pointer (some ⟨w.heap.size, 0, none⟩), .int .u64 150]) (w.alloc (.cells #[.pointer (some t)] 77)) := by kernel_rfl
theorem Tryd.asType (a : Addr) (w : World) : (typeEntry #[.agg #[.pointer (some ⟨11, 77, none⟩), .pointer (some a), .int .u64 150]]).run Tryd.prog w
    = .ok (.iface 114 (.agg #[.pointer (some ⟨11, 77, none⟩)])) w := by kernel_rfl
theorem Tryd.asMethodKind (h : Value) (w : World) : (Go.method 270 114 (.agg #[h]) "Kind").run Tryd.prog w = .ok (82, h) w := by kernel_rfl
theorem Tryd.asKindPP (w : World) : (kindEntry #[.pointer (some ⟨11, 77, none⟩)]).run Tryd.prog w = .ok (.int .u8 22) w := by kernel_rfl
theorem Tryd.asKindP (w : World) : (kindEntry #[.pointer (some ⟨11, 75, none⟩)]).run Tryd.prog w = .ok (.int .u8 22) w := by kernel_rfl
theorem rlm (z : Sem Value) (f : TypeId → Addr → Nat → Nat → Sem Value) (v : Value) :
    ReflectliteValue.method z f #[v] = (do match ← ReflectliteValue.parts v with | none => z | some (t, a, fl) => f t a fl (fl % 32)) := rfl
theorem Tryd.asParts (a : Addr) (w : World) : (ReflectliteValue.parts (.agg #[.pointer (some ⟨11, 77, none⟩), .pointer (some a), .int .u64 150])).run Tryd.prog w = .ok (some (77, a, 150)) w := by kernel_rfl
/-- (Value).IsNil at the Value of a **api.Fault that is not nil. -/
theorem Tryd.asIsNil (a p : Addr) (W : World) (ha : W.cell? a = some (.pointer (some p))) :
    (nilEntry #[.agg #[.pointer (some ⟨11, 77, none⟩), .pointer (some a), .int .u64 150]]).run Tryd.prog W = .ok (.bool false) W := by
  unfold nilEntry
  rw [rlm]
  simp only [Sem.run_bind, Tryd.asParts, Result.andThen]
  simp [ReflectliteValue.isNil, loadVar, isAgg, underlying, Tryd.underlying77, ha, Result.andThen]
theorem Tryd.asMethodElem (h : Value) (w : World) : (Go.method 270 114 (.agg #[h]) "Elem").run Tryd.prog w = .ok (94, .agg #[h]) w := by kernel_rfl
theorem Tryd.asMethodImplements (h : Value) (w : World) : (Go.method 270 114 (.agg #[h]) "Implements").run Tryd.prog w = .ok (95, .agg #[h]) w := by kernel_rfl
theorem Tryd.asMethodAssignableTo (h : Value) (w : World) : (Go.method 270 114 (.agg #[h]) "AssignableTo").run Tryd.prog w = .ok (92, .agg #[h]) w := by kernel_rfl
theorem Tryd.asElem (w : World) : (elemEntry #[.agg #[.pointer (some ⟨11, 77, none⟩)]]).run Tryd.prog w = .ok (.iface 114 (.agg #[.pointer (some ⟨11, 75, none⟩)])) w := by kernel_rfl
theorem Tryd.asImplements (w : World) : (implEntry #[.agg #[.pointer (some ⟨11, 75, none⟩)], .iface 114 (.agg #[.pointer (some ⟨11, 30, none⟩)])]).run Tryd.prog w = .ok (.bool true) w := by kernel_rfl
theorem Tryd.asNotAssignable (w : World) : (assnEntry #[.agg #[.pointer (some ⟨11, 136, none⟩)], .iface 114 (.agg #[.pointer (some ⟨11, 75, none⟩)])]).run Tryd.prog w = .ok (.bool false) w := by kernel_rfl
theorem Tryd.noAsE (v : Value) (xT : TypeId) (w : World) : (Instr.typeAssert (.iface 136 v) xT 118 true).run Tryd.prog w = .ok (.tuple #[.nilIface, .bool false]) w := run_typeAssert_lacksB Tryd.underlying118 (by kernel_rfl) (by kernel_rfl) v xT w

/-- errors.As(nil, target). -/
theorem as_nil (t : Value) (w : World) :
    Calls Tryd.prog 27 #[.nilIface, t] w fun e w' => e = .returned (.bool false) ∧ w' = w := by
  go_enter Tryd.func27, Tryd.ntmps27
  go_wp2
  go_ret
  exact ⟨rfl, rfl⟩

set_option maxHeartbeats 4000000 in
/-- errors.As(x, &f), x a pointer to an errors.errorString, f a *api.Fault: false; three new blocks. -/
theorem as_miss (e t : Addr) (w : World) (hg : w.cell? ⟨8, 0, none⟩ = some (.iface 114 (.agg #[.pointer (some ⟨11, 30, none⟩)]))) :
    Calls Tryd.prog 27 #[.iface 136 (.pointer (some e)), .iface 77 (.pointer (some t))] w fun ev w' => ev = .returned (.bool false) ∧ Below w.heap.size w w' := by
  have hU := @run_callFunc_extern Tryd.prog 37 _ unpackEntry Tryd.func37 (by kernel_rfl) (by kernel_rfl) (by kernel_rfl) (by kernel_rfl)
  have hT := @run_callFunc_extern Tryd.prog 38 _ typeEntry Tryd.func38 (by kernel_rfl) (by kernel_rfl) (by kernel_rfl) (by kernel_rfl)
  have hN := @run_callFunc_extern Tryd.prog 39 _ nilEntry Tryd.func39 (by kernel_rfl) (by kernel_rfl) (by kernel_rfl) (by kernel_rfl)
  have hK := @run_callFunc_extern Tryd.prog 82 _ kindEntry Tryd.func82 (by kernel_rfl) (by kernel_rfl) (by kernel_rfl) (by kernel_rfl)
  have hE := @run_callFunc_extern Tryd.prog 94 _ elemEntry Tryd.func94 (by kernel_rfl) (by kernel_rfl) (by kernel_rfl) (by kernel_rfl)
  have hI := @run_callFunc_extern Tryd.prog 95 _ implEntry Tryd.func95 (by kernel_rfl) (by kernel_rfl) (by kernel_rfl) (by kernel_rfl)
  have hO := @run_callFunc_extern Tryd.prog 41 _ ReflectliteType.typeOf Tryd.func41 (by kernel_rfl) (by kernel_rfl) (by kernel_rfl) (by kernel_rfl)
  have hA := @run_callFunc_extern Tryd.prog 92 _ assnEntry Tryd.func92 (by kernel_rfl) (by kernel_rfl) (by kernel_rfl) (by kernel_rfl)
  have tO := Tryd.isTypeOf
  have mA := Tryd.asMethodAssignableTo
  have nA := Tryd.asNotAssignable
  have f6 := Tryd.asUnpack
  have f7 := Tryd.asType
  have mK := Tryd.asMethodKind
  have mE := Tryd.asMethodElem
  have mI := Tryd.asMethodImplements
  have k27 := Tryd.asKindPP
  have k25 := Tryd.asKindP
  have e27 := Tryd.asElem
  have i25 := Tryd.asImplements
  have nE := Tryd.noAsE
  have uE := Tryd.noUnwrapE
  have vE := Tryd.noUnwrapsE
  have n8 := Tryd.asIsNil ⟨w.heap.size, 0, none⟩ t ((w.alloc (.cells #[.pointer (some t)] 77)).alloc (.cells #[.pointer (some ⟨11, 77, none⟩), .pointer (some ⟨w.heap.size, 0, none⟩), .int .u64 150] 93)) (by simp)
  have hlt : 8 < w.heap.size := by
    rcases Nat.lt_or_ge 8 w.heap.size with h | h
    · exact h
    · simp [World.cell?, Array.getElem?_eq_none h] at hg
  have hg2 : ((w.alloc (.cells #[.pointer (some t)] 77)).alloc (.cells #[.pointer (some ⟨11, 77, none⟩), .pointer (some ⟨w.heap.size, 0, none⟩), .int .u64 150] 93)).cell? ⟨8, 0, none⟩ = some (.iface 114 (.agg #[.pointer (some ⟨11, 30, none⟩)])) := by
    rw [World.cell?_alloc_lt _ _ ⟨8, 0, none⟩ (by simp; omega), World.cell?_alloc_lt _ _ ⟨8, 0, none⟩ hlt]; exact hg
  go_enter Tryd.func27, Tryd.ntmps27
  go_wp2
  refine wp_loop_rounds 1 ?_
  rw [rounds_succ]
  go_wp2
  go_ret
  exact ⟨rfl, (((Below.refl _ _).alloc (Nat.le_refl _) _).alloc (by simp) _).alloc (by simp; omega) _⟩
end Go.Proofs.YtecmkjefoppbiaaDoor
namespace Go.Proofs.YtecmkjefoppbiaaDoor
open Go.RowKit Go.Extern.Stop Go.Stop Go.Extern

/-- The numbers of the eight variables. -/
def gv (i : Nat) : Nat := [3, 0, 1, 4, 5, 2, 6, 7].getD i 0
/-- What the listed variables hold: eight different pointers to strings of errors.New's make, and the handle of the type error. -/
structure Laid (w : World) (a : Nat → Addr) : Prop where
  cell : ∀ i, i < 8 → w.cell? ⟨gv i, 0, none⟩ = some (.iface 136 (.pointer (some (a i))))
  et : w.cell? ⟨8, 0, none⟩ = some (.iface 114 (.agg #[.pointer (some ⟨11, 30, none⟩)]))
  ne : ∀ i j, i < 8 → j < 8 → i ≠ j → a i ≠ a j
  row : ∀ i, i < 8 → ∃ c t, w.heap[(a i).block]? = some (.cells c t (0, 0))

abbrev errV (a : Nat → Addr) (i : Nat) : Value := .iface 136 (.pointer (some (a i)))
theorem lt_of_cell {w : World} {p : Addr} {v : Value} (h : w.cell? p = some v) : p.block < w.heap.size := by
  rcases Nat.lt_or_ge p.block w.heap.size with h' | h'
  · exact h'
  · simp [World.cell?, Array.getElem?_eq_none h'] at h

theorem Laid.below {w w' : World} {a : Nat → Addr} (h : Laid w a) (hb : Below w.heap.size w w') : Laid w' a where
  cell i hi := by rw [hb.cell (p := ⟨gv i, 0, none⟩) (lt_of_cell (h.cell i hi))]; exact h.cell i hi
  et := by rw [hb.cell (p := ⟨8, 0, none⟩) (lt_of_cell h.et)]; exact h.et
  ne := h.ne
  row i hi := by
    obtain ⟨c, t, hr⟩ := h.row i hi
    refine ⟨c, t, ?_⟩
    rw [hb.block _ ?_]; exact hr
    rcases Nat.lt_or_ge (a i).block w.heap.size with h' | h'
    · exact h'
    · rw [Array.getElem?_eq_none h'] at hr; cases hr

theorem Laid.alloc {w : World} {a : Nat → Addr} (h : Laid w a) (o : Obj) : Laid (w.alloc o) a := h.below ((Below.refl _ _).alloc (Nat.le_refl _) o)

/-- plain.Code(nil). -/
theorem code_nil (w : World) : Calls Tryd.prog 19 #[.nilIface] w fun e w' => e = .returned (.tuple #[.int .i64 0, .int .i64 (-1)]) ∧ w' = w := by
  go_enter Tryd.func19, Tryd.ntmps19
  go_wp2
  go_ret2
  exact ⟨rfl, rfl⟩

def sent (a : Nat → Addr) (k : Nat) : Value := .iface 136 (.pointer (some (a k)))
def eight (a : Nat → Addr) : Array Value := #[sent a 0, sent a 1, sent a 2, sent a 3, sent a 4, sent a 5, sent a 6, sent a 7]

theorem eight_at (a : Nat → Addr) (w : World) (t : TypeId) (k : Nat) (hk : k < 8) : (w.alloc (.cells (eight a) t)).cell? ⟨w.heap.size, k, none⟩ = some (sent a k) := by
  rw [World.cell?_alloc_at _ _ _ _ rfl]
  match k, hk with
  | 0, _ | 1, _ | 2, _ | 3, _ | 4, _ | 5, _ | 6, _ | 7, _ => rfl

set_option maxHeartbeats 1000000 in
/-- plain.Code of the i-th sentinel: i + 1, and no place. -/
theorem code_sent (a : Nat → Addr) (i : Nat) (hi : i < 8) (w : World) (hl : Laid w a) :
    Calls Tryd.prog 19 #[.iface 136 (.pointer (some (a i)))] w fun e w' => e = .returned (.tuple #[.int .i64 ((i : Int) + 1), .int .i64 (-1)]) ∧ Below w.heap.size w w' := by
  have hn := fun w => run_eql_iface_nil (P := Tryd.prog) w 30 (by kernel_rfl) 136 (.pointer (some (a i)))
  have hE := (hl.alloc (.cells #[.pointer none] 75)).et
  go_enter Tryd.func19, Tryd.ntmps19
  go_wp2_with fail
  refine (as_miss _ _ _ hE).mono ?_
  rintro e w1 ⟨rfl, hb⟩
  have hl1 := (hl.alloc (.cells #[.pointer none] 75)).below hb
  have hb0 : Below w.heap.size w w1 := ((Below.refl _ _).alloc (Nat.le_refl _) _).trans (hb.mono (by simp))
  clear hb hE
  have c0 : w1.cell? ⟨3, 0, none⟩ = some (.iface 136 (.pointer (some (a 0)))) := hl1.cell 0 (by decide)
  have c1 : w1.cell? ⟨0, 0, none⟩ = some (.iface 136 (.pointer (some (a 1)))) := hl1.cell 1 (by decide)
  have c2 : w1.cell? ⟨1, 0, none⟩ = some (.iface 136 (.pointer (some (a 2)))) := hl1.cell 2 (by decide)
  have c3 : w1.cell? ⟨4, 0, none⟩ = some (.iface 136 (.pointer (some (a 3)))) := hl1.cell 3 (by decide)
  have c4 : w1.cell? ⟨5, 0, none⟩ = some (.iface 136 (.pointer (some (a 4)))) := hl1.cell 4 (by decide)
  have c5 : w1.cell? ⟨2, 0, none⟩ = some (.iface 136 (.pointer (some (a 5)))) := hl1.cell 5 (by decide)
  have c6 : w1.cell? ⟨6, 0, none⟩ = some (.iface 136 (.pointer (some (a 6)))) := hl1.cell 6 (by decide)
  have c7 : w1.cell? ⟨7, 0, none⟩ = some (.iface 136 (.pointer (some (a 7)))) := hl1.cell 7 (by decide)
  go_wp2_with fail
  have h8 := fun k hk => eight_at a w1 30 k hk
  simp only [eight, sent] at h8
  clear c0 c1 c2 c3 c4 c5 c6 c7
  go_loop [3, 26] (fun u t => ∃ k : Nat, k ≤ i ∧ t = .int .i64 k ∧ u = .int .i64 (-1)) (fun _ t => i + 1 - (intOf t).toNat)
  case atStart => exact ⟨0, Nat.zero_le _, rfl, rfl⟩
  case round =>
    obtain ⟨k, hk, rfl, rfl⟩ := hrel
    have hck := h8 k (by omega)
    have hl2 := hl1.alloc (.cells (eight a) 30)
    simp only [eight, sent] at hl2
    by_cases hlt : k < i
    · have hne := hl1.ne i k hi (by omega) (by omega)
      obtain ⟨ci, ti, hri⟩ := hl2.row i hi
      obtain ⟨ck, tk, hrk⟩ := hl2.row k (by omega)
      clear h8 hl1 hl2 hl hn
      go_wp2_with (go_at_call 28; refine (is_other (a i) (a k) ci ck ti tk _ hne hri hrk).mono ?_; rintro e w' ⟨rfl, rfl⟩)
      go_round
      case rel => exact ⟨k + 1, by omega, by go_num, rfl⟩
      case measure => simp [intOf]; omega
    · obtain rfl : k = i := by omega
      clear h8 hl1 hl2 hl hn
      go_wp2_with (go_at_call 28; refine (is_same (a k) _).mono ?_; rintro e w' ⟨rfl, rfl⟩)
      go_ret2
      exact ⟨rfl, hb0.trans ((Below.refl _ _).alloc hb0.size _)⟩

/-- coded(nil, 0). -/
theorem coded_nil (n : Int) (w : World) : Calls Tryd.prog 8 #[.nilIface, .int .i64 n] w fun e w' => e = .returned (.bool (0 == n)) ∧ w' = w := by
  go_enter Tryd.func8, Tryd.ntmps8
  go_wp2_with (go_at_call 19; refine (code_nil _).mono ?_; rintro e w' ⟨rfl, rfl⟩)
  go_ret
  exact ⟨rfl, rfl⟩

/-- coded(the i-th sentinel, n). -/
theorem coded_sent (a : Nat → Addr) (i : Nat) (hi : i < 8) (n : Int) (w : World) (hl : Laid w a) :
    Calls Tryd.prog 8 #[.iface 136 (.pointer (some (a i))), .int .i64 n] w fun e w' => e = .returned (.bool ((i : Int) + 1 == n)) ∧ Below w.heap.size w w' := by
  go_enter Tryd.func8, Tryd.ntmps8
  go_wp2_with (go_at_call 19; refine (code_sent a i hi _ hl).mono ?_; rintro e w' ⟨rfl, hb⟩)
  go_ret
  exact ⟨rfl, hb⟩
end Go.Proofs.YtecmkjefoppbiaaDoor
