/-
  plain.Code at nil and at each of the eight sentinels, and the law's own 'coded'.
-/
import Derived.Test.YtnadgoomkaldkaaDoorQAs
import Derived.Outline
import Derived.Stop.IfaceNil
namespace Go.Proofs.YtnadgoomkaldkaaDoor
open Go.RowKit Go.Extern.Stop Go.Stop Go.Extern

/-- The numbers of the eight variables. -/
def gv (i : Nat) : Nat := [3, 0, 1, 4, 5, 6, 2, 7].getD i 0
/-- What the listed variables hold: eight different pointers to strings of errors.New's make, and the handle of the type error. -/
structure Laid (w : World) (a : Nat → Addr) : Prop where
  cell : ∀ i, i < 8 → w.cell? ⟨gv i, 0, none⟩ = some (.iface 137 (.pointer (some (a i))))
  et : w.cell? ⟨8, 0, none⟩ = some (.iface 121 (.agg #[.pointer (some ⟨9, 28, none⟩)]))
  ne : ∀ i j, i < 8 → j < 8 → i ≠ j → a i ≠ a j
  row : ∀ i, i < 8 → ∃ c t, w.heap[(a i).block]? = some (.cells c t (0, 0))

abbrev errV (a : Nat → Addr) (i : Nat) : Value := .iface 137 (.pointer (some (a i)))
theorem lt_of_cell {w : World} {p : Addr} {v : Value} (h : w.cell? p = some v) : p.block < w.heap.size := by
  rcases Nat.lt_or_ge p.block w.heap.size with h' | h'
  · exact h'
  · simp [World.cell?, Array.getElem?_eq_none h'] at h

theorem Laid.below {w w' : World} {a : Nat → Addr} (h : Laid w a) (hb : Below w.heap.size w w') : Laid w' a where
  cell i hi := by rw [hb.cell (p := ⟨gv i, 0, none⟩) (lt_of_cell (h.cell i hi))]; exact h.cell i hi
  et := by rw [hb.cell (p := ⟨8, 0, none⟩) (lt_of_cell h.et)]; exact h.et
  ne := h.ne
  row i hi := by
    obtain ⟨c, t, hr⟩ := h.row i hi
    refine ⟨c, t, ?_⟩
    rw [hb.block _ ?_]; exact hr
    rcases Nat.lt_or_ge (a i).block w.heap.size with h' | h'
    · exact h'
    · rw [Array.getElem?_eq_none h'] at hr; cases hr

theorem Laid.alloc {w : World} {a : Nat → Addr} (h : Laid w a) (o : Obj) : Laid (w.alloc o) a := h.below ((Below.refl _ _).alloc (Nat.le_refl _) o)

/-- plain.Code(nil). -/
theorem code_nil (w : World) : Calls Tryd.prog 23 #[.nilIface] w fun e w' => e = .returned (.tuple #[.int .i64 0, .int .i64 (-1)]) ∧ w' = w := by
  go_enter Tryd.func23, Tryd.ntmps23
  go_wp2
  go_ret2
  exact ⟨rfl, rfl⟩

def sent (a : Nat → Addr) (k : Nat) : Value := .iface 137 (.pointer (some (a k)))
def eight (a : Nat → Addr) : Array Value := #[sent a 0, sent a 1, sent a 2, sent a 3, sent a 4, sent a 5, sent a 6, sent a 7]

theorem eight_at (a : Nat → Addr) (w : World) (t : TypeId) (k : Nat) (hk : k < 8) : (w.alloc (.cells (eight a) t)).cell? ⟨w.heap.size, k, none⟩ = some (sent a k) := by
  rw [World.cell?_alloc_at _ _ _ _ rfl]
  match k, hk with
  | 0, _ | 1, _ | 2, _ | 3, _ | 4, _ | 5, _ | 6, _ | 7, _ => rfl

set_option maxHeartbeats 1000000 in
/-- plain.Code of the i-th sentinel: i + 1, and no place. -/
theorem code_sent (a : Nat → Addr) (i : Nat) (hi : i < 8) (w : World) (hl : Laid w a) :
    Calls Tryd.prog 23 #[.iface 137 (.pointer (some (a i)))] w fun e w' => e = .returned (.tuple #[.int .i64 ((i : Int) + 1), .int .i64 (-1)]) ∧ Below w.heap.size w w' := by
  have hn := fun w => run_eql_iface_nil (P := Tryd.prog) w 28 (by kernel_rfl) 137 (.pointer (some (a i)))
  have hE := (hl.alloc (.cells #[.pointer none] 76)).et
  go_enter Tryd.func23, Tryd.ntmps23
  go_wp2_with fail
  refine (as_miss _ _ _ hE).mono ?_
  rintro e w1 ⟨rfl, hb⟩
  have hl1 := (hl.alloc (.cells #[.pointer none] 76)).below hb
  have hb0 : Below w.heap.size w w1 := ((Below.refl _ _).alloc (Nat.le_refl _) _).trans (hb.mono (by simp))
  clear hb hE
  have c0 : w1.cell? ⟨3, 0, none⟩ = some (.iface 137 (.pointer (some (a 0)))) := hl1.cell 0 (by decide)
  have c1 : w1.cell? ⟨0, 0, none⟩ = some (.iface 137 (.pointer (some (a 1)))) := hl1.cell 1 (by decide)
  have c2 : w1.cell? ⟨1, 0, none⟩ = some (.iface 137 (.pointer (some (a 2)))) := hl1.cell 2 (by decide)
  have c3 : w1.cell? ⟨4, 0, none⟩ = some (.iface 137 (.pointer (some (a 3)))) := hl1.cell 3 (by decide)
  have c4 : w1.cell? ⟨5, 0, none⟩ = some (.iface 137 (.pointer (some (a 4)))) := hl1.cell 4 (by decide)
  have c5 : w1.cell? ⟨6, 0, none⟩ = some (.iface 137 (.pointer (some (a 5)))) := hl1.cell 5 (by decide)
  have c6 : w1.cell? ⟨2, 0, none⟩ = some (.iface 137 (.pointer (some (a 6)))) := hl1.cell 6 (by decide)
  have c7 : w1.cell? ⟨7, 0, none⟩ = some (.iface 137 (.pointer (some (a 7)))) := hl1.cell 7 (by decide)
  go_wp2_with fail
  have h8 := fun k hk => eight_at a w1 28 k hk
  simp only [eight, sent] at h8
  clear c0 c1 c2 c3 c4 c5 c6 c7
  go_loop [3, 26] (fun u t => ∃ k : Nat, k ≤ i ∧ t = .int .i64 k ∧ u = .int .i64 (-1)) (fun _ t => i + 1 - (intOf t).toNat)
  case atStart => exact ⟨0, Nat.zero_le _, rfl, rfl⟩
  case round =>
    obtain ⟨k, hk, rfl, rfl⟩ := hrel
    have hck := h8 k (by omega)
    have hl2 := hl1.alloc (.cells (eight a) 28)
    simp only [eight, sent] at hl2
    by_cases hlt : k < i
    · have hne := hl1.ne i k hi (by omega) (by omega)
      obtain ⟨ci, ti, hri⟩ := hl2.row i hi
      obtain ⟨ck, tk, hrk⟩ := hl2.row k (by omega)
      clear h8 hl1 hl2 hl hn
      go_wp2_with (go_at_call 41; refine (is_other (a i) (a k) ci ck ti tk _ hne hri hrk).mono ?_; rintro e w' ⟨rfl, rfl⟩)
      go_round
      case rel => exact ⟨k + 1, by omega, by go_num, rfl⟩
      case measure => simp [intOf]; omega
    · obtain rfl : k = i := by omega
      clear h8 hl1 hl2 hl hn
      go_wp2_with (go_at_call 41; refine (is_same (a k) _).mono ?_; rintro e w' ⟨rfl, rfl⟩)
      go_ret2
      exact ⟨rfl, hb0.trans ((Below.refl _ _).alloc hb0.size _)⟩

/-- coded(nil, 0). -/
theorem coded_nil (n : Int) (w : World) : Calls Tryd.prog 9 #[.nilIface, .int .i64 n] w fun e w' => e = .returned (.bool (0 == n)) ∧ w' = w := by
  go_enter Tryd.func9, Tryd.ntmps9
  go_wp2_with (go_at_call 23; refine (code_nil _).mono ?_; rintro e w' ⟨rfl, rfl⟩)
  go_ret
  exact ⟨rfl, rfl⟩

/-- coded(the i-th sentinel, n). -/
theorem coded_sent (a : Nat → Addr) (i : Nat) (hi : i < 8) (n : Int) (w : World) (hl : Laid w a) :
    Calls Tryd.prog 9 #[.iface 137 (.pointer (some (a i))), .int .i64 n] w fun e w' => e = .returned (.bool ((i : Int) + 1 == n)) ∧ Below w.heap.size w w' := by
  go_enter Tryd.func9, Tryd.ntmps9
  go_wp2_with (go_at_call 23; refine (code_sent a i hi _ hl).mono ?_; rintro e w' ⟨rfl, hb⟩)
  go_ret
  exact ⟨rfl, hb⟩
end Go.Proofs.YtnadgoomkaldkaaDoor
