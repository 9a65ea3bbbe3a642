/-
  plain.Code of a *api.Fault; the law's own 'faulted'.
-/
import Derived.Test.YtfahmaapodoaaaaGreatDoorQGfE
namespace Go.Proofs.YtfahmaapodoaaaaGreatDoor
open Go.RowKit Go.Extern.Stop Go.Stop Go.Extern

abbrev ftV (B : Nat) : Value := .iface 54 (.pointer (some ⟨B, 0, none⟩))
set_option maxHeartbeats 1000000 in
/-- plain.Code of a *api.Fault that holds the i-th sentinel: i + 1, and its place. -/
theorem code_fault (a : Nat → Addr) (i : Nat) (hi : i < 8) (B : Nat) (p : Int) (w : World) (hl : Laid w a) (hB : At w B [.int .i64 p, errV a i]) :
    Calls Tryz.prog 19 #[ftV B] w fun e w' => e = .returned (.tuple #[.int .i64 ((i : Int) + 1), .int .i64 p]) ∧ Gr w w' := by
  have hn := fun w => run_eql_iface_nil (P := Tryz.prog) w 26 (by kernel_rfl) 54 (.pointer (some ⟨B, 0, none⟩))
  have hE := (hl.alloc (.cells #[.pointer none] 54)).et
  have fA := At.new1 w (.pointer none) 54
  have HC := (Gr.refl w).alloc (.cells #[.pointer none] 54)
  go_enter Tryz.func19, Tryz.ntmps19
  go_wp2_with fail
  refine (as_hit _ _ _ _ hE fA.c1 fA.f1).mono ?_
  rintro e w0 ⟨rfl, W, g1, hw0⟩
  replace HC : Gr w w0 := by rw [hw0]; exact (HC.step g1).set (Nat.le_refl _) _ _
  have fP : At w0 w.heap.size [.pointer (some ⟨B, 0, none⟩)] := by rw [hw0]; exact At.fill1 ((At.below g1 fA).has rfl) _
  clear hw0 g1 fA hE
  have hl1 := hl.below HC
  have hB1 := At.below HC hB
  clear hB
  obtain ⟨b0, b1⟩ := hB1.c2
  have f0 := fP.c1
  have c0 : w0.cell? ⟨1, 0, none⟩ = some (.iface 141 (.pointer (some (a 0)))) := hl1.cell 0 (by decide)
  have c1 : w0.cell? ⟨3, 0, none⟩ = some (.iface 141 (.pointer (some (a 1)))) := hl1.cell 1 (by decide)
  have c2 : w0.cell? ⟨2, 0, none⟩ = some (.iface 141 (.pointer (some (a 2)))) := hl1.cell 2 (by decide)
  have c3 : w0.cell? ⟨0, 0, none⟩ = some (.iface 141 (.pointer (some (a 3)))) := hl1.cell 3 (by decide)
  have c4 : w0.cell? ⟨4, 0, none⟩ = some (.iface 141 (.pointer (some (a 4)))) := hl1.cell 4 (by decide)
  have c5 : w0.cell? ⟨5, 0, none⟩ = some (.iface 141 (.pointer (some (a 5)))) := hl1.cell 5 (by decide)
  have c6 : w0.cell? ⟨6, 0, none⟩ = some (.iface 141 (.pointer (some (a 6)))) := hl1.cell 6 (by decide)
  have c7 : w0.cell? ⟨7, 0, none⟩ = some (.iface 141 (.pointer (some (a 7)))) := hl1.cell 7 (by decide)
  go_wp2_with fail
  have h8 := fun k hk => eight_at a w0 26 k hk
  simp only [eight, sent] at h8
  clear c0 c1 c2 c3 c4 c5 c6 c7 f0 b0 b1 fP
  go_loop [3, 26] (fun u t => ∃ k : Nat, k ≤ i ∧ t = .int .i64 k ∧ u = .int .i64 p) (fun _ t => i + 1 - (intOf t).toNat)
  case atStart => exact ⟨0, Nat.zero_le _, rfl, rfl⟩
  case round =>
    obtain ⟨k, hk, rfl, rfl⟩ := hrel
    have hck := h8 k (by omega)
    have hl2 := hl1.alloc (.cells (eight a) 26)
    have hB2 := hB1.alloc (.cells (eight a) 26)
    simp only [eight, sent] at hl2 hB2
    by_cases hlt : k < i
    · have hne := hl1.ne i k hi (by omega) (by omega)
      obtain ⟨ci, ti, hri⟩ := hl2.row i hi
      obtain ⟨ck, tk, hrk⟩ := hl2.row k (by omega)
      clear h8 hl1 hl2 hl hn hB1
      go_wp2_with (go_at_call 32; refine (isF_other B _ (a i) (a k) ci ck ti tk _ hB2 hne hri hrk).mono ?_; rintro e w' ⟨rfl, rfl⟩)
      go_round
      case rel => exact ⟨k + 1, by omega, by go_num, rfl⟩
      case measure => simp [intOf]; omega
    · obtain rfl : k = i := by omega
      clear h8 hl1 hl2 hl hn hB1
      go_wp2_with (go_at_call 32; refine (isF_same B _ (a k) _ hB2).mono ?_; rintro e w' ⟨rfl, rfl⟩)
      go_ret2
      exact ⟨rfl, HC.alloc _⟩
abbrev faV (c p : Int) : Value := .agg #[.int .i64 c, .int .i64 p]
theorem faulted_hit (a : Nat → Addr) (i : Nat) (hi : i < 8) (B : Nat) (p : Int) (w : World) (hl : Laid w a) (hB : At w B [.int .i64 p, errV a i]) :
    Calls Tryz.prog 15 #[ftV B, faV ((i : Int) + 1) p] w fun e w' => e = .returned (.bool true) ∧ Gr w w' := by
  have e1 : ¬ (i : Int) + 1 = 0 := by omega
  have FA := At.new2 w (.int .i64 ((i : Int) + 1)) (.int .i64 p) 41
  have H := hidb (fun W hl hB => code_fault a i hi B p W hl hB)
  have hl1 := hl.alloc (.cells #[.int .i64 ((i : Int) + 1), .int .i64 p] 41)
  have hB1 := hB.alloc (.cells #[.int .i64 ((i : Int) + 1), .int .i64 p] 41)
  clear hl hB
  go_enter Tryz.func15, Tryz.ntmps15
  go_wp2_with fail
  have HC : Gr w (w.alloc (.cells #[.int .i64 ((i : Int) + 1), .int .i64 p] 41)) := (Gr.refl w).alloc _
  generalize w.alloc (.cells #[.int .i64 ((i : Int) + 1), .int .i64 p] 41) = w1 at *
  refine (H.out _ hl1 hB1).mono ?_
  rintro e w2 ⟨rfl, g2⟩
  replace FA := At.below g2 FA
  replace HC := HC.step g2
  obtain ⟨c0, c1⟩ := FA.c2
  clear hl1 hB1 FA g2
  go_wp2_with fail
  go_ret
  exact ⟨by simp, HC⟩
theorem faulted_nil (p : Int) (w : World) :
    Calls Tryz.prog 15 #[.nilIface, faV 0 p] w fun e w' => e = .returned (.bool true) ∧ Gr w w' := by
  have H := hidb code_nil
  go_enter Tryz.func15, Tryz.ntmps15
  go_wp2_with fail
  refine (H.out _).mono ?_
  rintro e w2 ⟨rfl, rfl⟩
  go_wp2_with fail
  go_ret
  exact ⟨rfl, (Gr.refl w).alloc _⟩
end Go.Proofs.YtfahmaapodoaaaaGreatDoor
