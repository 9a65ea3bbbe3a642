/-
  make of a row of whole numbers, as an equation; new rows.; math/bits.Mul of small numbers.; slices.Repeat of one whole number.
-/
import Derived.Test.YtlhligeicnejbaaDoorQJ2
import Derived.Test.YtlhligeicnejbaaDoorQJ3
import Derived.Test.YtlhligeicnejbaaDoorQHd
import Derived.Test.YtlhligeicnejbaaDoorQJ1
import Derived.Lib.Mul64
import Derived.Laws.Bits64b
import Derived.Laws.CopyOwn
import Derived.Deep.RegionLaw
import Derived.Deep.DrawnRows
namespace Go.Proofs.YtlhligeicnejbaaDoor
open Go.RowKit

theorem made_run (K : Nat) (hK : K ≤ 20000) : ∃ CS : Array Value, CS.toList = ir (List.replicate K 0) ∧ ∀ w, (Instr.makeSlice 30 (.int .i64 (K : Int)) (.int .i64 (K : Int))).run Tryd.prog w = .ok (.slice (some ⟨w.heap.size, 0, none⟩) K K) (w.alloc (.cells CS 3)) := by
  obtain ⟨i0, hi, hz0, hz1, hz2⟩ := info_parts infoJ
  refine ⟨madeCells #[Value.int .i64 0] K, made_ir K, fun w => ?_⟩
  have := run_makeSlice (P := Tryd.prog) w 30 3 i0 (.int .i64 0) undI hi hz0 .i64 .i64 (K : Int) (K : Int) (by omega) (Int.le_refl _) (by rw [hz1]; omega) (by rw [hz2]; omega) (by omega)
  rw [hz1, Int.toNat_natCast, Nat.mul_one] at this
  exact this
theorem At.nxArr (W : World) (o : Obj) (cs : Array Value) (t : Nat) : At ((W.alloc o).alloc (.cells cs t)) (W.heap.size + 1) cs.toList := by
  have := At.newRow (W.alloc o) cs.toList t
  simpa using this
theorem At.newArr (W : World) (cs : Array Value) (t : Nat) : At (W.alloc (.cells cs t)) W.heap.size cs.toList := by
  have := At.newRow W cs.toList t
  simpa using this
end Go.Proofs.YtlhligeicnejbaaDoor
namespace Go.Proofs.YtlhligeicnejbaaDoor
open Go.RowKit

namespace M65
theorem maskN (a : Nat) (ha : a < 18446744073709551616) : bits .and .u64 (a : Int) 4294967295 = ((a % 4294967296 : Nat) : Int) := by
  have h := bits_and_u64_nat a 4294967295 ha (by omega)
  have e : a &&& 4294967295 = a % 4294967296 := Nat.and_two_pow_sub_one_eq_mod a 32
  rw [e] at h
  exact h
theorem divN (a : Nat) : (a : Int) / 4294967296 = ((a / 4294967296 : Nat) : Int) := by omega
theorem mulN (a b : Nat) : (a : Int) * (b : Int) = ((a * b : Nat) : Int) := (Int.natCast_mul a b).symm
theorem addN (a b : Nat) : (a : Int) + (b : Int) = ((a + b : Nat) : Int) := (Int.natCast_add a b).symm
theorem wrapN (a : Nat) (ha : a < 18446744073709551616) : IntKind.u64.wrap (a : Int) = (a : Int) := by rw [IntKind.wrap_u64]; omega
theorem wrapM (a : Nat) : IntKind.u64.wrap (a : Int) = ((a % 18446744073709551616 : Nat) : Int) := by rw [IntKind.wrap_u64]; omega
end M65
set_option maxHeartbeats 1000000 in
theorem mul64n (x y : Nat) (hx : x < 18446744073709551616) (hy : y < 18446744073709551616) (w : World) : Calls Tryd.prog 54 #[.int .u64 x, .int .u64 y] w fun e w' => e = .returned (.tuple #[.int .u64 ((x * y / 18446744073709551616 : Nat) : Int), .int .u64 ((x * y % 18446744073709551616 : Nat) : Int)]) ∧ w' = w := by
  obtain ⟨bd, bt, bw, hhi⟩ := Lib.mul64_hi x y hx hy
  have ba := Lib.half_mul_le (a := x / 4294967296) (b := y / 4294967296) (by omega) (by omega)
  have bb := Lib.half_mul_le (a := x / 4294967296) (b := y % 4294967296) (by omega) (by omega)
  have bc := Lib.half_mul_le (a := x % 4294967296) (b := y / 4294967296) (by omega) (by omega)
  have ba' : x / 4294967296 * (y / 4294967296) < 18446744073709551616 := by omega
  have bb' : x / 4294967296 * (y % 4294967296) < 18446744073709551616 := by omega
  have bc' : x % 4294967296 * (y / 4294967296) < 18446744073709551616 := by omega
  have bh1 : x / 4294967296 * (y / 4294967296) + (x / 4294967296 * (y % 4294967296) + x % 4294967296 * (y % 4294967296) / 4294967296) / 4294967296 < 18446744073709551616 := by omega
  have bh : x / 4294967296 * (y / 4294967296) + (x / 4294967296 * (y % 4294967296) + x % 4294967296 * (y % 4294967296) / 4294967296) / 4294967296 + ((x / 4294967296 * (y % 4294967296) + x % 4294967296 * (y % 4294967296) / 4294967296) % 4294967296 + x % 4294967296 * (y / 4294967296)) / 4294967296 < 18446744073709551616 := by omega
  go_enter Tryd.func54, Tryd.ntmps54
  go_wp2
  simp only [M65.maskN x hx, M65.maskN y hy, M65.divN, M65.mulN, M65.addN, M65.wrapN _ bd, M65.wrapN _ bb', M65.wrapN _ bt, M65.maskN _ bt, M65.wrapN _ bc', M65.wrapN _ bw, M65.wrapN _ ba', M65.wrapN _ bh1, M65.wrapN _ bh, M65.wrapM (x * y)]
  rw [hhi]
  go_ret2
  exact ⟨rfl, rfl⟩
theorem mul_one64 (y : Nat) (hy : y ≤ 20000) (w : World) : Calls Tryd.prog 41 #[.int .u64 1, .int .u64 (y : Int)] w fun e w' => e = .returned (.tuple #[.int .u64 0, .int .u64 (y : Int)]) ∧ w' = w := by
  have HM := hidb (fun w => mul64n 1 y (by decide) (by omega) w)
  rw [Nat.one_mul, Nat.div_eq_of_lt (by omega), Nat.mod_eq_of_lt (by omega)] at HM
  go_enter Tryd.func41, Tryd.ntmps41
  go_wp2_with fail
  refine (HM.out _).mono ?_
  rintro e w1 ⟨rfl, rfl⟩
  go_wp2
  go_ret2
  exact ⟨rfl, rfl⟩
end Go.Proofs.YtlhligeicnejbaaDoor
namespace Go.Proofs.YtlhligeicnejbaaDoor
open Go.RowKit
attribute [local go_sem ↓] Go.wp_at_zero Go.wp_at_succ

theorem sizeJ : (Tryd.prog.info? 3).map (·.size) = some 1 := by kernel_rfl
theorem ones_ir (l : List Int) : ∀ u ∈ ir l, u.oneCell' = true := by
  intro u hu
  obtain ⟨x, _, rfl⟩ := List.mem_map.1 hu
  rfl
/-- So many of u, then nothing. -/
def rpl (u : Int) (k N : Nat) : List Int := List.replicate k u ++ List.replicate (N - k) 0
theorem rpl_len (u : Int) {k N : Nat} (h : k ≤ N) : (rpl u k N).length = N := by simp [rpl]; omega
theorem rpl_all (u : Int) (N : Nat) : rpl u N N = List.replicate N u := by simp [rpl]
theorem rpl_splice (u : Int) {k j N : Nat} (h : k + j ≤ N) : splice (ir (rpl u k N)) k (ir (List.replicate j u)) = ir (rpl u (k + j) N) := by
  unfold splice rpl
  simp only [ir, List.map_append, List.map_replicate, List.length_replicate]
  rw [List.take_append_of_le_length (by simp), List.take_of_length_le (by simp), List.drop_append, List.drop_eq_nil_of_le (by simp), List.nil_append, List.length_replicate, List.drop_replicate, ← List.append_assoc, List.replicate_append_replicate]
  congr 2
  omega
theorem rpl_one (u : Int) {N : Nat} (h : 1 ≤ N) : splice (ir (rpl u 0 N)) 0 [.int .i64 u] = ir (rpl u 1 N) := by
  have := rpl_splice u (k := 0) (j := 1) (N := N) (by omega)
  rw [Nat.zero_add] at this
  exact this
theorem islHi (b n cap k : Nat) (h : k ≤ cap) (w : World) : (Instr.slice 30 (.slice (some ⟨b, 0, none⟩) n cap) none (some (.int .i64 (k : Int))) none).run Tryd.prog w = .ok (.slice (some ⟨b, 0, none⟩) k cap) w := by
  have hu : Tryd.prog.underlying 30 = some (.slice (Tryd.prog.elem 30)) := by kernel_rfl
  have hs : (sizeOf (Tryd.prog.elem 30)).run Tryd.prog w = .ok 1 w := by kernel_rfl
  rw [run_slice_h w 30 _ _ _ hu .i64 _ (by omega) (by omega), hs]
  simp [Result.andThen, sliced, Addr.add]
/-- A block that is a row of whole numbers. -/
def BkI (w : World) (C : Nat) (L : List Int) : Prop := w.heap[C]? = some (.cells (ir L).toArray 3 (0, 0))
theorem BkI.at {w : World} {C : Nat} {L : List Int} (h : BkI w C L) : At w C (ir L) := by
  unfold BkI at h
  have hlt : C < w.heap.size := (Array.getElem?_eq_some_iff.1 h).1
  refine ⟨fun i hi => ⟨?_, ?_⟩, hlt⟩
  · simp only [World.cell?, h]
    simp
  · simp [World.frozen?, h]
theorem BkI.drew {w : World} {C : Nat} {L : List Int} (h : BkI w C L) : BkI w.drew C L := h
/-- A copy of what is there behind it, at a step of a region that draws its order. -/
theorem step_rep {ops : Array Oper} {o : Oper} {a : Act} {K : Act → World → Prop} {Q : Exit → Act → World → Prop} {Ep : Prop} (W w0 : World) (C k j N : Nat) (u : Int) (d s : Operand) (hgd : o.guard = none)
    (ho : o.op = .call { callee := .builtin .copy, args := #[d, s], argTypes := #[30, 30] }) (hd : a.eval d = .slice (some ⟨C, k, none⟩) (N - k) (N - k)) (hs : a.eval s = .slice (some ⟨C, 0, none⟩) k N)
    (hk : BkI W C (rpl u k N)) (hj : j = Nat.min k (N - k)) (hkN : k ≤ N) (hb : Below C w0 W) (h : ∀ w', Hid (BkI w' C (rpl u (k + j) N)) → Hid (Below C w0 w') → K (a.put o.dst (.int .i64 (j : Int))) w') :
    if Region.wanted o (yielded ops a.tmps) = true then Oper.wp Tryd.prog o a W K Q else Ep := by
  have hm : Nat.min k (N - k) = min k (N - k) := rfl
  rw [hm] at hj
  refine step_copy_splice hgd d s 30 30 ho 3 undI sizeJ (some ⟨C, k, none⟩) (some ⟨C, 0, none⟩) (N - k) (N - k) k N hd hs C k (ir (rpl u k N)) 3 hk (ir (List.replicate j u)) (by rw [hm]; simp [hj]) ?_ (by simp [rpl]; omega) (ones_ir _) C w0 hb (Nat.le_refl _) ?_
  · intro _
    refine ⟨rfl, ⟨C, 0, none⟩, rfl, ?_⟩
    intro i v hi
    obtain ⟨hi', rfl⟩ := List.getElem?_eq_some_iff.1 hi
    have hij : i < j := by simpa using hi'
    have hadd : (⟨C, 0, none⟩ : Addr).add i = ⟨C, i, none⟩ := by unfold Addr.add; split <;> simp_all
    rw [hadd, ((hk.at).1 i (by simp [rpl]; omega)).1]
    simp [rpl]
    rw [List.getElem_append_left (by simp; omega)]
    simp
  · intro w' h1 h2
    have h1' := h1.out
    rw [rpl_splice u (by omega)] at h1'
    have := h w' h1' h2
    simpa [goInt] using this
set_option maxRecDepth 4000 in
set_option maxHeartbeats 8000000 in
theorem repeat_any (B : Nat) (u : Int) (N : Nat) (h1 : 1 ≤ N) (h2 : N ≤ 20000) (w : World) (h : At w B [.int .i64 u]) : Calls Tryd.prog 30 #[.slice (some ⟨B, 0, none⟩) 1 1, .int .i64 (N : Int)] w fun e w' => ∃ C, e = .returned (.slice (some ⟨C, 0, none⟩) N N) ∧ At w' C (ir (List.replicate N u)) ∧ w.heap.size ≤ C ∧ Gr w w' := by
  obtain ⟨CS, hCS, mk⟩ := made_run N (by omega)
  have HM := hidb (fun w => mul_one64 N (by omega) w)
  have hw1 : IntKind.u64.wrap (N : Int) = (N : Int) := by rw [IntKind.wrap_u64]; omega
  have hw2 : IntKind.i64.wrap (N : Int) = (N : Int) := wrap_in (by omega) (by omega)
  have hn0 : ¬ (N : Int) < 0 := by omega
  have hn1 : ¬ (9223372036854775807 : Int) < (N : Int) := by omega
  have HK : Hid (BkI (w.alloc (.cells CS 3)) w.heap.size (rpl u 0 N)) := by
    show _ = _
    have e : CS = (ir (rpl u 0 N)).toArray := by rw [show rpl u 0 N = List.replicate N 0 by simp [rpl], ← hCS]
    rw [e]
    show (w.heap.push _)[w.heap.size]? = _
    simp
  have HG := hidb ((Below.refl w.heap.size w).alloc (Nat.le_refl _) (.cells CS 3))
  have HA := hidb h
  have HN := hidb (show 1 ≤ N ∧ N ≤ 20000 from ⟨h1, h2⟩)
  clear hCS h h1 h2
  go_enter Tryd.func30, Tryd.ntmps30
  go_wp2_with fail
  refine (HM.out _).mono ?_
  rintro e w9 ⟨rfl, rfl⟩
  go_wp2_with (refine wpList_copy_splice rfl _ _ 30 30 rfl 3 undI sizeJ _ _ _ _ _ _ rfl rfl w9.heap.size 0 (ir (rpl u 0 N)) 3 HK.out (ir (List.replicate 1 u)) ?f1 ?f2 ?f3 (ones_ir _) w9.heap.size w9 HG.out (Nat.le_refl _) ?_)
  case f1 => have := HN.out; simp [Nat.min_eq_left (show 1 ≤ N by omega)]
  case f2 =>
    intro j v hj
    match j with
    | 0 =>
      simp at hj
      subst hj
      exact ((HA.out.alloc _).c1)
    | j + 1 => simp at hj
  case f3 => have := HN.out; simp [rpl]; omega
  intro w2 hk2 hB2
  have HK2 : Hid (BkI w2 w9.heap.size (rpl u 1 N)) := by
    have h := hk2.out
    rw [rpl_one u HN.out.1] at h
    exact h
  have HG2 := hidb hB2
  clear hk2 hB2 HK HG hn0 hn1 hw1 hw2 mk HM HA
  generalize decide ((9223372036854775807 : Int) < (N : Int)) = bb
  go_wp2
  go_loopw [8] (fun t wr => ∃ k : Nat, t = .int .i64 (k : Int) ∧ Hid (1 ≤ k ∧ k ≤ N ∧ BkI wr w9.heap.size (rpl u k N) ∧ Below w9.heap.size w9 wr)) (fun t _ => N - (intOf t).toNat)
  case atStart => exact ⟨1, by go_num, hidb ⟨Nat.le_refl _, HN.out.1, HK2.out, HG2.out⟩⟩
  case round =>
    clear HK2 HG2
    obtain ⟨k, rfl, E⟩ := hrel
    by_cases hk : (k : Int) < (N : Int)
    · obtain ⟨j, hj⟩ : ∃ j, j = Nat.min k (N - k) := ⟨_, rfl⟩
      have hjb : 1 ≤ j ∧ k + j ≤ N ∧ j ≤ k := by have := E.out.1; have hm : Nat.min k (N - k) = min k (N - k) := rfl; rw [hj, hm]; omega
      have sl := islice w9.heap.size 0 N N k (by omega) (Nat.le_refl _)
      rw [Nat.zero_add] at sl
      have sh := islHi w9.heap.size N N k (by omega)
      have e1 : IntKind.i64.wrap ((k : Int) + (j : Int)) = ((k + j : Nat) : Int) := by rw [← Int.natCast_add]; exact wrap_in (by have := HN.out; omega) (by have := HN.out; omega)
      have HJ := hidb hjb
      have Hj := hidb hj
      clear hj hjb
      go_upto_region 9 with fail
      have HkN := hidb (show k ≤ N by omega)
      go_region_law (refine step_rep _ w9 w9.heap.size k j N u (.tmp 41) (.tmp 44) rfl rfl (by kernel_rfl) (by kernel_rfl) E.out.2.2.1.drew Hj.out HkN.out E.out.2.2.2.drew ?_; intro w4 hk4 hB4)
      have HK4 := hk4
      have HG4 := hB4
      clear hk4 hB4 E
      go_simp
      go_wp2
      go_roundw
      case rel => exact ⟨k + j, by simp, hidb ⟨by have := HJ.out; omega, HJ.out.2.1, HK4.out, HG4.out⟩⟩
      case measure =>
        have := HJ.out
        simp [intOf]
        omega
    · have hkN : k = N := by have := E.out.2.1; omega
      subst hkN
      go_wp2
      go_ret
      refine ⟨_, rfl, ?_, Nat.le_refl _, E.out.2.2.2⟩
      have h := E.out.2.2.1.at
      rw [rpl_all] at h
      simpa [ir] using h
end Go.Proofs.YtlhligeicnejbaaDoor
