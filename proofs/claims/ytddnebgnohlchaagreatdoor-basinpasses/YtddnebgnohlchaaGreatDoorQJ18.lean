/-
  Groups of numbers, each with a lesser one of its group: the first of a group; shorter ways; two groups joined. No Go text.; basin.groups: apart, first, join.; basin: apart, touching, depths.
-/
import Derived.Test.YtddnebgnohlchaaGreatDoorQJ13
import Derived.Test.YtddnebgnohlchaaGreatDoorQDrT
import Derived.Lib.MinMax
import Derived.Test.YtddnebgnohlchaaGreatDoorQJ16
namespace Go.Proofs.YtddnebgnohlchaaGreatDoor
open Go.RowKit

/-- The first of a number's group. -/
def rt (p : Nat → Nat) (i : Nat) : Nat := if _h : p i < i then rt p (p i) else i
termination_by i
section
variable {p : Nat → Nat}
theorem rt_go {i : Nat} (h : p i < i) : rt p i = rt p (p i) := by rw [rt, dif_pos h]
theorem rt_stop {i : Nat} (h : ¬ p i < i) : rt p i = i := by rw [rt, dif_neg h]
theorem rt_le (i : Nat) : rt p i ≤ i := by
  induction i using Nat.strongRecOn with
  | _ i ih =>
    by_cases h : p i < i
    · rw [rt_go h]; have := ih _ h; omega
    · rw [rt_stop h]; exact Nat.le_refl _
theorem rt_end (i : Nat) : ¬ p (rt p i) < rt p i := by
  induction i using Nat.strongRecOn with
  | _ i ih =>
    by_cases h : p i < i
    · rw [rt_go h]; exact ih _ h
    · rw [rt_stop h]; exact h
variable (hp : ∀ i, p i ≤ i)
include hp
theorem rt_fix (i : Nat) : p (rt p i) = rt p i := by have h1 := rt_end (p := p) i; have h2 := hp (rt p i); omega
theorem rt_p (i : Nat) : rt p (p i) = rt p i := by
  by_cases h : p i < i
  · exact (rt_go h).symm
  · have : p i = i := by have := hp i; omega
    rw [this]
omit hp in
theorem rt_rt (i : Nat) : rt p (rt p i) = rt p i := rt_stop (rt_end i)
/-- A way is made shorter: no first one is another. -/
theorem rt_short {n : Nat} (i : Nat) : rt (fun k => if k = n then p (p n) else p k) i = rt p i := by
  induction i using Nat.strongRecOn with
  | _ i ih =>
    by_cases e : i = n
    · subst e
      have h1 := hp i
      have h2 := hp (p i)
      by_cases h : p (p i) < i
      · rw [rt_go (by simpa using h)]
        simp only [if_true]
        rw [ih _ h, rt_p hp, rt_p hp]
      · have h3 : p i = i := by omega
        rw [rt_stop (by simpa using h), rt_stop (by omega)]
    · by_cases h : p i < i
      · rw [rt_go (by simpa [e] using h), if_neg e, ih _ h, rt_go h]
      · rw [rt_stop (by simpa [e] using h), rt_stop h]
omit hp in
/-- Two groups are joined. -/
theorem rt_join {x y : Nat} (hx : p x = x) (hy : p y = y) (hxy : x ≤ y) (i : Nat) : rt (fun k => if k = y then x else p k) i = if rt p i = y then x else rt p i := by
  induction i using Nat.strongRecOn with
  | _ i ih =>
    by_cases e : i = y
    · subst e
      rw [rt_stop (i := i) (p := p) (by omega), if_pos rfl]
      by_cases h : x < i
      · rw [rt_go (by simpa using h)]
        simp only [if_true]
        rw [ih _ h, rt_stop (i := x) (p := p) (by omega), if_neg (by omega)]
      · rw [rt_stop (by simpa using h)]; omega
    · by_cases h : p i < i
      · rw [rt_go (by simpa [e] using h), if_neg e, ih _ h, rt_go h]
      · rw [rt_stop (by simpa [e] using h), rt_stop h, if_neg e]
end
end Go.Proofs.YtddnebgnohlchaaGreatDoor
namespace Go.Proofs.YtddnebgnohlchaaGreatDoor
open Go.RowKit
attribute [local go_sem ↓] Go.wp_at_zero Go.wp_at_succ

theorem gindex (b n cap k : Nat) (hk : k < n) (w : World) : (Instr.indexAt 67 (.slice (some ⟨b, 0, none⟩) n cap) (.int .i64 k)).run Tryz.prog w = .ok (.pointer (some ⟨b, k, none⟩)) w := by
  have hu : Tryz.prog.underlying 67 = some (.slice (Tryz.prog.elem 67)) := by kernel_rfl
  refine (run_indexAt_slice (P := Tryz.prog) (w := w) 67 ⟨b, 0, none⟩ n cap .i64 (k : Int) hu).trans ?_
  rw [if_pos ⟨by omega, by omega⟩]
  have hs : (sizeOf (Tryz.prog.elem 67)).run Tryz.prog w = .ok 1 w := by kernel_rfl
  rw [hs]
  simp [Addr.add]
  intro h; omega
/-- Groups in memory: of each number a lesser one of its group. -/
structure Gs (L : List Int) (N : Nat) (p : Nat → Nat) : Prop where
  len : L.length = N
  eq : ∀ i, i < N → gl L i = (p i : Int)
  le : ∀ i, p i ≤ i
theorem Gs.short {L : List Int} {N : Nat} {p : Nat → Nat} (h : Gs L N p) {n : Nat} (hn : n < N) : Gs (L.set n (p (p n) : Int)) N (fun k => if k = n then p (p n) else p k) := by
  refine ⟨by rw [List.length_set]; exact h.len, fun i hi => ?_, fun i => ?_⟩
  · rw [gl_set (by rw [h.len]; exact hn)]
    by_cases e : i = n
    · rw [if_pos e, if_pos e]
    · rw [if_neg e, if_neg e]; exact h.eq i hi
  · show (if i = n then p (p n) else p i) ≤ i
    by_cases e : i = n
    · rw [if_pos e]; have := h.le n; have := h.le (p n); omega
    · rw [if_neg e]; exact h.le i
theorem Gs.join {L : List Int} {N : Nat} {p : Nat → Nat} (h : Gs L N p) {x y : Nat} (hy : y < N) (hxy : x ≤ y) : Gs (L.set y (x : Int)) N (fun k => if k = y then x else p k) := by
  refine ⟨by rw [List.length_set]; exact h.len, fun i hi => ?_, fun i => ?_⟩
  · rw [gl_set (by rw [h.len]; exact hy)]
    by_cases e : i = y
    · rw [if_pos e, if_pos e]
    · rw [if_neg e, if_neg e]; exact h.eq i hi
  · show (if i = y then x else p i) ≤ i
    by_cases e : i = y
    · rw [if_pos e]; omega
    · rw [if_neg e]; exact h.le i
/-- Groups that lie in the block B, with the same first ones as p has. -/
def GwR (w W : World) (B N : Nat) (p : Nat → Nat) : Prop := ∃ L q, At W B (ir L) ∧ Gs L N q ∧ (∀ i, rt q i = rt p i) ∧ Onl B w W
theorem Gs.rtN {_L : List Int} {N : Nat} {p : Nat → Nat} {i : Nat} (hi : i < N) : rt p i < N := Nat.lt_of_le_of_lt (rt_le i) hi
set_option maxRecDepth 4000 in
set_option maxHeartbeats 4000000 in
theorem first_any {B N : Nat} {L : List Int} {p : Nat → Nat} (c : Nat) (hc : c < N) (w : World) (hA : At w B (ir L)) (hg : Gs L N p) : Calls Tryz.prog 48 #[.slice (some ⟨B, 0, none⟩) N N, .int .i64 (c : Int)] w fun e w' => e = .returned (.int .i64 (rt p c : Int)) ∧ GwR w w' B N p := by
  obtain ⟨z, hz⟩ : ∃ z : Int, z = (rt p c : Int) := ⟨_, rfl⟩
  rw [← hz]
  have HZ := hidb hz
  have E0 : Hid (c < N ∧ True ∧ ∃ L q, At w B (ir L) ∧ Gs L N q ∧ (∀ i, rt q i = rt p i) ∧ Onl B w w) := ⟨hc, trivial, L, p, hA, hg, fun _ => rfl, Onl.refl _ _⟩
  clear hz hA hg hc
  go_enter Tryz.func48, Tryz.ntmps48
  go_wp2
  go_loopg [1] c (fun gk s wr => s = .int .i64 (gk : Int) ∧ Hid (gk < N ∧ rt p gk = rt p c ∧ ∃ L q, At wr B (ir L) ∧ Gs L N q ∧ (∀ i, rt q i = rt p i) ∧ Onl B w wr))
  case atStart => exact ⟨rfl, hidb ⟨E0.out.1, rfl, E0.out.2.2⟩⟩
  case round =>
    clear E0
    obtain ⟨rfl, E⟩ := hrel
    obtain ⟨hk, hkc, L2, q, hA, hg, hq, hO⟩ := E.out
    have c1 := (hA.get (j := gk) (by rw [hg.len]; exact hk)).1
    rw [gl_get (by rw [hg.len]; exact hk), hg.eq gk hk] at c1
    have ix := gindex B N N gk hk
    by_cases hf : q gk = gk
    · have HE : Hid (z = (gk : Int)) := by show _ = _; rw [HZ.out, ← hkc, ← hq, rt_stop (by omega)]
      have HW : Hid (GwR w wr B N p) := ⟨L2, q, hA, hg, hq, hO⟩
      rw [hf] at c1
      clear hk hkc hA hg hq hO hf E
      go_wp2
      go_ret
      exact ⟨by rw [HE.out]; rfl, HW.out⟩
    · have hle := hg.le gk
      have hle2 := hg.le (q gk)
      have hqN : q gk < N := by omega
      have hf' : ¬ ((q gk : Nat) : Int) = (gk : Int) := by omega
      obtain ⟨c2, -⟩ := hA.get (j := q gk) (by rw [hg.len]; exact hqN)
      rw [gl_get (by rw [hg.len]; exact hqN), hg.eq _ hqN] at c2
      have f1 := (hA.get (j := gk) (by rw [hg.len]; exact hk)).2
      have ix2 := gindex B N N (q gk) hqN
      have A2 := hA.put gk (.int .i64 (q (q gk) : Int))
      rw [ir_set] at A2
      have HR : Hid (q (q gk) < N ∧ rt p (q (q gk)) = rt p c) := ⟨by omega, by rw [← hq, rt_p hg.le, rt_p hg.le, hq]; exact hkc⟩
      have HS := hidb (hg.short hk)
      have HQ : Hid (∀ i, rt (fun k => if k = gk then q (q gk) else q k) i = rt p i) := fun i => (rt_short hg.le i).trans (hq i)
      have HA2 := hidb A2
      have HO2 := hidb (hO.set gk (.int .i64 (q (q gk) : Int)))
      have HM : Hid (q (q gk) < gk) := by show _ < _; omega
      have c3 := (A2.get (j := gk) (by rw [List.length_set, hg.len]; exact hk)).1
      rw [List.getElem_set_self] at c3
      generalize q gk = y at *
      generalize q y = x at *
      clear hk hkc hA hg hq hO hf E hle hle2 hqN A2
      go_wp2
      go_roundg x
      case measure => exact HM.out
      case rel => exact ⟨rfl, hidb ⟨HR.out.1, HR.out.2, _, _, HA2.out, HS.out, HQ.out, HO2.out⟩⟩
/-- Two groups as one: the first of each number. -/
def jn (p : Nat → Nat) (x y i : Nat) : Nat := if rt p i = max (rt p x) (rt p y) then min (rt p x) (rt p y) else rt p i
set_option maxRecDepth 4000 in
set_option maxHeartbeats 4000000 in
theorem join_any {B N : Nat} {L : List Int} {p : Nat → Nat} (x y : Nat) (hx : x < N) (hy : y < N) (w : World) (hA : At w B (ir L)) (hg : Gs L N p) : Calls Tryz.prog 27 #[.slice (some ⟨B, 0, none⟩) N N, .int .i64 (x : Int), .int .i64 (y : Int)] w fun e w' => e = .returned (.tuple #[]) ∧ ∃ L q, At w' B (ir L) ∧ Gs L N q ∧ (∀ i, rt q i = jn p x y i) ∧ Onl B w w' := by
  have C1 := hidb (first_any x hx w hA hg)
  have HC2 := hidb (fun (W : World) L2 q (h1 : At W B (ir L2)) (h2 : Gs L2 N q) => first_any y hy W h1 h2)
  have HXY := hidb (show x < N ∧ y < N from ⟨hx, hy⟩)
  clear hA hg hx hy
  go_enter Tryz.func27, Tryz.ntmps27
  go_wp2_with fail
  refine C1.out.mono ?_
  rintro e w1 ⟨rfl, L1, q1, hA1, hg1, hq1, hO1⟩
  have C2 := hidb (HC2.out w1 L1 q1 hA1 hg1)
  go_wp2_with fail
  refine C2.out.mono ?_
  rintro e w2 ⟨rfl, L2, q2, hA2, hg2, hq2, hO2⟩
  have hrt : ∀ i, rt q2 i = rt p i := fun i => (hq2 i).trans (hq1 i)
  have hxN : rt p x < N := Nat.lt_of_le_of_lt (rt_le x) HXY.out.1
  have hyN : rt q1 y < N := Nat.lt_of_le_of_lt (rt_le y) HXY.out.2
  have hmx : max (rt p x) (rt q1 y) < N := by omega
  have ix := gindex B N N (max (rt p x) (rt q1 y)) hmx
  obtain ⟨cc, ff⟩ := hA2.get (j := max (rt p x) (rt q1 y)) (by rw [hg2.len]; exact hmx)
  rw [gl_get (by rw [hg2.len]; exact hmx)] at cc
  have e1 : max ((rt p x : Nat) : Int) ((rt q1 y : Nat) : Int) = ((max (rt p x) (rt q1 y) : Nat) : Int) := by omega
  have e2 : min ((rt p x : Nat) : Int) ((rt q1 y : Nat) : Int) = ((min (rt p x) (rt q1 y) : Nat) : Int) := by omega
  have A3 := hA2.put (max (rt p x) (rt q1 y)) (.int .i64 ((min (rt p x) (rt q1 y) : Nat) : Int))
  rw [ir_set] at A3
  have fx : q2 (rt p x) = rt p x := by rw [← hrt]; exact rt_fix hg2.le x
  have fy : q2 (rt q1 y) = rt q1 y := by rw [hq1, ← hrt]; exact rt_fix hg2.le y
  have fmin : q2 (min (rt p x) (rt q1 y)) = min (rt p x) (rt q1 y) := by
    rcases Nat.le_total (rt p x) (rt q1 y) with h | h
    · rw [Nat.min_eq_left h]; exact fx
    · rw [Nat.min_eq_right h]; exact fy
  have fmax : q2 (max (rt p x) (rt q1 y)) = max (rt p x) (rt q1 y) := by
    rcases Nat.le_total (rt p x) (rt q1 y) with h | h
    · rw [Nat.max_eq_right h]; exact fy
    · rw [Nat.max_eq_left h]; exact fx
  have HZ : Hid (∃ L q, At (w2.setCell ⟨B, max (rt p x) (rt q1 y), none⟩ (.int .i64 ((min (rt p x) (rt q1 y) : Nat) : Int))) B (ir L) ∧ Gs L N q ∧ (∀ i, rt q i = jn p x y i) ∧ Onl B w (w2.setCell ⟨B, max (rt p x) (rt q1 y), none⟩ (.int .i64 ((min (rt p x) (rt q1 y) : Nat) : Int)))) :=
    ⟨_, _, A3, hg2.join hmx (by omega), fun i => by rw [rt_join fmin fmax (by omega)]; unfold jn; rw [hrt, hq1 y], (hO1.trans hO2).set _ _⟩
  generalize max (rt p x) (rt q1 y) = mx at *
  generalize min (rt p x) (rt q1 y) = mn at *
  generalize rt p x = rx at *
  generalize rt q1 y = ry at *
  obtain ⟨mxI, hmxI⟩ : ∃ z : Int, z = (mx : Int) := ⟨_, rfl⟩
  obtain ⟨mnI, hmnI⟩ : ∃ z : Int, z = (mn : Int) := ⟨_, rfl⟩
  rw [← hmxI] at e1 ix
  rw [← hmnI] at e2 HZ
  clear hA1 hg1 hq1 hO1 hA2 hg2 hq2 hO2 hrt hxN hyN hmx A3 fx fy fmin fmax C1 C2 HC2 HXY hmxI hmnI
  go_wp2
  go_end0
  exact ⟨rfl, HZ.out⟩
end Go.Proofs.YtddnebgnohlchaaGreatDoor
namespace Go.Proofs.YtddnebgnohlchaaGreatDoor
open Go.RowKit
attribute [local go_sem ↓] Go.wp_at_zero Go.wp_at_succ

theorem undG : Tryz.prog.underlying 67 = some (.slice 3) := by kernel_rfl
theorem made_runG (K : Nat) (hK : K ≤ 20000) : ∃ CS : Array Value, CS.toList = ir (List.replicate K 0) ∧ ∀ w, (Instr.makeSlice 67 (.int .i64 (K : Int)) (.int .i64 (K : Int))).run Tryz.prog w = .ok (.slice (some ⟨w.heap.size, 0, none⟩) K K) (w.alloc (.cells CS 3)) := by
  obtain ⟨i0, hi, hz0, hz1, hz2⟩ := info_parts infoJ
  refine ⟨madeCells #[Value.int .i64 0] K, made_ir K, fun w => ?_⟩
  have := run_makeSlice (P := Tryz.prog) w 67 3 i0 (.int .i64 0) undG hi hz0 .i64 .i64 (K : Int) (K : Int) (by omega) (Int.le_refl _) (by rw [hz1]; omega) (by rw [hz2]; omega) (by omega)
  rw [hz1, Int.toNat_natCast, Nat.mul_one] at this
  exact this
/-- Each number its own group, as far as k. -/
def idK (N k : Nat) : List Int := (List.range N).map (fun i => if i < k then (i : Int) else 0)
theorem idK_len (N k : Nat) : (idK N k).length = N := by simp [idK]
theorem idK_0 (N : Nat) : idK N 0 = List.replicate N 0 := by
  apply List.ext_getElem
  · simp [idK]
  · intro i h1 h2; simp [idK]
theorem idK_set {N k : Nat} : (idK N k).set k (k : Int) = idK N (k + 1) := by
  apply List.ext_getElem
  · simp [idK]
  · intro i h1 h2
    rw [List.getElem_set]
    by_cases e : k = i
    · subst e; simp [idK]
    · rw [if_neg e]
      simp only [idK, List.getElem_map, List.getElem_range]
      by_cases c : i < k
      · rw [if_pos c, if_pos (by omega)]
      · rw [if_neg c, if_neg (by omega)]
theorem idK_gs (N : Nat) : Gs (idK N N) N id := ⟨idK_len N N, fun i hi => by unfold idK; rw [gl_map hi, if_pos hi]; rfl, fun i => Nat.le_refl _⟩
set_option maxRecDepth 4000 in
set_option maxHeartbeats 4000000 in
theorem apart_any (N : Nat) (hN : N ≤ 16384) (w : World) : Calls Tryz.prog 26 #[.int .i64 (N : Int)] w fun e w' => ∃ B, e = .returned (.slice (some ⟨B, 0, none⟩) N N) ∧ At w' B (ir (idK N N)) ∧ w.heap.size ≤ B ∧ Gr w w' := by
  obtain ⟨CS, hCS, mk⟩ := made_runG N (by omega)
  have A0 : Hid (At (w.alloc (.cells CS 3)) w.heap.size (ir (idK N 0)) ∧ Gr w (w.alloc (.cells CS 3))) := ⟨by rw [idK_0, ← hCS]; exact At.newArr _ _ _, (Gr.refl w).alloc _⟩
  have HN := hidb hN
  clear hCS hN
  go_enter Tryz.func26, Tryz.ntmps26
  go_wp2
  obtain ⟨B, hBd⟩ : ∃ B, B = w.heap.size := ⟨_, rfl⟩
  rw [← hBd] at A0 ⊢
  have HB := hidb (show w.heap.size ≤ B by omega)
  clear hBd mk
  generalize w.alloc (.cells CS 3) = w1 at *
  go_loopw [9] (fun t wr => ∃ k : Nat, k ≤ N ∧ t = .int .i64 (k : Int) ∧ Hid (At wr B (ir (idK N k)) ∧ Gr w wr)) (fun t _ => N - (intOf t).toNat)
  case atStart => exact ⟨0, Nat.zero_le _, rfl, A0⟩
  case round =>
    clear A0
    obtain ⟨k, hk, rfl, E⟩ := hrel
    by_cases h1 : ¬ k < N
    · have h1' : ¬ (k : Int) < (N : Int) := by omega
      obtain rfl : k = N := by omega
      clear h1
      go_wp2
      go_ret
      exact ⟨B, rfl, E.out.1, HB.out, E.out.2⟩
    · have h1' : (k : Int) < (N : Int) := by omega
      have hkN : k < N := by omega
      have e1 : IntKind.i64.wrap ((k : Int) + 1) = ((k + 1 : Nat) : Int) := by rw [show (k : Int) + 1 = ((k + 1 : Nat) : Int) by omega]; exact wrap_in (by have := HN.out; omega) (by have := HN.out; omega)
      have ix := gindex B N N k hkN
      obtain ⟨c1, f1⟩ := E.out.1.get (j := k) (by rw [idK_len]; exact hkN)
      rw [gl_get (by rw [idK_len]; exact hkN)] at c1
      have HE : Hid (At (wr.setCell ⟨B, k, none⟩ (.int .i64 (k : Int))) B (ir (idK N (k + 1))) ∧ Gr w (wr.setCell ⟨B, k, none⟩ (.int .i64 (k : Int)))) := ⟨by rw [← idK_set, ← ir_set]; exact E.out.1.put k _, E.out.2.set HB.out _ _⟩
      clear h1 E
      go_wp2
      go_roundw
      case rel => exact ⟨k + 1, hkN, by go_num, HE⟩
      case measure => simp [intOf]; omega
/-- All pairs that touch, each once. -/
abbrev D4 : List Nat := [0, 5, 6, 7]
set_option maxRecDepth 4000 in
set_option maxHeartbeats 4000000 in
theorem touching_any {m n Lb Lo Lcap : Nat} {l : List Int} (w : World) (ok : Ok l m n) : Calls Tryz.prog 21 #[raV m n (.slice (some ⟨Lb, Lo, none⟩) l.length Lcap)] w fun e w' => ∃ v, e = .returned v ∧ ∃ base, w'.ownsRow base 62 2 v (prK m n D4 l.length).length (qr (prK m n D4 l.length)) ∧ w.heap.size ≤ base ∧ Gr w w' := by
  have HPr := hidb (fun W DB (hA : At W DB [.int .i64 0, .int .i64 5, .int .i64 6, .int .i64 7]) => pairs_any (Lb := Lb) (Lo := Lo) (Lcap := Lcap) (D := D4) W ok (by decide) (by decide) hA)
  have PX : Hid (PF w (w.alloc (.cells #[.int .i64 (m : Int), .int .i64 (n : Int), .slice (some ⟨Lb, Lo, none⟩) l.length Lcap] 32)) w.heap.size [.int .i64 (m : Int), .int .i64 (n : Int), .slice (some ⟨Lb, Lo, none⟩) l.length Lcap]) := ⟨At.new3 _ _ _ _ _, (Gr.refl w).alloc _⟩
  obtain ⟨N, hN⟩ : ∃ N, N = l.length := ⟨_, rfl⟩
  rw [← hN] at HPr PX ⊢
  clear ok hN
  show Calls Tryz.prog 21 #[.agg #[.int .i64 (m : Int), .int .i64 (n : Int), .slice (some ⟨Lb, Lo, none⟩) N Lcap]] w _
  go_enter Tryz.func21, Tryz.ntmps21
  obtain ⟨q0, q1, q2⟩ := PX.out.a.c3
  go_wp2_with fail
  refine (HPr.out _ _ (At.nxArr _ _ #[.int .i64 0, .int .i64 5, .int .i64 6, .int .i64 7] _)).mono ?_
  rintro e w2 ⟨v, rfl, base, hown, hb, hB⟩
  have HZ := hidb (show w2.ownsRow base 62 2 v (prK m n D4 N).length (qr (prK m n D4 N)) ∧ w.heap.size ≤ base ∧ Gr w w2 from ⟨hown, by simp at hb; omega, Gr.step (PX.out.gr.alloc _) hB.out⟩)
  clear hown hb hB q0 q1 q2
  go_wp2
  go_ret
  exact ⟨v, rfl, base, HZ.out⟩
/-- How deep the water is, as far as k; the heights beyond. -/
def dpK (m n : Nat) (l : List Int) (k : Nat) : List Int := (List.range l.length).map (fun i => if i < k then fih m n l i - gl l i else fih m n l i)
theorem dpK_len (m n : Nat) (l : List Int) (k : Nat) : (dpK m n l k).length = l.length := by simp [dpK]
theorem dpK_0 (m n : Nat) (l : List Int) : dpK m n l 0 = fiL m n l := by
  unfold dpK fiL fih
  exact List.map_congr_left (fun i _ => by simp)
theorem dpK_set {m n : Nat} {l : List Int} {k : Nat} : (dpK m n l k).set k (fih m n l k - gl l k) = dpK m n l (k + 1) := by
  apply List.ext_getElem
  · simp [dpK]
  · intro i h1 h2
    rw [List.getElem_set]
    by_cases e : k = i
    · subst e; simp [dpK]
    · rw [if_neg e]
      simp only [dpK, List.getElem_map, List.getElem_range]
      by_cases c : i < k
      · rw [if_pos c, if_pos (by omega)]
      · rw [if_neg c, if_neg (by omega)]
theorem dpK_at {m n : Nat} {l : List Int} {k : Nat} (hk : k < l.length) : gl (dpK m n l k) k = fih m n l k := by unfold dpK; rw [gl_map hk, if_neg (by omega)]
end Go.Proofs.YtddnebgnohlchaaGreatDoor
