/-
  sight.line's stops: the iterator, for every loop body.
-/
import Derived.Test.YtpdiefmmenfpaaaDoorQSiD
import Derived.RangeFuncNested
import Derived.RangeFuncBound
import Derived.RangeFuncCalls
import Derived.RangeFuncLeaves
import Derived.RangeFuncBox
import Derived.Shelf.Abstract
import Derived.Shelf.RegionOpen
import Derived.WalkKit
import Derived.OwnWalkIn
import Derived.TacticsInMore
import Derived.LoopNIn
import Derived.LoopIn
import Derived.Sort.QuietIn
namespace Go.Proofs.YtpdiefmmenfpaaaDoor
open Go.RowKit Go.Shelf
attribute [local go_sem] Oper.semAt_some

theorem wide_fn (f : FuncId) : Fence.wide.fn f = True := eq_true trivial
attribute [local go_sem] wide_fn

theorem grown_drewN (W : World) (k : Nat) : W.grownBy (W.drewN k) none := ⟨rfl, rfl, rfl, Nat.le_refl _, fun _ _ _ => rfl⟩
/-- A stop of a line. -/
abbrev St (c0 r0 c1 r1 : Nat) := { x : Nat × Nat // x ∈ sts c0 r0 c1 r1 }
/-- The first j stops over so many parts. -/
def pkS (p j : Nat) : List (Nat × Nat) := (List.range j).map fun k => (k + 1, p)
theorem pkS_succ (p j : Nat) : pkS p (j + 1) = pkS p j ++ [(j + 1, p)] := by unfold pkS; rw [List.range_succ]; simp
theorem pkS_len (p j : Nat) : (pkS p j).length = j := by simp [pkS]
theorem pkS_prs (p : Nat) : pkS p (p - 1) = prs p := rfl
/-- Of which number of parts; all stops ahead of that. -/
def dnS (c0 r0 c1 r1 : Nat) : Nat → Nat
  | 0 => d1 c0 c1
  | 1 => d1 r0 r1
  | _ => d3 c0 r0 c1 r1
def pfS (c0 r0 c1 r1 : Nat) : Nat → List (Nat × Nat)
  | 0 => []
  | i + 1 => pfS c0 r0 c1 r1 i ++ prs (dnS c0 r0 c1 r1 i)
theorem pfS_3 (c0 r0 c1 r1 : Nat) : pfS c0 r0 c1 r1 3 = sts c0 r0 c1 r1 := by simp [pfS, dnS, sts]
theorem dnS_le {c0 r0 c1 r1 : Nat} (h1 : c0 < 128) (h2 : c1 < 128) (h3 : r0 < 128) (h4 : r1 < 128) (i : Nat) : dnS c0 r0 c1 r1 i ≤ 254 := by
  unfold dnS d1 d3
  split <;> omega
theorem prs_len (p : Nat) : (prs p).length = p - 1 := by simp [prs]
theorem pfS_len {c0 r0 c1 r1 : Nat} (h1 : c0 < 128) (h2 : c1 < 128) (h3 : r0 < 128) (h4 : r1 < 128) : ∀ i, (pfS c0 r0 c1 r1 i).length ≤ 254 * i
  | 0 => by simp [pfS]
  | i + 1 => by
    have := pfS_len h1 h2 h3 h4 i
    have := dnS_le h1 h2 h3 h4 i
    simp only [pfS, List.length_append, prs_len]
    omega
theorem dnS_mem {c0 r0 c1 r1 i k : Nat} (hi : i < 3) (h1 : 1 ≤ k) (h2 : k < dnS c0 r0 c1 r1 i) : (k, dnS c0 r0 c1 r1 i) ∈ sts c0 r0 c1 r1 := by
  unfold sts
  rw [List.mem_append, List.mem_append, prs_mem, prs_mem, prs_mem]
  match i, hi with
  | 0, _ => exact .inl ⟨rfl, h1, h2⟩
  | 1, _ => exact .inr (.inl ⟨rfl, h1, h2⟩)
  | 2, _ => exact .inr (.inr ⟨rfl, h1, h2⟩)
abbrev arV (a b c : Int) : Value := .agg #[.int .i64 a, .int .i64 b, .int .i64 c]
theorem sidx (a b c : Int) (x : Int) (i : Nat) (hi : i < 3) (hx : x = [a, b, c][i]) (w : World) : (Instr.index 106 (arV a b c) (.int .i64 (i : Int))).run Tryd.prog w = .ok (.int .i64 x) w := by
  match i, hi with
  | 0, _ => subst hx; simp [Instr.index, asIntOf, go_sem]
  | 1, _ => subst hx; simp [Instr.index, asIntOf, go_sem]
  | 2, _ => subst hx; simp [Instr.index, asIntOf, go_sem]
theorem stopsM_in (F : Fence) (n : Nat) (h40 : F.fn 40) (hro : F.round = none) (m k : Nat) (v : Value) (c r e s x y : Int) (w : World) :
    CallsIn F n Tryd.prog 40 #[lnV m k v c r e s x y] w fun ee w' => ee = .returned (.func (.func 61) #[] #[.pointer (some ⟨w.heap.size, 0, none⟩)]) ∧ w' = w.alloc (.cells #[.int .i64 (m : Int), .int .i64 (k : Int), v, .int .i64 c, .int .i64 r, .int .i64 e, .int .i64 s, .int .i64 x, .int .i64 y] 78) := by
  refine callsIn_of_wp Tryd.func40 rfl h40 ?_ hro
  simp only [Tryd.ntmps40, List.size_toArray, List.length_cons, List.length_nil, Nat.reduceAdd, Nat.reduceSub, Array.replicate_succ, Array.replicate_zero, List.push_toArray, List.append_toArray, List.nil_append, List.cons_append]
  gi_wp2
  go_ret
  exact ⟨rfl, rfl⟩
set_option maxRecDepth 100000 in
set_option maxHeartbeats 8000000 in
theorem stops1_in (n : Nat) (hn : 1 ≤ n) (lp B : Nat) {c0 r0 c1 r1 : Nat} (b1 : c0 < 128) (b2 : c1 < 128) (b3 : r0 < 128) (b4 : r1 < 128) (J Jx : List (St c0 r0 c1 r1) → World → Prop)
    (hY : ∀ pre x W, J pre W → pre.length < 1000 → YieldAt Fence.wide (n - 1) Tryd.prog lp #[.int .i64 (x.1.1 : Int), .int .i64 (x.1.2 : Int)] W fun e W' =>
      (e = .returned (.bool true) ∧ J (pre ++ [x]) W' ∧ True) ∨ (e = .returned (.bool false) ∧ Jx (pre ++ [x]) W'))
    (hD : ∀ pre W k, J pre W → J pre (W.drewN k))
    (W : World) (hE : W.cell? ⟨B, 5, none⟩ = some (.int .i64 ((c1 : Int) - c0))) (hS : W.cell? ⟨B, 6, none⟩ = some (.int .i64 ((r1 : Int) - r0))) (h0 : J [] W) :
    CallsIn Fence.wide n Tryd.prog 61 #[.func (.yield lp) #[] #[], .pointer (some ⟨B, 0, none⟩)] W fun e W' => (∃ v, e = .returned v) ∧ ((∃ ys : List (St c0 r0 c1 r1), ys.map Subtype.val = sts c0 r0 c1 r1 ∧ J ys W') ∨ (∃ pre : List (St c0 r0 c1 r1), True ∧ Jx pre W')) := by
  obtain ⟨e, he⟩ : ∃ e : Int, e = (c1 : Int) - c0 := ⟨_, rfl⟩
  obtain ⟨s, hs⟩ : ∃ e : Int, e = (r1 : Int) - r0 := ⟨_, rfl⟩
  obtain ⟨d, hd, e1⟩ : ∃ d : Int, d = e - s ∧ IntKind.i64.wrap (e - s) = d := ⟨_, rfl, wrap_in (by omega) (by omega)⟩
  have C1 := hidb (fun W => ssize_any e (by omega) (by omega) W)
  have C2 := hidb (fun W => ssize_any s (by omega) (by omega) W)
  have C3 := hidb (fun W => ssize_any d (by omega) (by omega) W)
  rw [← he] at hE
  rw [← hs] at hS
  have HX : Hid (∀ (i : Nat) (hi : i < 3) w, (Instr.index 106 (arV (e.natAbs : Int) (s.natAbs : Int) (d.natAbs : Int)) (.int .i64 (i : Int))).run Tryd.prog w = .ok (.int .i64 (dnS c0 r0 c1 r1 i : Int)) w) := fun i hi w => sidx _ _ _ _ i hi (by
    match i, hi with
    | 0, _ => show _ = (e.natAbs : Int); rw [he]; rfl
    | 1, _ => show _ = (s.natAbs : Int); rw [hs]; rfl
    | 2, _ => show _ = (d.natAbs : Int); rw [hd, he, hs]; rfl) w
  have HDl := hidb (fun i => dnS_le (c0 := c0) (c1 := c1) (r0 := r0) (r1 := r1) b1 b2 b3 b4 i)
  have HPl := hidb (fun i => pfS_len (c0 := c0) (c1 := c1) (r0 := r0) (r1 := r1) b1 b2 b3 b4 i)
  have HY := hidb hY
  have HD := hidb hD
  have HJ := hidb h0
  generalize (e.natAbs : Int) = z1 at *
  generalize (s.natAbs : Int) = z2 at *
  generalize (d.natAbs : Int) = z3 at *
  clear he hs hd b1 b2 b3 b4 hY hD h0
  refine callsIn_of_wp Tryd.func61 rfl trivial ?_ rfl
  simp only [Tryd.ntmps61, List.size_toArray, List.length_cons, List.length_nil, Nat.reduceAdd, Nat.reduceSub, Array.replicate_succ, Array.replicate_zero, List.push_toArray, List.append_toArray, List.nil_append, List.cons_append]
  gi_wp2
  gi_quiet ((first
    | (gi_at_call 62; with_reducible refine CallsIn.quiet_of_same (callsIn_wide.2 (C1.out _)))
    | (gi_at_call 62; with_reducible refine CallsIn.quiet_of_same (callsIn_wide.2 (C2.out _)))
    | (gi_at_call 62; with_reducible refine CallsIn.quiet_of_same (callsIn_wide.2 (C3.out _)))))
  have HJ2 := hidb (HD.out _ _ nq HJ.out)
  clear HJ hE hS HD C1 C2 C3
  generalize World.drewN W nq = W1 at *
  gi_wp2
  gi_loopw [19] (fun t wr => ∃ (i : Nat) (ys : List (St c0 r0 c1 r1)), i ≤ 3 ∧ t = .int .i64 (i : Int) ∧ Hid (ys.map Subtype.val = pfS c0 r0 c1 r1 i ∧ J ys wr)) (fun t _ => 3 - (intOf t).toNat)
  case atStart => exact ⟨0, [], Nat.zero_le _, rfl, hidb ⟨rfl, HJ2.out⟩⟩
  case round =>
    clear HJ2
    obtain ⟨i, ys, hi, rfl, E⟩ := hrel
    by_cases h1 : ¬ i < 3
    · have h1' : ¬ (i : Int) < 3 := by omega
      have HE : Hid (ys.map Subtype.val = sts c0 r0 c1 r1 ∧ J ys wr) := ⟨by rw [E.out.1, show i = 3 by omega, pfS_3], E.out.2⟩
      clear h1 E
      gi_wp2
      go_end0
      exact ⟨⟨_, rfl⟩, .inl ⟨ys, HE.out⟩⟩
    · have h1' : (i : Int) < 3 := by omega
      have hi3 : i < 3 := by omega
      have ix := HX.out i hi3
      have Hi := hidb hi3
      obtain ⟨dI, hdI⟩ : ∃ z : Int, z = (dnS c0 r0 c1 r1 i : Int) := ⟨_, rfl⟩
      rw [← hdI] at ix
      have HdI := hidb hdI
      have e1 : IntKind.i64.wrap ((i : Int) + 1) = ((i + 1 : Nat) : Int) := by rw [show (i : Int) + 1 = ((i + 1 : Nat) : Int) by omega]; exact wrap_in (by omega) (by omega)
      clear h1 hdI hi3
      gi_wp2
      gi_loopw [5] (fun t wr2 => ∃ (j : Nat) (kI : Int) (zs : List (St c0 r0 c1 r1)), t = .int .i64 kI ∧ Hid (kI = ((j + 1 : Nat) : Int) ∧ j ≤ dnS c0 r0 c1 r1 i - 1) ∧ Hid (zs.map Subtype.val = pfS c0 r0 c1 r1 i ++ pkS (dnS c0 r0 c1 r1 i) j ∧ J zs wr2)) (fun t _ => (dI - intOf t).toNat)
      case atStart => exact ⟨0, 1, ys, rfl, hidb ⟨rfl, Nat.zero_le _⟩, hidb ⟨by rw [E.out.1]; simp [pkS], E.out.2⟩⟩
      case round =>
        clear E ix
        obtain ⟨j, kI, zs, rfl, Hk, E⟩ := hrel
        by_cases h2 : ¬ kI < dI
        · have HE : Hid (zs.map Subtype.val = pfS c0 r0 c1 r1 (i + 1) ∧ J zs wr) := ⟨by
            have h3 := Hk.out
            have h4 := HdI.out
            rw [E.out.1, show j = dnS c0 r0 c1 r1 i - 1 by omega, pkS_prs]
            rfl, E.out.2⟩
          clear E
          gi_wp2
          go_roundw
          case rel => exact ⟨i + 1, zs, Hi.out, by go_num, HE⟩
          case measure => have := Hi.out; simp [intOf]; omega
        · have h2' : kI < dI := Classical.not_not.1 h2
          have hjd : j + 1 < dnS c0 r0 c1 r1 i := by have := Hk.out.1; have := HdI.out; omega
          have hlen : zs.length < 1000 := by
            have e := congrArg List.length E.out.1
            rw [List.length_map, List.length_append, pkS_len] at e
            have := HPl.out i
            have := HDl.out i
            have := Hi.out
            omega
          have hmem := dnS_mem (c0 := c0) (r0 := r0) (c1 := c1) (r1 := r1) Hi.out (Nat.le_add_left 1 j) hjd
          obtain ⟨x, hx⟩ : ∃ x : St c0 r0 c1 r1, x.1 = (j + 1, dnS c0 r0 c1 r1 i) := ⟨⟨_, hmem⟩, rfl⟩
          obtain ⟨fn, tmps, assign, body, hy, hR⟩ := HY.out zs x wr E.out.2 hlen
          rw [hx] at hy
          dsimp only at hy
          rw [← Hk.out.1, ← HdI.out] at hy
          obtain ⟨k2, hk2, e2⟩ : ∃ z : Int, z = kI + 1 ∧ IntKind.i64.wrap (kI + 1) = z := ⟨_, rfl, wrap_in (by have := Hk.out.1; omega) (by have := HdI.out; have := HDl.out i; omega)⟩
          have HK2 : Hid (k2 = ((j + 1 + 1 : Nat) : Int) ∧ j + 1 ≤ dnS c0 r0 c1 r1 i - 1) := ⟨by have := Hk.out.1; omega, by omega⟩
          have HZ : Hid ((zs ++ [x]).map Subtype.val = pfS c0 r0 c1 r1 i ++ pkS (dnS c0 r0 c1 r1 i) (j + 1)) := by
            show _ = _
            rw [List.map_append, E.out.1, pkS_succ, List.append_assoc, List.map_cons, List.map_nil, hx]
          have HM := hidb (show kI < k2 ∧ kI < dI by omega)
          generalize zs ++ [x] = zz at *
          clear hjd hlen hmem h2 hk2 E hx
          gi_wp2
          refine hR.mono ?_
          rintro e W3 (⟨rfl, hJ3, -⟩ | ⟨rfl, hJx3⟩)
          · gi_wp2
            go_roundw
            case rel => exact ⟨j + 1, k2, zz, rfl, HK2, hidb ⟨HZ.out, hJ3⟩⟩
            case measure => have := HM.out; simp [intOf]; omega
          · gi_wp2
            refine bodyPost_ret (results_none rfl _ _ _) rfl ?_
            exact ⟨⟨_, rfl⟩, .inr ⟨_, trivial, hJx3⟩⟩
theorem stops_stops (n : Nat) (hn : 1 ≤ n) (B : Nat) {c0 r0 c1 r1 : Nat} (b1 : c0 < 128) (b2 : c1 < 128) (b3 : r0 < 128) (b4 : r1 < 128) (w : World) (hB : B < w.heap.size) (hE : w.cell? ⟨B, 5, none⟩ = some (.int .i64 ((c1 : Int) - c0))) (hS : w.cell? ⟨B, 6, none⟩ = some (.int .i64 ((r1 : Int) - r0))) :
    SeqStopsK Fence.wide n Tryd.prog 61 #[.pointer (some ⟨B, 0, none⟩)] (fun x : St c0 r0 c1 r1 => #[Value.int .i64 (x.1.1 : Int), Value.int .i64 (x.1.2 : Int)]) (fun _ _ => True) (fun ys => ys.map Subtype.val = sts c0 r0 c1 r1) (fun _ => True) 1000 w := fun l J Jx W hW hJ _ hY h0 =>
  stops1_in n hn l B b1 b2 b3 b4 J Jx hY (fun pre W k h => hJ pre W (W.drewN k) none h (grown_drewN W k) (fun r e => by cases e)) W ((hW.cell (p := ⟨B, 5, none⟩) hB).trans hE) ((hW.cell (p := ⟨B, 6, none⟩) hB).trans hS) h0
end Go.Proofs.YtpdiefmmenfpaaaDoor
