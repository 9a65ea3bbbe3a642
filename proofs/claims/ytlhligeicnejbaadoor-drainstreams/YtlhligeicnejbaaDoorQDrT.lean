/-
  mercatorref4.FloodOf.
-/
import Derived.Test.YtlhligeicnejbaaDoorQJ12
import Derived.Deep.CutRange
import Derived.Deep.RegionHeld3
import Derived.Deep.LoopGhost
import Derived.Deep.DrawnRows
namespace Go.Proofs.YtlhligeicnejbaaDoor
open Go.RowKit
attribute [local go_sem ↓] Go.wp_at_zero Go.wp_at_succ

/-- The reference's flood in memory, made since w0. -/
structure RM (w0 w : World) (base R Q FI TO ST N : Nat) (Lf Lt Ls : List Int) (vo : Value) (ord : List Nat) : Prop where
  gr : Gr w0 w
  r : Has w R 3
  q : At w Q [.slice (some ⟨FI, 0, none⟩) N N, .slice (some ⟨TO, 0, none⟩) N N, vo]
  f : At w FI (ir Lf)
  t : At w TO (ir Lt)
  s : At w ST (ir Ls)
  ro : w.ownsRow base 3 1 vo ord.length (ir (on ord))
  b1 : (w0.heap.size ≤ R ∧ w0.heap.size ≤ Q ∧ w0.heap.size ≤ FI ∧ w0.heap.size ≤ TO ∧ w0.heap.size ≤ ST) ∧ (R < base ∧ Q < base ∧ FI < base ∧ TO < base ∧ ST < base) ∧ base ≤ w.heap.size
  b2 : Q ≠ FI ∧ Q ≠ TO ∧ Q ≠ ST ∧ FI ≠ TO ∧ FI ≠ ST ∧ TO ≠ ST ∧ R ≠ Q ∧ R ≠ FI ∧ R ≠ TO
section
variable {w0 w : World} {base R Q FI TO ST N : Nat} {Lf Lt Ls : List Int} {vo : Value} {ord : List Nat}
theorem RM.below {w' : World} (h : RM w0 w base R Q FI TO ST N Lf Lt Ls vo ord) (hB : Below w.heap.size w w') : RM w0 w' base R Q FI TO ST N Lf Lt Ls vo ord :=
  ⟨Gr.step h.gr hB, Has.below hB h.r, At.below hB h.q, At.below hB h.f, At.below hB h.t, At.below hB h.s, own_keep h.ro hB, ⟨h.b1.1, h.b1.2.1, Nat.le_trans h.b1.2.2 hB.size⟩, h.b2⟩
theorem RM.drew (h : RM w0 w base R Q FI TO ST N Lf Lt Ls vo ord) : RM w0 w.drew base R Q FI TO ST N Lf Lt Ls vo ord := ⟨h.gr.drew, h.r, h.q, h.f, h.t, h.s, h.ro, h.b1, h.b2⟩
theorem RM.drewN (h : RM w0 w base R Q FI TO ST N Lf Lt Ls vo ord) (k : Nat) : RM w0 (w.drewN k) base R Q FI TO ST N Lf Lt Ls vo ord := ⟨h.gr.drewN k, h.r, h.q, h.f, h.t, h.s, h.ro, h.b1, h.b2⟩
theorem RM.putF (h : RM w0 w base R Q FI TO ST N Lf Lt Ls vo ord) (i : Nat) (x : Int) : RM w0 (w.setCell ⟨FI, i, none⟩ (.int .i64 x)) base R Q FI TO ST N (Lf.set i x) Lt Ls vo ord := by
  obtain ⟨⟨p1, p2, p3, p4, p5⟩, ⟨p6, p7, p8, p9, p10⟩, p11⟩ := h.b1
  obtain ⟨n1, n2, n3, n4, n5, n6, n7⟩ := h.b2
  exact ⟨h.gr.set p3 i _, h.r.set _ _ _, h.q.skip (Ne.symm n1) i _, by rw [← ir_set]; exact h.f.put i _, h.t.skip n4 i _, h.s.skip n5 i _, own_set h.ro p8 i _, ⟨h.b1.1, h.b1.2.1, by simpa using p11⟩, h.b2⟩
theorem RM.putT (h : RM w0 w base R Q FI TO ST N Lf Lt Ls vo ord) (i : Nat) (x : Int) : RM w0 (w.setCell ⟨TO, i, none⟩ (.int .i64 x)) base R Q FI TO ST N Lf (Lt.set i x) Ls vo ord := by
  obtain ⟨⟨p1, p2, p3, p4, p5⟩, ⟨p6, p7, p8, p9, p10⟩, p11⟩ := h.b1
  obtain ⟨n1, n2, n3, n4, n5, n6, n7⟩ := h.b2
  exact ⟨h.gr.set p4 i _, h.r.set _ _ _, h.q.skip (Ne.symm n2) i _, h.f.skip (Ne.symm n4) i _, by rw [← ir_set]; exact h.t.put i _, h.s.skip n6 i _, own_set h.ro p9 i _, ⟨h.b1.1, h.b1.2.1, by simpa using p11⟩, h.b2⟩
theorem RM.putS (h : RM w0 w base R Q FI TO ST N Lf Lt Ls vo ord) (i : Nat) (x : Int) : RM w0 (w.setCell ⟨ST, i, none⟩ (.int .i64 x)) base R Q FI TO ST N Lf Lt (Ls.set i x) vo ord := by
  obtain ⟨⟨p1, p2, p3, p4, p5⟩, ⟨p6, p7, p8, p9, p10⟩, p11⟩ := h.b1
  obtain ⟨n1, n2, n3, n4, n5, n6, n7⟩ := h.b2
  exact ⟨h.gr.set p5 i _, h.r.set _ _ _, h.q.skip (Ne.symm n3) i _, h.f.skip (Ne.symm n5) i _, h.t.skip (Ne.symm n6) i _, by rw [← ir_set]; exact h.s.put i _, own_set h.ro p10 i _, ⟨h.b1.1, h.b1.2.1, by simpa using p11⟩, h.b2⟩
theorem RM.cf (h : RM w0 w base R Q FI TO ST N Lf Lt Ls vo ord) {i : Nat} (hi : i < Lf.length) : w.cell? ⟨FI, i, none⟩ = some (.int .i64 (gl Lf i)) ∧ w.frozen? ⟨FI, i, none⟩ = false := by rw [← gl_get hi]; exact h.f.get hi
theorem RM.ct (h : RM w0 w base R Q FI TO ST N Lf Lt Ls vo ord) {i : Nat} (hi : i < Lt.length) : w.cell? ⟨TO, i, none⟩ = some (.int .i64 (gl Lt i)) ∧ w.frozen? ⟨TO, i, none⟩ = false := by rw [← gl_get hi]; exact h.t.get hi
theorem RM.cs (h : RM w0 w base R Q FI TO ST N Lf Lt Ls vo ord) {i : Nat} (hi : i < Ls.length) : w.cell? ⟨ST, i, none⟩ = some (.int .i64 (gl Ls i)) ∧ w.frozen? ⟨ST, i, none⟩ = false := by rw [← gl_get hi]; exact h.s.get hi
theorem RM.order {w' : World} {g cap k : Nat} (h : RM w0 w base R Q FI TO ST N Lf Lt Ls vo ord) (hown : w'.ownsRow base 3 1 (.slice (some ⟨g, 0, none⟩) (ord.length + 1) cap) (ord.length + 1) (ir (on ord ++ [(k : Int)]))) (hgr : w.grownBy w' vo.ownBlock) : RM w0 (w'.setCell ⟨Q, 2, none⟩ (.slice (some ⟨g, 0, none⟩) (ord.length + 1) cap)) base R Q FI TO ST N Lf Lt Ls (.slice (some ⟨g, 0, none⟩) (ord.length + 1) cap) (ord ++ [k]) := by
  obtain ⟨⟨p1, p2, p3, p4, p5⟩, ⟨p6, p7, p8, p9, p10⟩, p11⟩ := h.b1
  obtain ⟨n1, n2, n3, n4, n5, n6, n7⟩ := h.b2
  have hv : ∀ i, i < base → vo.ownBlock ≠ some i := fun i hi e => by have := (h.ro.lt i e).1; omega
  refine ⟨Gr.set (Below.grown h.gr.out hgr h.gr.out.size (fun i e => by have := (h.ro.lt i e).1; have := h.gr.out.size; omega)) p2 2 _, Has.set ?_ _ _ _, (At.grow h.q hgr (hv _ p7)).put 2 _, (At.grow h.f hgr (hv _ p8)).skip n1 2 _, (At.grow h.t hgr (hv _ p9)).skip n2 2 _, (At.grow h.s hgr (hv _ p10)).skip n3 2 _, ?_, ⟨h.b1.1, h.b1.2.1, by have := hgr.size; simp; omega⟩, h.b2⟩
  · obtain ⟨L, h1, h2⟩ := h.r
    exact ⟨L, h1, At.grow h2 hgr (hv _ p6)⟩
  · have e : on (ord ++ [k]) = on ord ++ [(k : Int)] := by simp [on]
    rw [List.length_append, e]
    exact own_set hown p7 2 _
end
theorem wpList_i1 {ops : Array Oper} {rest : List Oper} {o : Oper} {a : Act} {Q : Exit → Act → World → Prop} (W : World) (b0 : Nat) (v : Value) (l : List Int) (r : Int) (n B : Nat) (s x : Operand) (hgd : o.guard = none)
    (ho : o.op = .call { callee := .builtin .append, args := #[s, x], argTypes := #[30, 30] }) (hs : a.eval s = v) (hx : a.eval x = .slice (some ⟨B, 0, none⟩) 1 1) (hn : l.length = n) (hl : n ≤ 20000)
    (hO : W.ownsRow b0 3 1 v n (ir l)) (hN : At W B [.int .i64 r]) (hb : b0 ≤ W.heap.size)
    (h : ∀ g cap w', Hid (w'.ownsRow b0 3 1 (.slice (some ⟨g, 0, none⟩) (n + 1) cap) (n + 1) (ir (l ++ [r]))) → Hid (W.grownBy w' v.ownBlock) → wpList Tryd.prog ops Q rest (a.put o.dst (.slice (some ⟨g, 0, none⟩) (n + 1) cap)) w') : wpList Tryd.prog ops Q (o :: rest) a W := by
  have hml : 30000 ≤ maxLen := by decide
  obtain ⟨i0, hi, hz0, hz1, hz2⟩ := info_parts infoJ
  refine wpList_append_own _ hgd s x _ ho b0 _ i0 (.int .i64 0) 1 8 undI hi hz0 hz1 hz2 rfl (by decide) v n (ir l) hs hO ⟨B, 0, none⟩ 1 1 [.int .i64 r] hx rfl ?_ ?_ (by omega) (by omega) hb ?_
  · intro j u hu
    match j with
    | 0 => simp at hu; subst hu; exact (hN.1 0 (by simp)).1
    | j + 1 => simp at hu
  · intro u hu; simp at hu; subst hu; rfl
  · intro v' w' hown hgrow _
    rw [ir_snoc] at hown
    obtain ⟨g, cap, rfl⟩ : ∃ g cap, v' = .slice (some ⟨g, 0, none⟩) (n + 1) cap := by
      obtain ⟨_, ⟨_, h0⟩ | ⟨g, cap, cur, hv, _⟩⟩ := hown
      · omega
      · exact ⟨g, cap, hv⟩
    exact h g cap w' hown hgrow
theorem At.nyArr (W : World) (o p : Obj) (cs : Array Value) (t : Nat) : At (((W.alloc o).alloc p).alloc (.cells cs t)) (W.heap.size + 1 + 1) cs.toList := by
  have := At.newArr ((W.alloc o).alloc p) cs t
  simpa using this
theorem own_shape1' {w : World} {base : Nat} {v : Value} {n e : Nat} {xs : List Value} (h : w.ownsRow base e 1 v n xs) : ∃ ad cap, v = .slice ad n cap := by
  obtain ⟨_, ⟨rfl, rfl⟩ | ⟨g, cap, cur, hv, _⟩⟩ := h
  · exact ⟨none, 0, rfl⟩
  · exact ⟨_, _, hv⟩
/-- The first three blocks. -/
structure R2 (w0 w : World) (low R Q FI TO N : Nat) : Prop where
  gr : Gr w0 w
  r : Has w R 3
  q : At w Q [.slice (some ⟨FI, 0, none⟩) N N, .slice (some ⟨TO, 0, none⟩) N N, .slice none 0 0]
  f : At w FI (ir (List.replicate N 0))
  t : At w TO (ir (List.replicate N 0))
  b : (low ≤ Q ∧ low ≤ FI ∧ low ≤ TO) ∧ (w0.heap.size ≤ R ∧ R < low) ∧ (Q ≠ FI ∧ Q ≠ TO ∧ FI ≠ TO)
theorem R2.ex {w0 w : World} {low R Q FI TO N : Nat} {s : Value} (hs : s = .pointer (some ⟨Q, 0, none⟩)) (q : At w Q [.slice (some ⟨FI, 0, none⟩) N N, .slice (some ⟨TO, 0, none⟩) N N, .slice none 0 0]) (gr : Gr w0 w) (r : Has w R 3) (f : At w FI (ir (List.replicate N 0))) (t : At w TO (ir (List.replicate N 0))) (b : (low ≤ Q ∧ low ≤ FI ∧ low ≤ TO) ∧ (w0.heap.size ≤ R ∧ R < low) ∧ (Q ≠ FI ∧ Q ≠ TO ∧ FI ≠ TO)) : ∃ Q FI TO, s = .pointer (some ⟨Q, 0, none⟩) ∧ Hid (R2 w0 w low R Q FI TO N) := ⟨Q, FI, TO, hs, gr, r, q, f, t, b⟩
theorem R2.rm {w0 w : World} {low R Q FI TO N t : Nat} {CS : Array Value} (h : R2 w0 w low R Q FI TO N) (hC : CS.toList = ir (List.replicate N 0)) : RM w0 (w.alloc (.cells CS t)) (w.heap.size + 1) R Q FI TO w.heap.size N (List.replicate N 0) (List.replicate N 0) (List.replicate N 0) (.slice none 0 0) [] := by
  have k1 := h.q.lt
  have k2 := h.f.lt
  have k3 := h.t.lt
  obtain ⟨⟨p1, p2, p3⟩, ⟨p4, p5⟩, n1, n2, n3⟩ := h.b
  refine ⟨h.gr.alloc _, h.r.alloc _, h.q.alloc _, h.f.alloc _, h.t.alloc _, by rw [← hC]; exact At.newArr _ _ _, World.ownsRow_nil _ _ _ _, ⟨⟨p4, by omega, by omega, by omega, h.gr.out.size⟩, ⟨by omega, by omega, by omega, by omega, by omega⟩, by simp⟩, n1, n2, by omega, n3, by omega, by omega, by omega, by omega, by omega⟩
/-- What FloodOf answers. -/
def FOk (w w' : World) (m n : Nat) (l : List Int) (N : Nat) (e : Ending) : Prop := ∃ FI TO base vo Lf Lt Ls, e = .returned (.agg #[.slice (some ⟨FI, 0, none⟩) N N, .slice (some ⟨TO, 0, none⟩) N N, vo]) ∧ At w' FI (ir Lf) ∧ At w' TO (ir Lt) ∧ w'.ownsRow base 3 1 vo (flo m n l N).ord.length (ir (on (flo m n l N).ord)) ∧ (w.heap.size ≤ FI ∧ w.heap.size ≤ TO ∧ w.heap.size ≤ base) ∧ RSy l (flo m n l N) Lf Lt Ls ∧ Gr w w'
set_option maxRecDepth 4000 in
set_option maxHeartbeats 16000000 in
theorem floodOf_any {pb po m n Lb Lo Lcap : Nat} {l : List Int} (w : World) (hp : PtR w pb po m n (.slice (some ⟨Lb, Lo, none⟩) l.length Lcap)) (hR : Rs w Lb Lo Lcap l) (ok : Ok l m n) : Calls Tryd.prog 10 #[.pointer (some ⟨pb, po, none⟩)] w fun e w' => FOk w w' m n l l.length e := by
  have hlen := ok.len_le
  obtain ⟨CS, hCS, mk⟩ := made_run l.length (by omega)
  have HCS := hidb hCS
  have HOk := hidb ok
  have HR := hidb hR
  have HP := hidb hp
  have HL := hidb (show l.length ≤ 16384 from hlen)
  have HRm := hidb (fun k (hk : k < l.length) W (hG : Gr w W) => isRim_any (n := n) l.length k ok.m1 ok.len hlen hk W (hp.below hG.out))
  have HTc := hidb (fun i k (hi : i < l.length) (hk : k < l.length) W (hG : Gr w W) => touchOf_any i k ok.m1 (by omega) (by omega) W (hp.below hG.out))
  obtain ⟨N, hN⟩ : ∃ N, N = l.length := ⟨_, rfl⟩
  have HN := hidb hN
  have hlt : pb < w.heap.size := lt_of_cell hp.c0
  rw [← hN] at mk HCS HP ⊢
  have p2 := ((HP.out.below ((Below.refl _ w).alloc (Nat.le_refl _) (.cells #[.slice none 0 0, .slice none 0 0, .slice none 0 0] 38))).c2)
  clear hp hR ok hlen hCS hN
  go_enter Tryd.func10, Tryd.ntmps10
  go_upto_region 2 with fail
  have G1 := (Gr.refl w).alloc (.cells #[.slice none 0 0, .slice none 0 0, .slice none 0 0] 38)
  have R1 := Has.new3 w (.slice none 0 0) (.slice none 0 0) (.slice none 0 0) 38
  have hs1 : (w.alloc (.cells #[.slice none 0 0, .slice none 0 0, .slice none 0 0] 38)).heap.size = w.heap.size + 1 := by simp
  generalize w.alloc (.cells #[.slice none 0 0, .slice none 0 0, .slice none 0 0] 38) = w1 at *
  have HG1 := hidb G1
  have HR1 := hidb R1
  have HS1 := hidb hs1
  clear G1 R1 hs1 p2
  go_cut [4] from 17 to 21 (fun s4 wx => ∃ Q FI TO, s4 = .pointer (some ⟨Q, 0, none⟩) ∧ Hid (R2 w wx w1.heap.size w.heap.size Q FI TO N))
  case first =>
    go_region_law (fail)
    all_goals
      go_wp2_with fail
      go_meet
      have hs1 := HS1.out
      have hg1 := HG1.out
      have hr1 := HR1.out
      refine R2.ex (FI := ?_) (TO := ?_) rfl ?_ ?_ ?_ ?_ ?_ ?_
      rotate_left 2
      · with_reducible repeat' (first | exact At.new3 _ _ _ _ _ | exact At.nx3 _ _ _ _ _ | exact At.ny3 _ _ _ _ _ _ | refine At.alloc ?_ _ | refine At.drew ?_)
      · ((with_reducible repeat' (first | assumption | refine Gr.drew ?_ | refine Gr.alloc ?_ _ | refine Gr.set ?_ (by first | omega | (simp; omega)) _ _ | exact Gr.refl _)); done)
      · ((with_reducible repeat' (first | assumption | exact At.new1 _ _ _ | exact At.new2 _ _ _ _ | exact At.new3 _ _ _ _ _ | exact At.nx1 _ _ _ | exact At.nx2 _ _ _ _ | exact At.nx3 _ _ _ _ _ | exact At.ny1 _ _ _ _ | exact At.ny2 _ _ _ _ _ | exact At.ny3 _ _ _ _ _ _ | exact At.nz1 _ _ _ _ _ | exact At.nz2 _ _ _ _ _ _ | exact At.nz3 _ _ _ _ _ _ _ | exact Has.new1 _ _ _ | exact Has.new2 _ _ _ _ | exact Has.new3 _ _ _ _ _ | exact Has.nx1 _ _ _ | exact Has.nx2 _ _ _ _ | exact Has.nx3 _ _ _ _ _ | exact Has.ny1 _ _ _ _ | exact Has.ny2 _ _ _ _ _ | exact Has.ny3 _ _ _ _ _ _ | exact Has.nz1 _ _ _ _ _ | exact Has.nz2 _ _ _ _ _ _ | exact Has.nz3 _ _ _ _ _ _ _ | refine At.fill1 ?_ _ | refine At.fill2 ?_ _ _ | refine At.fill3 ?_ _ _ _ | refine At.swap ?_ (by first | omega | (simp; omega)) _ _ | refine At.alloc ?_ _ | refine At.drew ?_ | refine At.skip ?_ (by first | omega | (simp; omega)) _ _ | refine At.below (by assumption) ?_ | refine Has.alloc ?_ _ | refine Has.drew ?_ | refine Has.set ?_ _ _ _ | refine Has.below (by assumption) ?_)); done)
      · rw [← HCS.out]; (with_reducible repeat' (first | exact At.newArr _ CS _ | exact At.nxArr _ _ CS _ | exact At.nyArr _ _ _ CS _ | refine At.alloc ?_ _ | refine At.drew ?_)); done
      · rw [← HCS.out]; (with_reducible repeat' (first | exact At.newArr _ CS _ | exact At.nxArr _ _ CS _ | exact At.nyArr _ _ _ CS _ | refine At.alloc ?_ _ | refine At.drew ?_)); done
      · refine ⟨⟨?_, ?_, ?_⟩, ⟨?_, ?_⟩, ?_, ?_, ?_⟩ <;> omega
  case rest =>
    obtain ⟨Q, FI, TO, rfl, E0⟩ := hcut
    clear HG1 HR1 HS1
    have E1 := hidb (E0.out.rm (t := 3) HCS.out)
    obtain ⟨base, hbase⟩ : ∃ z, z = wc.heap.size + 1 := ⟨_, rfl⟩
    obtain ⟨ST, hST⟩ : ∃ z, z = wc.heap.size := ⟨_, rfl⟩
    rw [← hbase] at E1
    clear hbase E0 HCS
    go_wp2
    rw [← hST] at E1 ⊢
    generalize wc.alloc (.cells CS 3) = w2 at *
    clear hST mk
    have HLt := hidb (show pb < w.heap.size ∧ Lb < w.heap.size from ⟨hlt, HR.out.lt⟩)
    clear hlt
    go_wp2
    go_loopw [6] (fun t wr => ∃ (k : Nat) (Lf Lt Ls : List Int), k ≤ N ∧ t = .int .i64 (k : Int) ∧ Hid (RM w wr base w.heap.size Q FI TO ST N Lf Lt Ls (.slice none 0 0) [] ∧ RS0 m n l k Lf Lt Ls)) (fun t _ => N - (intOf t).toNat)
    case atStart => exact ⟨0, _, _, _, Nat.zero_le _, rfl, hidb ⟨E1.out, by rw [HN.out]; exact RS0.zero m n l⟩⟩
    case round =>
      clear E1
      obtain ⟨k, Lf, Lt, Ls, hk, rfl, E⟩ := hrel
      by_cases h1 : k < N
      · have h1' : (k : Int) < (N : Int) := by omega
        have hkl : k < l.length := by rw [← HN.out]; exact h1
        have e1 : IntKind.i64.wrap ((k : Int) + 1) = ((k + 1 : Nat) : Int) := by rw [show (k : Int) + 1 = ((k + 1 : Nat) : Int) by omega]; exact wrap_in (by have := HL.out; omega) (by have := HL.out; omega)
        have ixT := iindex TO 0 N N k h1
        have ixF := iindex FI 0 N N k h1
        have ixS := iindex ST 0 N N k h1
        have ixL := iindex Lb Lo N Lcap k h1
        rw [Nat.zero_add] at ixT ixF ixS
        obtain ⟨cq0, cq1, -⟩ := E.out.1.q.c3
        obtain ⟨cT, fT⟩ := E.out.1.ct (i := k) (by have := E.out.2.ll; omega)
        have HK := hidb hkl
        generalize gl Lt k = zt at cT
        by_cases hr : rim m n k
        · have HC := hidb (HRm.out k hkl)
          rw [decide_eq_true hr] at HC
          have HRr := hidb (RS0.rim m n l E.out.2 hkl hr)
          have hE := E.out.1.putT k (-1)
          have HG := hidb hE.gr
          have HE := hidb hE
          clear hE hkl hr
          go_wp2_with fail
          refine (HC.out _ HG.out).mono ?_
          rintro e w4 ⟨rfl, hB⟩
          replace HE := hidb (HE.out.below hB.out)
          clear hB cq0 cq1 cT fT HG HC
          obtain ⟨cq0, cq1, -⟩ := HE.out.q.c3
          obtain ⟨cT, fT⟩ := HE.out.ct (i := k) (by have := E.out.2.ll; have := HK.out; simp; omega)
          obtain ⟨cF, fF⟩ := HE.out.cf (i := k) (by have := E.out.2.ll; have := HK.out; omega)
          obtain ⟨cS, fS⟩ := HE.out.cs (i := k) (by have := E.out.2.ll; have := HK.out; omega)
          have p2 := (HP.out.below HE.out.gr.out).c2
          have cL := (HR.out.below HE.out.gr.out).get HK.out
          generalize gl (Lt.set k (-1)) k = zt2 at cT
          generalize gl Lf k = zf at cF
          generalize gl Ls k = zs at cS
          generalize gl l k = zl at *
          have b1 := E.out.1.b1
          have b2 := E.out.1.b2
          have lp := HLt.out
          have u1 : ¬ TO = Q := fun e => b2.2.1 e.symm
          have u2 : ¬ Q = TO := b2.2.1
          have u3 : ¬ FI = Q := fun e => b2.1 e.symm
          have u4 : ¬ Q = FI := b2.1
          have u5 : ¬ ST = Q := fun e => b2.2.2.1 e.symm
          have u6 : ¬ Q = ST := b2.2.2.1
          have u7 : ¬ FI = TO := b2.2.2.2.1
          have u8 : ¬ TO = FI := fun e => b2.2.2.2.1 e.symm
          have u9 : ¬ FI = ST := b2.2.2.2.2.1
          have u10 : ¬ ST = FI := fun e => b2.2.2.2.2.1 e.symm
          have u11 : ¬ TO = ST := b2.2.2.2.2.2.1
          have u12 : ¬ ST = TO := fun e => b2.2.2.2.2.2.1 e.symm
          have u13 : ¬ TO = pb := by omega
          have u14 : ¬ TO = Lb := by omega
          have u15 : ¬ ST = pb := by omega
          have u16 : ¬ ST = Lb := by omega
          have u17 : ¬ FI = pb := by omega
          have u18 : ¬ FI = Lb := by omega
          clear b1 b2 lp
          clear h1
          go_upto_region 11 with fail
          go_region_law (fail)
          all_goals
            go_wp2
            go_roundw
          all_goals first
            | (case rel => exact ⟨k + 1, _, _, _, by omega, by go_num, hidb ⟨by with_reducible first | exact ((HE.out.putT k _).putF k _).putS k _ | exact (((HE.out.putT k _).putF k _).putS k _).drew, HRr.out⟩⟩)
            | (case measure => simp [intOf]; omega)
        · have HC := hidb (HRm.out k hkl)
          rw [decide_eq_false hr] at HC
          have HRr := hidb (RS0.not m n l E.out.2 hkl hr)
          have hE := E.out.1.putT k (-1)
          have HG := hidb hE.gr
          have HE := hidb hE
          clear hE hkl hr h1
          go_wp2_with fail
          refine (HC.out _ HG.out).mono ?_
          rintro e w4 ⟨rfl, hB⟩
          replace HE := hidb (HE.out.below hB.out)
          clear hB cq0 cq1 cT fT HG HC
          go_wp2
          go_roundw
          case rel => exact ⟨k + 1, Lf, _, Ls, by omega, rfl, hidb ⟨HE.out, HRr.out⟩⟩
          case measure => simp [intOf]; omega
      · have h1' : ¬ (k : Int) < (N : Int) := by omega
        have HE : Hid (RM w wr base w.heap.size Q FI TO ST N Lf Lt Ls (.slice none 0 0) (flo m n l 0).ord ∧ RSy l (flo m n l 0) Lf Lt Ls) := ⟨E.out.1, by
          have hkN : k = l.length := by rw [← HN.out]; omega
          have := E.out.2
          rw [hkN] at this
          exact this.all⟩
        clear E h1 hk HRm
        generalize (Value.slice none 0 0 : Value) = vo0 at HE
        go_wp2
        go_loopg [] N (fun gk wr => ∃ (j : Nat) (Lf Lt Ls : List Int) (vo : Value), Hid (gk + j = N) ∧ Hid (RM w wr base w.heap.size Q FI TO ST N Lf Lt Ls vo (flo m n l j).ord ∧ RSy l (flo m n l j) Lf Lt Ls))
        case atStart => exact ⟨0, Lf, Lt, Ls, vo0, hidb rfl, HE⟩
        case round =>
          clear HE
          obtain ⟨j, Lf, Lt, Ls, vo, HJ, E⟩ := hrel
          have HFI := hidb (flo_inv m n l HOk.out.m1 HOk.out.len j (by have := HJ.out; have := HN.out; omega))
          obtain ⟨ad1, cap1, rfl⟩ := own_shape1' E.out.1.ro
          rw [HFI.out.2] at E
          obtain ⟨cq0, cq1, cq2⟩ := E.out.1.q.c3
          by_cases h1 : ¬ j < N
          · have hj : j = N := by have := HJ.out; omega
            have h1' : ¬ (j : Int) < (N : Int) := by omega
            obtain ⟨L3, hL3, hA3⟩ := E.out.1.r
            obtain ⟨r0, r1, r2, rfl⟩ := list3 hL3
            obtain ⟨d0, d1, d2⟩ := hA3.c3
            obtain ⟨f0, f1, f2⟩ := hA3.f3
            have b1 := E.out.1.b1
            have b2 := E.out.1.b2
            have nRQ : ¬ w.heap.size = Q := b2.2.2.2.2.2.2.1
            have nQR : ¬ Q = w.heap.size := fun e => b2.2.2.2.2.2.2.1 e.symm
            have HF : Hid (At wr FI (ir Lf) ∧ At wr TO (ir Lt) ∧ wr.ownsRow base 3 1 (.slice ad1 j cap1) (flo m n l j).ord.length (ir (on (flo m n l j).ord)) ∧ (w.heap.size ≤ FI ∧ w.heap.size ≤ TO ∧ w.heap.size ≤ base) ∧ RSy l (flo m n l j) Lf Lt Ls ∧ Gr w wr ∧ w.heap.size < base) := ⟨E.out.1.f, E.out.1.t, E.out.1.ro, ⟨b1.1.2.2.1, b1.1.2.2.2.1, by omega⟩, E.out.2, E.out.1.gr, b1.2.1.1⟩
            have HFn := hidb (show ¬ w.heap.size = FI ∧ ¬ w.heap.size = TO from b2.2.2.2.2.2.2.2)
            subst hj
            clear E HFI b1 b2 h1 hA3 hL3
            go_wp2
            refine bodyPost_ret (v := .agg #[.slice (some ⟨FI, 0, none⟩) j j, .slice (some ⟨TO, 0, none⟩) j j, .slice ad1 j cap1]) (by simp [results, Tryd.results10, go_sem, d0, d1, d2]) rfl ⟨FI, TO, base, .slice ad1 j cap1, Lf, Lt, Ls, rfl, ?_, ?_, ?_, HF.out.2.2.2.1, HF.out.2.2.2.2.1, ?_⟩
            · exact ((HF.out.1.skip HFn.out.1 _ _).skip HFn.out.1 _ _).skip HFn.out.1 _ _
            · exact ((HF.out.2.1.skip HFn.out.2 _ _).skip HFn.out.2 _ _).skip HFn.out.2 _ _
            · exact own_set (own_set (own_set HF.out.2.2.1 HF.out.2.2.2.2.2.2 _ _) HF.out.2.2.2.2.2.2 _ _) HF.out.2.2.2.2.2.2 _ _
            · exact ((HF.out.2.2.2.2.2.1.set (Nat.le_refl _) _ _).set (Nat.le_refl _) _ _).set (Nat.le_refl _) _ _
          · have h1 : j < N := Classical.not_not.1 h1
            have h1' : (j : Int) < (N : Int) := by omega
            obtain ⟨b, hb⟩ := flo_some m n l HOk.out.m1 HOk.out.len (k := j) (by rw [← HN.out]; exact h1)
            have HBs := hidb hb
            have HNx := hidb (flo_next m n l hb)
            have Hj := hidb h1
            generalize flo m n l j = S at *
            clear hb h1
            go_wp2
            clear cq0 cq1 cq2
            go_loopw [8, 9] (fun s t wr' => ∃ k : Nat, k ≤ N ∧ s = .int .i64 (bsI S k) ∧ t = .int .i64 (k : Int) ∧ Hid (Gr wr wr')) (fun _ t _ => N - (intOf t).toNat)
            case atStart => exact ⟨0, Nat.zero_le _, rfl, rfl, hidb (Gr.refl wr)⟩
            case round =>
              obtain ⟨k, hk, rfl, rfl, G⟩ := hrel
              by_cases h1 : k < N
              · have h1'' : (k : Int) < (N : Int) := by omega
                have hkl : k < l.length := by rw [← HN.out]; exact h1
                have e1 : IntKind.i64.wrap ((k : Int) + 1) = ((k + 1 : Nat) : Int) := by rw [show (k : Int) + 1 = ((k + 1 : Nat) : Int) by omega]; exact wrap_in (by have := HL.out; omega) (by have := HL.out; omega)
                have ixF := iindex FI 0 N N k h1
                have ixS := iindex ST 0 N N k h1
                rw [Nat.zero_add] at ixF ixS
                have EE := E.out.1.below G.out.out
                obtain ⟨cq0, -, -⟩ := EE.q.c3
                obtain ⟨cF, -⟩ := EE.cf (i := k) (by have := E.out.2.ll; omega)
                obtain ⟨cS, -⟩ := EE.cs (i := k) (by have := E.out.2.ll; omega)
                rw [E.out.2.s k hkl] at cS
                rw [E.out.2.f k hkl] at cF
                have HS1 : Hid (bst S (k + 1) = if S.st k = 1 ∧ (∀ b, bst S k = some b → S.fi k < S.fi b) then some k else bst S k) := rfl
                by_cases hs : S.st k = 1
                · have e2 : ((S.st k : Nat) : Int) = 1 := by rw [hs]; rfl
                  rw [e2] at cS
                  cases hq : bst S k with
                  | none =>
                    have hb0 : bsI S k = -1 := by unfold bsI; rw [hq]
                    have HB1 : Hid (bsI S (k + 1) = (k : Int)) := by
                      show _ = _
                      unfold bsI
                      rw [HS1.out, if_pos ⟨hs, fun b hb => by rw [hq] at hb; cases hb⟩]
                    rw [hb0]
                    generalize S.fi k = zf at *
                    clear EE hkl HS1 hs e2 hq hb0
                    go_upto_region 18 with fail
                    go_quiet (fail)
                    go_wp2
                    go_roundw
                    case rel => exact ⟨k + 1, by omega, by rw [HB1.out], by go_num, by first | exact hidb (G.out.drewN _) | exact hidb G.out.drew | exact G⟩
                    case measure => simp [intOf]; omega
                  | some bb =>
                    have hb0 : bsI S k = (bb : Int) := by unfold bsI; rw [hq]
                    have hbk := ((bst_is S k).1 bb hq).1
                    obtain ⟨cB, -⟩ := EE.cf (i := bb) (by have := E.out.2.ll; omega)
                    rw [E.out.2.f bb (by omega)] at cB
                    have ixB := iindex FI 0 N N bb (by omega)
                    rw [Nat.zero_add] at ixB
                    have nb : ¬ (bb : Int) < 0 := by omega
                    by_cases hlt : S.fi k < S.fi bb
                    · have HB1 : Hid (bsI S (k + 1) = (k : Int)) := by
                        show _ = _
                        unfold bsI
                        rw [HS1.out, if_pos ⟨hs, fun b hb => by rw [hq] at hb; obtain rfl := Option.some.inj hb; exact hlt⟩]
                      rw [hb0]
                      generalize S.fi k = zf at *
                      generalize S.fi bb = zb at *
                      obtain ⟨bI, hbI⟩ : ∃ z : Int, z = (bb : Int) := ⟨_, rfl⟩
                      rw [← hbI] at ixB nb ⊢
                      clear EE hkl HS1 hs e2 hq hb0 hbk hbI
                      go_upto_region 18 with fail
                      go_quiet (fail)
                      go_wp2
                      go_roundw
                      case rel => exact ⟨k + 1, by omega, by rw [HB1.out], by go_num, by first | exact hidb (G.out.drewN _) | exact hidb G.out.drew | exact G⟩
                      case measure => simp [intOf]; omega
                    · have HB1 : Hid (bsI S (k + 1) = (bb : Int)) := by
                        show _ = _
                        unfold bsI
                        rw [HS1.out, if_neg (fun h => hlt (h.2 bb hq)), hq]
                      rw [hb0]
                      generalize S.fi k = zf at *
                      generalize S.fi bb = zb at *
                      obtain ⟨bI, hbI⟩ : ∃ z : Int, z = (bb : Int) := ⟨_, rfl⟩
                      rw [← hbI] at ixB nb HB1 ⊢
                      clear EE hkl HS1 hs e2 hq hb0 hbk hbI
                      go_upto_region 18 with fail
                      go_quiet (fail)
                      go_wp2
                      go_roundw
                      case rel => exact ⟨k + 1, by omega, by rw [HB1.out], by go_num, by first | exact hidb (G.out.drewN _) | exact hidb G.out.drew | exact G⟩
                      case measure => simp [intOf]; omega
                · have HB1 : Hid (bsI S (k + 1) = bsI S k) := by
                    show _ = _
                    unfold bsI
                    rw [HS1.out, if_neg (fun h => hs h.1)]
                  have e2 : (((S.st k : Nat) : Int) == 1) = false := by rw [beq_eq_false_iff_ne]; omega
                  generalize ((S.st k : Nat) : Int) = zs at *
                  generalize S.fi k = zf at *
                  generalize bsI S k = bI at *
                  clear EE hkl HS1 hs
                  go_upto_region 18 with fail
                  go_quiet (fail)
                  go_wp2
                  go_roundw
                  case rel => exact ⟨k + 1, by omega, by rw [HB1.out], by go_num, by first | exact hidb (G.out.drewN _) | exact hidb G.out.drew | exact G⟩
                  case measure => simp [intOf]; omega
              · have hkN : k = N := by omega
                have hkI : ¬ (k : Int) < (N : Int) := by omega
                have HEnd : Hid (bsI S k = (b : Int)) := by
                  show _ = _
                  unfold bsI
                  rw [hkN, HN.out, bst_of HBs.out]
                have E4 := hidb (show RM w wr base w.heap.size Q FI TO ST N Lf Lt Ls (.slice ad1 j cap1) S.ord ∧ RSy l S Lf Lt Ls from ⟨E.out.1.below G.out.out, E.out.2⟩)
                clear E G
                have hbl := HBs.out.1
                have hbN : b < N := by rw [HN.out]; exact hbl
                rw [HEnd.out]
                have ixS := iindex ST 0 N N b hbN
                rw [Nat.zero_add] at ixS
                obtain ⟨cS, fS⟩ := E4.out.1.cs (i := b) (by have := E4.out.2.ll; omega)
                generalize gl Ls b = zs at cS
                have HE5 := hidb (show RM w (wr.setCell ⟨ST, b, none⟩ (.int .i64 2)) base w.heap.size Q FI TO ST N Lf Lt (Ls.set b 2) (.slice ad1 j cap1) S.ord ∧ RSy l (stC m l S b 0) Lf Lt (Ls.set b 2) from ⟨E4.out.1.putS b 2, E4.out.2.take m l hbl HBs.out.2.1⟩)
                obtain ⟨bI, hbI⟩ : ∃ z : Int, z = (b : Int) := ⟨_, rfl⟩
                have HbI := hidb hbI
                have Hb := hidb (show b < N ∧ b < l.length from ⟨hbN, hbl⟩)
                rw [← hbI] at ixS ⊢
                clear E4 hbl hbN hbI hkN HEnd hk h1
                go_upto_region 21 with fail
                generalize wr.setCell ⟨ST, b, none⟩ (.int .i64 2) = w5 at *
                clear cS fS ixS
                obtain ⟨-, -, cq2⟩ := HE5.out.1.q.c3
                have fq2 := HE5.out.1.q.f3.2.2
                have lQ := HE5.out.1.q.lt
                have nQ : ¬ Q = w5.heap.size := by omega
                have hvo : Hid ((Value.slice ad1 j cap1).ownBlock ≠ some Q) := fun e => by have := (HE5.out.1.ro.lt Q e).1; have := HE5.out.1.b1; omega
                have HSl := hidb (show S.ord.length = j ∧ j ≤ 16384 from ⟨HFI.out.2, by have := HL.out; have := HN.out; have := Hj.out; omega⟩)
                go_wp2_with (at_builtin; refine wpList_i1 _ base (.slice ad1 j cap1) (on S.ord) bI S.ord.length w5.heap.size _ _ rfl rfl rfl rfl (by simp) (by have := HSl.out; omega) (HE5.out.1.ro.alloc _) (At.new1 _ _ _) (by have := HE5.out.1.b1; simp; omega) ?_)
                intro gg cap2 w6 hown6 hgrow6
                have hq6 := At.grow (HE5.out.1.q.alloc (.cells #[.int .i64 bI] 3)) hgrow6.out hvo.out
                have c6 := hq6.c3.2.2
                have f6 := hq6.f3.2.2
                have HE6 : Hid (RM w (w6.setCell ⟨Q, 2, none⟩ (.slice (some ⟨gg, 0, none⟩) (S.ord.length + 1) cap2)) base w.heap.size Q FI TO ST N Lf Lt (Ls.set b 2) (.slice (some ⟨gg, 0, none⟩) (S.ord.length + 1) cap2) (S.ord ++ [b]) ∧ RSy l (stC m l S b 0) Lf Lt (Ls.set b 2)) := by
                  refine ⟨RM.order (HE5.out.1.below ((Below.refl _ _).alloc (Nat.le_refl _) _)) ?_ hgrow6.out, HE5.out.2⟩
                  rw [← HbI.out]
                  have h6 := hown6.out
                  simpa [ir, on] using h6
                clear hown6 hgrow6 HE5 cq2 fq2 lQ nQ hvo hq6
                go_wp2
                generalize w6.setCell ⟨Q, 2, none⟩ (.slice (some ⟨gg, 0, none⟩) (S.ord.length + 1) cap2) = w7 at *
                clear c6 f6
                generalize hvo2 : Value.slice (some ⟨gg, 0, none⟩) (S.ord.length + 1) cap2 = vo2 at *
                clear hvo2
                go_loopw [10] (fun t wr => ∃ (k : Nat) (Lf Lt Ls : List Int), k ≤ N ∧ t = .int .i64 (k : Int) ∧ Hid (RM w wr base w.heap.size Q FI TO ST N Lf Lt Ls vo2 (S.ord ++ [b]) ∧ RSy l (stC m l S b k) Lf Lt Ls)) (fun t _ => N - (intOf t).toNat)
                case atStart => exact ⟨0, _, _, _, Nat.zero_le _, rfl, HE6⟩
                case round =>
                  clear HE6
                  obtain ⟨k, Lf, Lt, Ls, hk, rfl, E⟩ := hrel
                  by_cases h1 : k < N
                  · have h1'' : (k : Int) < (N : Int) := by omega
                    have hkl : k < l.length := by rw [← HN.out]; exact h1
                    have e1 : IntKind.i64.wrap ((k : Int) + 1) = ((k + 1 : Nat) : Int) := by rw [show (k : Int) + 1 = ((k + 1 : Nat) : Int) by omega]; exact wrap_in (by have := HL.out; omega) (by have := HL.out; omega)
                    have HC := hidb (HTc.out b k Hb.out.2 hkl wr E.out.1.gr)
                    rw [← HbI.out] at HC
                    have HK := hidb hkl
                    have Hk := hidb h1
                    have HSt := hidb (fun (h : k ≠ b) => stC_st m l (S := S) (b := b) (k := k) h)
                    by_cases ht : tch m b k
                    · rw [decide_eq_true ht] at HC
                      have ixS := iindex ST 0 N N k h1
                      rw [Nat.zero_add] at ixS
                      have HT := hidb ht
                      have hkb : k ≠ b := fun e => ht.1 e.symm
                      clear h1
                      go_wp2_with fail
                      refine HC.out.mono ?_
                      rintro e w8 ⟨rfl, hB⟩
                      have HE := hidb (show RM w w8 base w.heap.size Q FI TO ST N Lf Lt Ls vo2 (S.ord ++ [b]) ∧ RSy l (stC m l S b k) Lf Lt Ls from ⟨E.out.1.below hB.out, E.out.2⟩)
                      clear E hB HC
                      obtain ⟨cS, fS⟩ := HE.out.1.cs (i := k) (by have := HE.out.2.ll; omega)
                      rw [HE.out.2.s k hkl, HSt.out hkb] at cS
                      by_cases hs : S.st k = 0
                      · have HN0 := hidb (show New m l S b k from ⟨hkl, hs, ht⟩)
                        have HRn := hidb (HE.out.2.new m l HN0.out)
                        rw [hs] at cS
                        obtain ⟨cq0, cq1, -⟩ := HE.out.1.q.c3
                        obtain ⟨cT, fT⟩ := HE.out.1.ct (i := k) (by have := HE.out.2.ll; omega)
                        obtain ⟨cF, fF⟩ := HE.out.1.cf (i := k) (by have := HE.out.2.ll; omega)
                        obtain ⟨cB, fB⟩ := HE.out.1.cf (i := b) (by have := HE.out.2.ll; have := Hb.out; omega)
                        have hfb : (stC m l S b k).fi b = S.fi b := if_neg (fun h => by have := h.1.2.1; have := HBs.out.2.1; omega)
                        rw [HE.out.2.f b Hb.out.2, hfb] at cB
                        have p2 := (HP.out.below HE.out.1.gr.out).c2
                        have cL := (HR.out.below HE.out.1.gr.out).get hkl
                        have ixT := iindex TO 0 N N k Hk.out
                        have ixF := iindex FI 0 N N k Hk.out
                        have ixB := iindex FI 0 N N b Hb.out.1
                        have ixL := iindex Lb Lo N Lcap k Hk.out
                        rw [Nat.zero_add] at ixT ixF ixB
                        rw [← HbI.out] at ixB HRn
                        have nkb : ¬ k = b := hkb
                        have nbk : ¬ b = k := fun e => hkb e.symm
                        have hklx := hidb hkl
                        generalize gl Lt k = zt at cT
                        generalize gl Lf k = zf at cF
                        obtain ⟨zl, hzl⟩ : ∃ z, gl l k = z := ⟨_, rfl⟩
                        obtain ⟨zb, hzb⟩ : ∃ z, S.fi b = z := ⟨_, rfl⟩
                        rw [hzl, hzb] at HRn
                        rw [hzl] at cL
                        have hfB : gl Lf b = zb := by rw [HE.out.2.f b Hb.out.2, hfb, hzb]
                        have Hzl := hidb hzl
                        have Hzb := hidb hfB
                        clear cB hzl hzb hfB
                        have b1 := HE.out.1.b1
                        have b2 := HE.out.1.b2
                        have lp := HLt.out
                        have u1 : ¬ TO = Q := fun e => b2.2.1 e.symm
                        have u2 : ¬ Q = TO := b2.2.1
                        have u3 : ¬ FI = Q := fun e => b2.1 e.symm
                        have u4 : ¬ Q = FI := b2.1
                        have u5 : ¬ ST = Q := fun e => b2.2.2.1 e.symm
                        have u6 : ¬ Q = ST := b2.2.2.1
                        have u7 : ¬ FI = TO := b2.2.2.2.1
                        have u8 : ¬ TO = FI := fun e => b2.2.2.2.1 e.symm
                        have u9 : ¬ FI = ST := b2.2.2.2.2.1
                        have u10 : ¬ ST = FI := fun e => b2.2.2.2.2.1 e.symm
                        have u11 : ¬ TO = ST := b2.2.2.2.2.2.1
                        have u12 : ¬ ST = TO := fun e => b2.2.2.2.2.2.1 e.symm
                        have u13 : ¬ TO = pb := by omega
                        have u14 : ¬ TO = Lb := by omega
                        have u15 : ¬ ST = pb := by omega
                        have u16 : ¬ ST = Lb := by omega
                        have u17 : ¬ FI = pb := by omega
                        have u18 : ¬ FI = Lb := by omega
                        clear b1 b2 lp
                        clear hkl ht hs hkb hfb
                        have HKl := hidb (show k < l.length ∧ Lf.length = l.length from ⟨hklx.out, HE.out.2.ll.1⟩)
                        have E9 := hidb ((HE.out.1.putS k 1).putT k bI)
                        go_upto_region 29 with fail
                        generalize (w8.setCell ⟨ST, k, none⟩ (.int .i64 1)).setCell ⟨TO, k, none⟩ (.int .i64 bI) = w9 at *
                        clear cS fS cq0 cq1 cT fT cF fF fB p2 cL
                        obtain ⟨cq0, -, -⟩ := E9.out.q.c3
                        obtain ⟨cF, fF⟩ := E9.out.cf (i := k) (by have := HKl.out; omega)
                        have p2 := (HP.out.below E9.out.gr.out).c2
                        have cL := hidb ((HR.out.below E9.out.gr.out).get hklx.out)
                        rw [Hzl.out] at cL
                        have cL' := cL.out
                        generalize gl Lf k = zf at cF
                        go_cut [] from 124 to 134 (fun wx => Hid (RM w wx base w.heap.size Q FI TO ST N (Lf.set k zl) (Lt.set k bI) (Ls.set k 1) vo2 (S.ord ++ [b])))
                        case first =>
                          go_region_law (fail)
                          all_goals
                            go_wp2_with fail
                            go_meet
                            with_reducible first | exact hidb (E9.out.putF k zl) | exact hidb (E9.out.putF k zl).drew | exact hidb (E9.out.drew.putF k zl)
                        case rest =>
                          have E10 := hcut
                          clear E9 cq0 cF fF p2 cL cL'
                          obtain ⟨cq0, -, -⟩ := E10.out.q.c3
                          obtain ⟨cF, fF⟩ := E10.out.cf (i := k) (by have := HKl.out; simp; omega)
                          obtain ⟨cB, fB⟩ := E10.out.cf (i := b) (by have := HKl.out; have := Hb.out; simp; omega)
                          rw [gl_set (by have := HKl.out; omega), if_neg nbk, Hzb.out] at cB
                          have p2 := (HP.out.below E10.out.gr.out).c2
                          have cL := (HR.out.below E10.out.gr.out).get hklx.out
                          rw [Hzl.out] at cL
                          generalize gl (Lf.set k zl) k = zf2 at cF
                          by_cases hlt : zl < zb
                          · have HU : Hid (up1 zl zb = zb) := if_pos hlt
                            rw [HU.out] at HRn
                            go_upto_region 30 with fail
                            go_quiet (fail)
                            go_upto_region 31 with fail
                            go_region_law (fail)
                            all_goals
                              go_wp2
                              go_roundw
                            all_goals first
                              | (case rel =>
                                  refine ⟨k + 1, (Lf.set k zl).set k zb, Lt.set k bI, Ls.set k 1, by omega, by go_num, hidb ⟨?_, by rw [List.set_set]; exact HRn.out⟩⟩
                                  with_reducible repeat' (first | exact E10.out | refine RM.drew ?_ | refine RM.drewN ?_ _ | refine RM.putF ?_ _ _))
                              | (case measure => simp [intOf]; omega)
                          · have HU : Hid (up1 zl zb = zl) := if_neg hlt
                            rw [HU.out] at HRn
                            go_upto_region 30 with fail
                            go_quiet (fail)
                            go_wp2
                            go_roundw
                            case rel =>
                              refine ⟨k + 1, Lf.set k zl, Lt.set k bI, Ls.set k 1, by omega, by go_num, hidb ⟨?_, HRn.out⟩⟩
                              with_reducible repeat' (first | exact E10.out | refine RM.drew ?_ | refine RM.drewN ?_ _)
                            case measure => simp [intOf]; omega
                      · have HSm := hidb (stC_same m l S b k (fun h => hs h.2.1))
                        have hz : (0 : Int) < ((S.st k : Nat) : Int) := by omega
                        generalize ((S.st k : Nat) : Int) = zs at *
                        clear hs hkl ht hkb
                        go_wp2
                        go_roundw
                        case rel => exact ⟨k + 1, Lf, Lt, Ls, by omega, by go_num, hidb ⟨HE.out.1, by rw [HSm.out]; exact HE.out.2⟩⟩
                        case measure => simp [intOf]; omega
                    · rw [decide_eq_false ht] at HC
                      have HSm := hidb (stC_same m l S b k (fun h => ht h.2.2))
                      clear h1 hkl ht
                      go_wp2_with fail
                      refine HC.out.mono ?_
                      rintro e w8 ⟨rfl, hB⟩
                      have HE := hidb (show RM w w8 base w.heap.size Q FI TO ST N Lf Lt Ls vo2 (S.ord ++ [b]) ∧ RSy l (stC m l S b k) Lf Lt Ls from ⟨E.out.1.below hB.out, E.out.2⟩)
                      clear E hB HC
                      go_wp2
                      go_roundw
                      case rel => exact ⟨k + 1, Lf, Lt, Ls, by omega, by go_num, hidb ⟨HE.out.1, by rw [HSm.out]; exact HE.out.2⟩⟩
                      case measure => simp [intOf]; omega
                  · have hkI2 : ¬ (k : Int) < (N : Int) := by omega
                    have HF : Hid (RM w wr base w.heap.size Q FI TO ST N Lf Lt Ls vo2 (flo m n l (j + 1)).ord ∧ RSy l (flo m n l (j + 1)) Lf Lt Ls) := by
                      have e := stC_all m l S b
                      have hkN : k = l.length := by rw [← HN.out]; omega
                      have h2 := E.out.2
                      rw [hkN, e] at h2
                      refine ⟨?_, ?_⟩
                      · rw [HNx.out]; exact E.out.1
                      · rw [HNx.out]; exact h2
                    clear E hk h1
                    go_wp2
                    go_roundg (gk - 1)
                    case measure => have := HJ.out; have := Hj.out; omega
                    case rel => exact ⟨j + 1, Lf, Lt, Ls, vo2, hidb (by have := HJ.out; have := Hj.out; omega), HF⟩
end Go.Proofs.YtlhligeicnejbaaDoor
