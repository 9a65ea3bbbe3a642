/-
  shape.piecesOf, edges, swept.; shape.ring, mercatorref5.RingError, shape.piece.eastOf, shape.Area.; shape.piece.eastOf, shape.Area, Where; mercatorlaw5.few, ringed.; Rings turned around, begun elsewhere, moved: their areas, and where a point is. No Go text is named here.; mercatorlaw5.few, ringed; two rows of points that a call owns.; ShapeTurned: the law by its ways.
-/
import Derived.Test.YtnadgoomkaldkaaDoorQTk
import Derived.Test.YtnadgoomkaldkaaDoorQShB
import Derived.Deep.AppendLies
namespace Go.Proofs.YtnadgoomkaldkaaDoor
open Go.RowKit
attribute [local go_sem ↓] Go.wp_at_zero Go.wp_at_succ

def px (l : List Pc) (i : Nat) : Pc := l.getD i ((0, 0), (0, 0))
theorem px_get {l : List Pc} {i : Nat} (h : i < l.length) : l[i] = px l i := by unfold px; simp [h]
def pr (l : List Pc) : List Value := l.flatMap pcs
theorem pr_snoc (l : List Pc) (p : Pc) : pr l ++ pcs p = pr (l ++ [p]) := by simp [pr]
theorem pr_at : ∀ (l : List Pc) (k : Nat) (_ : k < l.length) (j : Nat), j < 4 → (pr l)[k * 4 + j]? = (pcs (px l k))[j]?
  | s :: l, 0, _, j, hj => by
    match j, hj with
    | 0, _ => rfl
    | 1, _ => rfl
    | 2, _ => rfl
    | 3, _ => rfl
  | s :: l, k + 1, hk, j, hj => by
    have ih := pr_at l k (by simp at hk; omega) j hj
    rw [show (k + 1) * 4 + j = (k * 4 + j) + 4 by omega]
    exact ih
theorem pindex (b n cap k : Nat) (hk : k < n) (w : World) : (Instr.indexAt 56 (.slice (some ⟨b, 0, none⟩) n cap) (.int .i64 k)).run Tryd.prog w = .ok (.pointer (some ⟨b, k * 4, none⟩)) w := by
  have hu : Tryd.prog.underlying 56 = some (.slice (Tryd.prog.elem 56)) := by kernel_rfl
  refine (run_indexAt_slice (P := Tryd.prog) (w := w) 56 ⟨b, 0, none⟩ n cap .i64 (k : Int) hu).trans ?_
  rw [if_pos ⟨by omega, by omega⟩]
  have hs : (sizeOf (Tryd.prog.elem 56)).run Tryd.prog w = .ok 4 w := by kernel_rfl
  rw [hs]
  simp [Addr.add]
  try (intro h; omega)
/-- A slice of pieces that is read. -/
structure PSl (w : World) (ad : Option Addr) (b cap : Nat) (l : List Pc) : Prop where
  row : ∀ i, i < l.length → (w.cell? ⟨b, i * 4, none⟩ = some (.int .i64 (px l i).1.1) ∧ w.cell? ⟨b, i * 4 + 1, none⟩ = some (.int .i64 (px l i).1.2) ∧ w.cell? ⟨b, i * 4 + 2, none⟩ = some (.int .i64 (px l i).2.1) ∧ w.cell? ⟨b, i * 4 + 3, none⟩ = some (.int .i64 (px l i).2.2)) ∧ b < w.heap.size
  ad : ∀ i, i < l.length → ad = some ⟨b, 0, none⟩ ∧ l.length ≤ cap
theorem PSl.ix {w : World} {ad : Option Addr} {b cap : Nat} {l : List Pc} (h : PSl w ad b cap l) {k : Nat} (hk : k < l.length) (w1 : World) : (Instr.indexAt 56 (.slice ad l.length cap) (.int .i64 k)).run Tryd.prog w1 = .ok (.pointer (some ⟨b, k * 4, none⟩)) w1 := by
  rw [(h.ad k hk).1]; exact pindex b _ cap k hk w1
theorem PSl.below {W w' : World} {ad : Option Addr} {b cap : Nat} {l : List Pc} (h : PSl W ad b cap l) (hB : Below W.heap.size W w') : PSl w' ad b cap l :=
  ⟨fun i hi => by
    obtain ⟨⟨h1, h2, h3, h4⟩, h5⟩ := h.row i hi
    have e := fun j => hB.cell (p := ⟨b, j, none⟩) h5
    exact ⟨⟨(e _).trans h1, (e _).trans h2, (e _).trans h3, (e _).trans h4⟩, Nat.lt_of_lt_of_le h5 hB.size⟩, h.ad⟩
theorem PSl.gr {W w' : World} {ad : Option Addr} {b cap : Nat} {l : List Pc} (h : PSl W ad b cap l) (hB : Gr W w') : PSl w' ad b cap l := h.below hB.out
theorem own_psl {w : World} {base : Nat} {v : Value} {n : Nat} {l : List Pc} (h : w.ownsRow base 84 4 v n (pr l)) (hn : l.length = n) : ∃ ad b cap, v = .slice ad l.length cap ∧ PSl w ad b cap l := by
  have hlt := h.lt
  subst hn
  obtain ⟨h1, h | ⟨g, cap, cur, hv, hb, hg, hc, hm, hs, ht⟩⟩ := h
  · obtain ⟨rfl, h0⟩ := h
    exact ⟨none, 0, 0, by rw [h0], fun j hj => by omega, fun j hj => by omega⟩
  · subst hv
    refine ⟨_, g, cap, rfl, fun j hj => ?_, fun j hj => ⟨rfl, by omega⟩⟩
    have key : ∀ i, (hi : i < 4) → w.cell? ⟨g, j * 4 + i, none⟩ = (pcs (px l j))[i]? := by
      intro i hi
      have e1 : (cur.toList.take (l.length * 4))[j * 4 + i]? = (pr l)[j * 4 + i]? := by rw [ht]
      rw [List.getElem?_take, if_pos (by omega), pr_at l j hj i hi] at e1
      simp [World.cell?, hg]
      simpa using e1
    exact ⟨⟨key 0 (by decide), key 1 (by decide), key 2 (by decide), key 3 (by decide)⟩, (hlt g rfl).2⟩
theorem infoP4 : (Tryd.prog.info? 84).map (fun i => (i.zero, i.size, i.bytes)) = some (some (.agg #[.int .i64 0, .int .i64 0, .int .i64 0, .int .i64 0]), 4, 32) := by kernel_rfl
theorem undP4 : Tryd.prog.underlying 56 = some (.slice 84) := by kernel_rfl
/-- An append of a piece, at a step of a region that draws its order. -/
theorem step_p4 {ops : Array Oper} {o : Oper} {a : Act} {K : Act → World → Prop} {Q : Exit → Act → World → Prop} {Ep : Prop} (W : World) (b0 : Nat) (v : Value) (l : List Pc) (r : Pc) (n B : Nat) (s x : Operand) (hgd : o.guard = none)
    (ho : o.op = .call { callee := .builtin .append, args := #[s, x], argTypes := #[56, 56] }) (hs : a.eval s = v) (hx : a.eval x = .slice (some ⟨B, 0, none⟩) 1 1) (hn : l.length = n) (hl : n ≤ 10000)
    (hO : W.ownsRow b0 84 4 v n (pr l)) (hN : At W B (pcs r)) (hb : b0 ≤ W.heap.size)
    (h : ∀ g cap w', w'.ownsRow b0 84 4 (.slice (some ⟨g, 0, none⟩) (n + 1) cap) (n + 1) (pr (l ++ [r])) → W.grownBy w' v.ownBlock → K (a.put o.dst (.slice (some ⟨g, 0, none⟩) (n + 1) cap)) w') :
    if Region.wanted o (yielded ops a.tmps) = true then Oper.wp Tryd.prog o a W K Q else Ep := by
  have hml : 100000 ≤ maxLen := by decide
  have ones : ∀ u ∈ pcs r, u.oneCell' = true := by
    intro u hu
    simp only [List.mem_cons, List.not_mem_nil, or_false] at hu
    rcases hu with rfl | rfl | rfl | rfl <;> rfl
  obtain ⟨i0, hi, hz0, hz1, hz2⟩ := info_pt infoP4
  refine step_append_lies W hgd s x _ ho b0 _ i0 (.agg #[.int .i64 0, .int .i64 0, .int .i64 0, .int .i64 0]) 4 32 undP4 hi hz0 hz1 hz2 rfl (by decide) v n (pr l) hs hO ⟨B, 0, none⟩ 1 1 (pcs r) hx rfl (news_at hN) ones (by decide) (by omega) (by omega) hb _ rfl ?_
  intro g cap w' hown hgrow _ _
  rw [pr_snoc] at hown
  exact h g cap w' hown hgrow
/-- The first k pieces of a line. -/
def pk (l : List Sp) (k : Nat) : List Pc := (List.range k).map fun i => (sx l i, sx l (i + 1))
theorem pk_len (l : List Sp) (k : Nat) : (pk l k).length = k := by simp [pk]
theorem pk_succ (l : List Sp) (k : Nat) : pk l (k + 1) = pk l k ++ [(sx l k, sx l (k + 1))] := by simp [pk, List.range_succ]
set_option maxRecDepth 4000 in
set_option maxHeartbeats 4000000 in
theorem piecesOf_any {ad : Option Addr} {b o cap : Nat} {l : List Sp} (ll : l.length ≤ 5000) (w : World) (h : SSl w ad b o cap l) : Calls Tryd.prog 25 #[.slice ad l.length cap] w fun e w' => ∃ ad1 cap1, e = .returned (.slice ad1 (l.length - 1) cap1) ∧ w'.ownsRow w.heap.size 84 4 (.slice ad1 (l.length - 1) cap1) (l.length - 1) (pr (pk l (l.length - 1))) ∧ w.heap.size ≤ w'.heap.size ∧ Gr w w' := by
  have HR := hidb h
  clear h
  obtain ⟨n, hn⟩ : ∃ n, n = l.length := ⟨_, rfl⟩
  have HX := hidb (fun k (hk : k < n) => HR.out.ix k (by rw [← hn]; exact hk))
  rw [← hn] at HX ll ⊢
  have HNn := hidb hn
  clear hn
  go_enter Tryd.func25, Tryd.ntmps25
  go_wp2
  go_loopw [3, 4] (fun v t wr => ∃ (k : Nat), k ≤ n - 1 ∧ t = .int .i64 ((k : Int) + 1) ∧ wr.ownsRow w.heap.size 84 4 v k (pr (pk l k)) ∧ Hid (Gr w wr)) (fun _ t _ => n + 1 - (intOf t).toNat)
  case atStart => exact ⟨0, Nat.zero_le _, rfl, by simpa [pr, pk] using World.ownsRow_nil w w.heap.size 84 4, Gr.refl _⟩
  case round =>
    obtain ⟨k, hk, rfl, hown, HG⟩ := hrel
    obtain ⟨ad1, cap1, rfl⟩ := own_sh hown
    by_cases h1 : ¬ k + 1 < n
    · have h1' : ¬ (k : Int) + 1 < (n : Int) := by omega
      obtain rfl : k = n - 1 := by omega
      have HO := hidb hown
      clear h1 hown
      go_wp2
      go_ret
      exact ⟨_, _, rfl, HO.out, HG.out.out.size, HG.out⟩
    · have h1' : (k : Int) + 1 < (n : Int) := by omega
      have HKN := hidb (show k + 1 < n by omega)
      have HQ := hidb (fun W (hW : Gr w W) => And.intro ((HR.out.gr hW).row k (by rw [← HNn.out]; have := HKN.out; omega)).1 ((HR.out.gr hW).row (k + 1) (by rw [← HNn.out]; exact HKN.out)).1)
      have ix := HX.out k (by omega)
      have ix1 := HX.out (k + 1) (by omega)
      push_cast at ix1
      have e0 : IntKind.i64.wrap (k : Int) = (k : Int) := wr_in (by omega) (by omega)
      have e1 : IntKind.i64.wrap ((k : Int) + 1 + 1) = ((k + 1 : Nat) : Int) + 1 := by rw [show (k : Int) + 1 + 1 = ((k + 1 : Nat) : Int) + 1 by omega]; exact wr_in (by omega) (by omega)
      have HE1 := hidb e1
      have HS := hidb (pk_succ l k)
      have HLn := hidb (pk_len l k)
      have O3 := hown
      have HC := HG.out
      generalize sx l k = p at *
      generalize sx l (k + 1) = q at *
      clear h1 e1 hown
      go_upto_region 5 with fail
      refine wp_region_held_drew (S := (fun w' => (w'.cell? ⟨b, o + k * 2, none⟩ = some (.int .i64 p.1) ∧ w'.cell? ⟨b, o + k * 2 + 1, none⟩ = some (.int .i64 p.2)) ∧ w'.cell? ⟨b, o + (k + 1) * 2, none⟩ = some (.int .i64 q.1) ∧ w'.cell? ⟨b, o + (k + 1) * 2 + 1, none⟩ = some (.int .i64 q.2))) (by kernel_rfl) ?_ (fun hHeld => ?_)
      · (try dsimp only); (with_reducible first | exact HQ.out _ HC | exact HQ.out _ HC.drew | exact HQ.out _ (HC.alloc _) | exact HQ.out _ (HC.drew.alloc _) | exact HQ.out _ (HC.alloc _).drew)
      refine wt (i := 0) (v := ?vp0x2) rfl ?hp0x2 ?rp0x2
      case hp0x2 => (intro w hSw; (try dsimp only at hSw); go_simp; try with_reducible rfl)
      (try simp only [Act.put, lq1, lq2, lq4, lq5, lq6])
      refine wt (i := 1) (v := ?vp1x5) rfl ?hp1x5 ?rp1x5
      case hp1x5 => (intro w hSw; (try dsimp only at hSw); go_simp; try with_reducible rfl)
      (try simp only [Act.put, lq1, lq2, lq3, lq4, lq5, lq6])
      refine wt (i := 2) (v := ?vp2x8) rfl ?hp2x8 ?rp2x8
      case hp2x8 => (intro w hSw; (try dsimp only at hSw); go_simp; try with_reducible rfl)
      (try simp only [Act.put, lq1, lq2, lq3, lq4, lq5, lq6])
      refine wt (i := 3) (v := ?vp3x11) rfl ?hp3x11 ?rp3x11
      case hp3x11 => (intro w hSw; (try dsimp only at hSw); go_simp; try with_reducible rfl)
      (try simp only [Act.put, lq1, lq2, lq3, lq4, lq5, lq6])
      refine wt (i := 4) (v := ?vp4x14) rfl ?hp4x14 ?rp4x14
      case hp4x14 => (intro w hSw; (try dsimp only at hSw); go_simp; try with_reducible rfl)
      (try simp only [Act.put, lq1, lq2, lq3, lq4, lq5, lq6])
      refine wt (i := 5) (v := ?vp5x17) rfl ?hp5x17 ?rp5x17
      case hp5x17 => (intro w hSw; (try dsimp only at hSw); go_simp; try with_reducible rfl)
      (try simp only [Act.put, lq1, lq2, lq3, lq4, lq5, lq6])
      refine wt (i := 6) (v := ?vp6x20) rfl ?hp6x20 ?rp6x20
      case hp6x20 => (intro w hSw; (try dsimp only at hSw); go_simp; try with_reducible rfl)
      (try simp only [Act.put, lq1, lq2, lq3, lq4, lq5, lq6])
      refine wt (i := 7) (v := ?vp7x23) rfl ?hp7x23 ?rp7x23
      case hp7x23 => (intro w hSw; (try dsimp only at hSw); go_simp; try with_reducible rfl)
      (try simp only [Act.put, lq1, lq2, lq3, lq4, lq5, lq6])
      refine wt (i := 8) (v := ?vp8x26) rfl ?hp8x26 ?rp8x26
      case hp8x26 => (intro w hSw; (try dsimp only at hSw); go_simp; try with_reducible rfl)
      (try simp only [Act.put, lq1, lq2, lq3, lq4, lq5, lq6])
      refine wt (i := 9) (v := ?vp9x29) rfl ?hp9x29 ?rp9x29
      case hp9x29 => (intro w hSw; (try dsimp only at hSw); go_simp; try with_reducible rfl)
      (try simp only [Act.put, lq1, lq2, lq3, lq4, lq5, lq6])
      refine wt (i := 10) (v := ?vp10x32) rfl ?hp10x32 ?rp10x32
      case hp10x32 => (intro w hSw; (try dsimp only at hSw); go_simp; try with_reducible rfl)
      (try simp only [Act.put, lq1, lq2, lq3, lq4, lq5, lq6])
      refine wpAnyH_ready (rs := [11]) (by kernel_rfl) (by simp) ?_
      refine AllReadyH.cons rfl (fun K hK => ?_) AllReadyH.nil
      go_simp
      refine hK.out _ _ ?_ (fun hHeld => ?_)
      · (try dsimp only); (with_reducible first | exact HQ.out _ HC | exact HQ.out _ HC.drew | exact HQ.out _ (HC.alloc _) | exact HQ.out _ (HC.drew.alloc _) | exact HQ.out _ (HC.alloc _).drew)
      clear hK K
      refine wpAnyH_ready (rs := [12]) (by kernel_rfl) (by simp) ?_
      refine AllReadyH.cons rfl (fun K hK => ?_) AllReadyH.nil
      refine step_p4 _ w.heap.size (.slice ad1 k cap1) (pk l k) (p, q) k _ _ _ rfl rfl rfl rfl HLn.out (by omega) (by first | exact O3.alloc _ | exact O3.drew.alloc _) (by first | exact At.new4 _ _ _ _ _ _ | exact (At.new4 _ _ _ _ _ _).drew) (by have := HC.out.size; simp; omega) ?_
      intro g cap2 w2 hown2 hgrow2
      replace HC : Gr w w2 := Below.grown (by with_reducible first | exact (HC.alloc _).out | exact (HC.drew.alloc _).out | exact (HC.alloc _).drew.out) hgrow2 (by have := HC.out.size; simp; omega) (fun kk hkk => (O3.lt kk hkk).1)
      have HO2 := hidb hown2
      clear hgrow2 hown2
      refine hK.out _ _ ?_ (fun hHeld => ?_)
      · (try dsimp only); (with_reducible first | exact HQ.out _ HC | exact HQ.out _ HC.drew | exact HQ.out _ (HC.alloc _) | exact HQ.out _ (HC.drew.alloc _) | exact HQ.out _ (HC.alloc _).drew)
      clear hK K
      refine wt (i := 13) (v := ?vp13x51) rfl ?hp13x51 ?rp13x51
      case hp13x51 => (intro w hSw; (try dsimp only at hSw); go_simp; try with_reducible rfl)
      (try simp only [Act.put, lq1, lq2, lq3, lq4, lq5, lq6])
      refine wpAnyH_done (by kernel_rfl) ?_ _
      rw [← HS.out] at HO2
      have HC2 := hidb HC
      have e1 := HE1.out
      clear O3 HC ix ix1 e0
      go_wp2
      go_roundw
      case rel => exact ⟨k + 1, by have := HKN.out; omega, by go_num, HO2.out, by first | exact HC2 | exact HC2.out.drew⟩
      case measure => have := HKN.out; simp [intOf]; omega
/-- The edges of a ring. -/
def eg (l : List Sp) : List Pc := pk l (l.length - 1) ++ [(sx l (l.length - 1), sx l 0)]
/-- What an arrow sweeps that goes along pieces. -/
def cr (p : Pc) : Int := p.1.1 * p.2.2 - p.2.1 * p.1.2
def sw (l : List Pc) : Int := (l.map cr).sum
end Go.Proofs.YtnadgoomkaldkaaDoor
namespace Go.Proofs.YtnadgoomkaldkaaDoor
open Go.RowKit
attribute [local go_sem ↓] Go.wp_at_zero Go.wp_at_succ

/-- The point behind the i-th one, in a ring of n points. -/
def nx (n i : Nat) : Nat := if i + 1 = n then 0 else i + 1
/-- The first k points are right for the reference. -/
def rek (l : List Sp) (k : Nat) : Prop := ∀ i, i < k → okS (sx l i) ∧ ¬ sx l i = sx l (nx l.length i)
end Go.Proofs.YtnadgoomkaldkaaDoor
namespace Go.Proofs.YtnadgoomkaldkaaDoor
open Go.RowKit
attribute [local go_sem ↓] Go.wp_at_zero Go.wp_at_succ

/-- A piece's lower and its upper end. -/
def lwE (p : Pc) : Sp := if p.2.2 < p.1.2 then p.2 else p.1
def upE (p : Pc) : Sp := if p.2.2 < p.1.2 then p.1 else p.2
/-- A piece to the east of a point. -/
def esP (p : Pc) (s : Sp) : Prop := ((lwE p).2 ≤ s.2 ∧ s.2 < (upE p).2) ∧ 0 < tn (lwE p) (upE p) s
instance (p : Pc) (s : Sp) : Decidable (esP p s) := by unfold esP; exact inferInstance
/-- Where a point is, by the edges. -/
def sdP (L : List Pc) (s : Sp) : Int := L.foldl (fun z e => if esP e s then -z else z) (-1)
def whP (L : List Pc) (s : Sp) : Int := if ∃ e ∈ L, hsP e s then 0 else sdP L s
end Go.Proofs.YtnadgoomkaldkaaDoor
namespace Go.Proofs.YtnadgoomkaldkaaDoor
open Go.RowKit

/-- A piece the other way round. -/
def tnP (p : Pc) : Pc := (p.2, p.1)
/-- A point, a piece, moved. -/
def mv (d p : Sp) : Sp := (p.1 + d.1, p.2 + d.2)
def mvP (d : Sp) (p : Pc) : Pc := (mv d p.1, mv d p.2)
/-- The edge that begins at the j-th point. -/
def ed (l : List Sp) (j : Nat) : Pc := (sx l j, sx l ((j + 1) % l.length))
def rvL (l : List Sp) : List Sp := (List.range l.length).map fun i => sx l (l.length - 1 - i)
def mvL (d : Sp) (k : Nat) (l : List Sp) : List Sp := (List.range l.length).map fun i => mv d (sx l ((i + k) % l.length))
end Go.Proofs.YtnadgoomkaldkaaDoor
namespace Go.Proofs.YtnadgoomkaldkaaDoor
open Go.RowKit
attribute [local go_sem ↓] Go.wp_at_zero Go.wp_at_succ

def fwP (n : Nat) : Prop := n ≤ 30 ∨ (4000 < n ∧ n < 4005)
instance (n : Nat) : Decidable (fwP n) := by unfold fwP; exact inferInstance
theorem infoS2 : (Tryd.prog.info? 52).map (fun i => (i.zero, i.size, i.bytes)) = some (some (.agg #[.int .i64 0, .int .i64 0]), 2, 16) := by kernel_rfl
theorem undS2 : Tryd.prog.underlying 43 = some (.slice 52) := by kernel_rfl
theorem wpList_s2 {ops : Array Oper} {rest : List Oper} {o : Oper} {a : Act} {Q : Exit → Act → World → Prop} (W : World) (b0 : Nat) (v : Value) (l : List Sp) (r : Sp) (n B : Nat) (s x : Operand) (hgd : o.guard = none)
    (ho : o.op = .call { callee := .builtin .append, args := #[s, x], argTypes := #[43, 43] }) (hs : a.eval s = v) (hx : a.eval x = .slice (some ⟨B, 0, none⟩) 1 1) (hn : l.length = n) (hl : n ≤ 10000)
    (hO : W.ownsRow b0 52 2 v n (sr l)) (hN : At W B (sc r)) (hb : b0 ≤ W.heap.size)
    (h : ∀ g cap w', Hid (w'.ownsRow b0 52 2 (.slice (some ⟨g, 0, none⟩) (n + 1) cap) (n + 1) (sr (l ++ [r]))) → Hid (W.grownBy w' v.ownBlock) → Hid (v.ownBlock = some g ∨ g = W.heap.size) → wpList Tryd.prog ops Q rest (a.put o.dst (.slice (some ⟨g, 0, none⟩) (n + 1) cap)) w') : wpList Tryd.prog ops Q (o :: rest) a W := by
  have hml : 100000 ≤ maxLen := by decide
  have ones : ∀ u ∈ sc r, u.oneCell' = true := by
    intro u hu
    simp only [List.mem_cons, List.not_mem_nil, or_false] at hu
    rcases hu with rfl | rfl <;> rfl
  obtain ⟨i0, hi, hz0, hz1, hz2⟩ := info_pt infoS2
  refine wpList_append_own_at _ hgd s x _ ho b0 _ i0 (.agg #[.int .i64 0, .int .i64 0]) 2 16 undS2 hi hz0 hz1 hz2 rfl (by decide) v n (sr l) hs hO ⟨B, 0, none⟩ 1 1 (sc r) hx rfl (news_at hN) ones (by omega) (by omega) hb ?_
  intro v' w' hown hgrow _ hloc
  rw [sr_snoc] at hown
  obtain ⟨g, cap, rfl⟩ : ∃ g cap, v' = .slice (some ⟨g, 0, none⟩) (n + 1) cap := by
    obtain ⟨_, ⟨_, h0⟩ | ⟨g, cap, cur, hv, _⟩⟩ := hown
    · omega
    · exact ⟨g, cap, hv⟩
  refine h g cap w' hown hgrow ?_
  rcases hloc with e | e
  · exact .inl e.symm
  · exact .inr (Option.some.inj e)
/-- Two rows of points, in blocks of their own. -/
structure Tw (W : World) (base : Nat) (v : Value) (l : List Sp) (v' : Value) (l' : List Sp) : Prop where
  r1 : W.ownsRow base 52 2 v l.length (sr l)
  r2 : W.ownsRow base 52 2 v' l'.length (sr l')
  ne : ∀ k, v.ownBlock = some k → v'.ownBlock ≠ some k
theorem Tw.below {W w' : World} {base : Nat} {v v' : Value} {l l' : List Sp} (h : Tw W base v l v' l') (hB : Below W.heap.size W w') : Tw w' base v l v' l' := ⟨own_kp h.r1 hB, own_kp h.r2 hB, h.ne⟩
theorem Tw.alloc {W : World} {base : Nat} {v v' : Value} {l l' : List Sp} (h : Tw W base v l v' l') (o : Obj) : Tw (W.alloc o) base v l v' l' := ⟨h.r1.alloc o, h.r2.alloc o, h.ne⟩
theorem Tw.nil (W : World) (base : Nat) : Tw W base (.slice none 0 0) [] (.slice none 0 0) [] := ⟨World.ownsRow_nil _ _ _ _, World.ownsRow_nil _ _ _ _, fun k h => by cases h⟩
theorem SSl.grw {W w2 : World} {ad : Option Addr} {b o cap : Nat} {l : List Sp} {row : Option Nat} (h : SSl W ad b o cap l) (hg : W.grownBy w2 row) (hne : row ≠ some b) : SSl w2 ad b o cap l :=
  ⟨fun i hi => by
    obtain ⟨⟨h1, h2⟩, h3⟩ := h.row i hi
    have hb := hg.block b h3 (fun e => hne e.symm)
    exact ⟨⟨(World.cell?_of_block (w := W) (a := ⟨b, o + i * 2, none⟩) hb).trans h1, (World.cell?_of_block (w := W) (a := ⟨b, o + i * 2 + 1, none⟩) hb).trans h2⟩, Nat.lt_of_lt_of_le h3 hg.size⟩, h.ix⟩
/-- What lies in memory while a ring is turned and moved. -/
structure LT (w W : World) (base : Nat) (p q : Sp) (ad : Option Addr) (b o cap : Nat) (l : List Sp) (v : Value) (L1 : List Sp) (v' : Value) (L2 : List Sp) : Prop where
  p : At W w.heap.size (sc p)
  q : At W (w.heap.size + 1) (sc q)
  s : SSl W ad b o cap l
  tw : Tw W base v L1 v' L2
  gr : Gr w W
  lt : w.heap.size + 1 < base ∧ base ≤ W.heap.size ∧ b < base
section
variable {w W : World} {base : Nat} {p q : Sp} {ad : Option Addr} {b o cap : Nat} {l : List Sp} {v v' : Value} {L1 L2 : List Sp}
theorem LT.below {w' : World} (h : LT w W base p q ad b o cap l v L1 v' L2) (hB : Below W.heap.size W w') : LT w w' base p q ad b o cap l v L1 v' L2 :=
  ⟨At.below hB h.p, At.below hB h.q, h.s.below hB, h.tw.below hB, Gr.step h.gr hB, h.lt.1, Nat.le_trans h.lt.2.1 hB.size, h.lt.2.2⟩
theorem LT.alloc (h : LT w W base p q ad b o cap l v L1 v' L2) (ob : Obj) : LT w (W.alloc ob) base p q ad b o cap l v L1 v' L2 := h.below ((Below.refl _ _).alloc (Nat.le_refl _) ob)
end
/-- The remainder by a thousand. -/
def thM (x : Int) : Int := x.tmod 1000
end Go.Proofs.YtnadgoomkaldkaaDoor
namespace Go.Proofs.YtnadgoomkaldkaaDoor
open Go.RowKit
attribute [local go_sem ↓] Go.wp_at_zero Go.wp_at_succ

/-- A slice of points that the law is handed. -/
def SArg (w : World) (ad : Option Addr) (n cap : Nat) : Prop := ∃ (b o : Nat) (l : List Sp), l.length = n ∧ SSl w ad b o cap l
/-- What lies in memory when both rings are made. -/
structure LE (w W : World) (B : Nat) (p z : Sp) (ad : Option Addr) (b o cap : Nat) (l : List Sp) (ad1 : Option Addr) (b1 cap1 : Nat) (R : List Sp) (ad2 : Option Addr) (b2 cap2 : Nat) (M : List Sp) : Prop where
  p : At W w.heap.size (sc p)
  z : At W B (sc z)
  s : SSl W ad b o cap l
  r : SSl W ad1 b1 0 cap1 R
  m : SSl W ad2 b2 0 cap2 M
  gr : Gr w W
theorem LE.below {w W w' : World} {B : Nat} {p z : Sp} {ad : Option Addr} {b o cap : Nat} {l : List Sp} {ad1 : Option Addr} {b1 cap1 : Nat} {R : List Sp} {ad2 : Option Addr} {b2 cap2 : Nat} {M : List Sp} (h : LE w W B p z ad b o cap l ad1 b1 cap1 R ad2 b2 cap2 M) (hB : Below W.heap.size W w') : LE w w' B p z ad b o cap l ad1 b1 cap1 R ad2 b2 cap2 M :=
  ⟨At.below hB h.p, At.below hB h.z, h.s.below hB, h.r.below hB, h.m.below hB, Gr.step h.gr hB⟩
/-- The first i points, turned around, moved. -/
def rvK (l : List Sp) (i : Nat) : List Sp := (List.range i).map fun j => sx l (l.length - 1 - j)
def mvK (d : Sp) (k : Nat) (l : List Sp) (i : Nat) : List Sp := (List.range i).map fun j => mv d (sx l ((j + k) % l.length))
end Go.Proofs.YtnadgoomkaldkaaDoor
