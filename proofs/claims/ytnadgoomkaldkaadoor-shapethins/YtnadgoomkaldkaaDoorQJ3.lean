/-
  shape.piecesOf, edges, swept.; shape.ring, mercatorref5.RingError, shape.piece.eastOf, shape.Area.; shape.piece.eastOf, shape.Area, Where; mercatorlaw5.few, ringed.; Rings turned around, begun elsewhere, moved: their areas, and where a point is. No Go text is named here.; mercatorlaw5.few, ringed; two rows of points that a call owns.; ShapeTurned: the law by its ways.
-/
import Derived.Test.YtnadgoomkaldkaaDoorQTk
import Derived.Test.YtnadgoomkaldkaaDoorQShB
import Derived.Deep.AppendLies
namespace Go.Proofs.YtnadgoomkaldkaaDoor
open Go.RowKit
attribute [local go_sem ↓] Go.wp_at_zero Go.wp_at_succ

def px (l : List Pc) (i : Nat) : Pc := l.getD i ((0, 0), (0, 0))
theorem px_get {l : List Pc} {i : Nat} (h : i < l.length) : l[i] = px l i := by unfold px; simp [h]
def pr (l : List Pc) : List Value := l.flatMap pcs
theorem pr_snoc (l : List Pc) (p : Pc) : pr l ++ pcs p = pr (l ++ [p]) := by simp [pr]
theorem pr_at : ∀ (l : List Pc) (k : Nat) (_ : k < l.length) (j : Nat), j < 4 → (pr l)[k * 4 + j]? = (pcs (px l k))[j]?
  | s :: l, 0, _, j, hj => by
    match j, hj with
    | 0, _ => rfl
    | 1, _ => rfl
    | 2, _ => rfl
    | 3, _ => rfl
  | s :: l, k + 1, hk, j, hj => by
    have ih := pr_at l k (by simp at hk; omega) j hj
    rw [show (k + 1) * 4 + j = (k * 4 + j) + 4 by omega]
    exact ih
theorem pindex (b n cap k : Nat) (hk : k < n) (w : World) : (Instr.indexAt 56 (.slice (some ⟨b, 0, none⟩) n cap) (.int .i64 k)).run Tryd.prog w = .ok (.pointer (some ⟨b, k * 4, none⟩)) w := by
  have hu : Tryd.prog.underlying 56 = some (.slice (Tryd.prog.elem 56)) := by kernel_rfl
  refine (run_indexAt_slice (P := Tryd.prog) (w := w) 56 ⟨b, 0, none⟩ n cap .i64 (k : Int) hu).trans ?_
  rw [if_pos ⟨by omega, by omega⟩]
  have hs : (sizeOf (Tryd.prog.elem 56)).run Tryd.prog w = .ok 4 w := by kernel_rfl
  rw [hs]
  simp [Addr.add]
  try (intro h; omega)
/-- A slice of pieces that is read. -/
structure PSl (w : World) (ad : Option Addr) (b cap : Nat) (l : List Pc) : Prop where
  row : ∀ i, i < l.length → (w.cell? ⟨b, i * 4, none⟩ = some (.int .i64 (px l i).1.1) ∧ w.cell? ⟨b, i * 4 + 1, none⟩ = some (.int .i64 (px l i).1.2) ∧ w.cell? ⟨b, i * 4 + 2, none⟩ = some (.int .i64 (px l i).2.1) ∧ w.cell? ⟨b, i * 4 + 3, none⟩ = some (.int .i64 (px l i).2.2)) ∧ b < w.heap.size
  ad : ∀ i, i < l.length → ad = some ⟨b, 0, none⟩ ∧ l.length ≤ cap
theorem PSl.ix {w : World} {ad : Option Addr} {b cap : Nat} {l : List Pc} (h : PSl w ad b cap l) {k : Nat} (hk : k < l.length) (w1 : World) : (Instr.indexAt 56 (.slice ad l.length cap) (.int .i64 k)).run Tryd.prog w1 = .ok (.pointer (some ⟨b, k * 4, none⟩)) w1 := by
  rw [(h.ad k hk).1]; exact pindex b _ cap k hk w1
theorem PSl.below {W w' : World} {ad : Option Addr} {b cap : Nat} {l : List Pc} (h : PSl W ad b cap l) (hB : Below W.heap.size W w') : PSl w' ad b cap l :=
  ⟨fun i hi => by
    obtain ⟨⟨h1, h2, h3, h4⟩, h5⟩ := h.row i hi
    have e := fun j => hB.cell (p := ⟨b, j, none⟩) h5
    exact ⟨⟨(e _).trans h1, (e _).trans h2, (e _).trans h3, (e _).trans h4⟩, Nat.lt_of_lt_of_le h5 hB.size⟩, h.ad⟩
theorem PSl.gr {W w' : World} {ad : Option Addr} {b cap : Nat} {l : List Pc} (h : PSl W ad b cap l) (hB : Gr W w') : PSl w' ad b cap l := h.below hB.out
theorem own_psl {w : World} {base : Nat} {v : Value} {n : Nat} {l : List Pc} (h : w.ownsRow base 84 4 v n (pr l)) (hn : l.length = n) : ∃ ad b cap, v = .slice ad l.length cap ∧ PSl w ad b cap l := by
  have hlt := h.lt
  subst hn
  obtain ⟨h1, h | ⟨g, cap, cur, hv, hb, hg, hc, hm, hs, ht⟩⟩ := h
  · obtain ⟨rfl, h0⟩ := h
    exact ⟨none, 0, 0, by rw [h0], fun j hj => by omega, fun j hj => by omega⟩
  · subst hv
    refine ⟨_, g, cap, rfl, fun j hj => ?_, fun j hj => ⟨rfl, by omega⟩⟩
    have key : ∀ i, (hi : i < 4) → w.cell? ⟨g, j * 4 + i, none⟩ = (pcs (px l j))[i]? := by
      intro i hi
      have e1 : (cur.toList.take (l.length * 4))[j * 4 + i]? = (pr l)[j * 4 + i]? := by rw [ht]
      rw [List.getElem?_take, if_pos (by omega), pr_at l j hj i hi] at e1
      simp [World.cell?, hg]
      simpa using e1
    exact ⟨⟨key 0 (by decide), key 1 (by decide), key 2 (by decide), key 3 (by decide)⟩, (hlt g rfl).2⟩
theorem infoP4 : (Tryd.prog.info? 84).map (fun i => (i.zero, i.size, i.bytes)) = some (some (.agg #[.int .i64 0, .int .i64 0, .int .i64 0, .int .i64 0]), 4, 32) := by kernel_rfl
theorem undP4 : Tryd.prog.underlying 56 = some (.slice 84) := by kernel_rfl
/-- An append of a piece, at a step of a region that draws its order. -/
theorem step_p4 {ops : Array Oper} {o : Oper} {a : Act} {K : Act → World → Prop} {Q : Exit → Act → World → Prop} {Ep : Prop} (W : World) (b0 : Nat) (v : Value) (l : List Pc) (r : Pc) (n B : Nat) (s x : Operand) (hgd : o.guard = none)
    (ho : o.op = .call { callee := .builtin .append, args := #[s, x], argTypes := #[56, 56] }) (hs : a.eval s = v) (hx : a.eval x = .slice (some ⟨B, 0, none⟩) 1 1) (hn : l.length = n) (hl : n ≤ 10000)
    (hO : W.ownsRow b0 84 4 v n (pr l)) (hN : At W B (pcs r)) (hb : b0 ≤ W.heap.size)
    (h : ∀ g cap w', w'.ownsRow b0 84 4 (.slice (some ⟨g, 0, none⟩) (n + 1) cap) (n + 1) (pr (l ++ [r])) → W.grownBy w' v.ownBlock → K (a.put o.dst (.slice (some ⟨g, 0, none⟩) (n + 1) cap)) w') :
    if Region.wanted o (yielded ops a.tmps) = true then Oper.wp Tryd.prog o a W K Q else Ep := by
  have hml : 100000 ≤ maxLen := by decide
  have ones : ∀ u ∈ pcs r, u.oneCell' = true := by
    intro u hu
    simp only [List.mem_cons, List.not_mem_nil, or_false] at hu
    rcases hu with rfl | rfl | rfl | rfl <;> rfl
  obtain ⟨i0, hi, hz0, hz1, hz2⟩ := info_pt infoP4
  refine step_append_lies W hgd s x _ ho b0 _ i0 (.agg #[.int .i64 0, .int .i64 0, .int .i64 0, .int .i64 0]) 4 32 undP4 hi hz0 hz1 hz2 rfl (by decide) v n (pr l) hs hO ⟨B, 0, none⟩ 1 1 (pcs r) hx rfl (news_at hN) ones (by decide) (by omega) (by omega) hb _ rfl ?_
  intro g cap w' hown hgrow _ _
  rw [pr_snoc] at hown
  exact h g cap w' hown hgrow
/-- The first k pieces of a line. -/
def pk (l : List Sp) (k : Nat) : List Pc := (List.range k).map fun i => (sx l i, sx l (i + 1))
theorem pk_len (l : List Sp) (k : Nat) : (pk l k).length = k := by simp [pk]
theorem pk_succ (l : List Sp) (k : Nat) : pk l (k + 1) = pk l k ++ [(sx l k, sx l (k + 1))] := by simp [pk, List.range_succ]
set_option maxRecDepth 4000 in
set_option maxHeartbeats 4000000 in
theorem piecesOf_any {ad : Option Addr} {b o cap : Nat} {l : List Sp} (ll : l.length ≤ 5000) (w : World) (h : SSl w ad b o cap l) : Calls Tryd.prog 25 #[.slice ad l.length cap] w fun e w' => ∃ ad1 cap1, e = .returned (.slice ad1 (l.length - 1) cap1) ∧ w'.ownsRow w.heap.size 84 4 (.slice ad1 (l.length - 1) cap1) (l.length - 1) (pr (pk l (l.length - 1))) ∧ w.heap.size ≤ w'.heap.size ∧ Gr w w' := by
  have HR := hidb h
  clear h
  obtain ⟨n, hn⟩ : ∃ n, n = l.length := ⟨_, rfl⟩
  have HX := hidb (fun k (hk : k < n) => HR.out.ix k (by rw [← hn]; exact hk))
  rw [← hn] at HX ll ⊢
  have HNn := hidb hn
  clear hn
  go_enter Tryd.func25, Tryd.ntmps25
  go_wp2
  go_loopw [3, 4] (fun v t wr => ∃ (k : Nat), k ≤ n - 1 ∧ t = .int .i64 ((k : Int) + 1) ∧ wr.ownsRow w.heap.size 84 4 v k (pr (pk l k)) ∧ Hid (Gr w wr)) (fun _ t _ => n + 1 - (intOf t).toNat)
  case atStart => exact ⟨0, Nat.zero_le _, rfl, by simpa [pr, pk] using World.ownsRow_nil w w.heap.size 84 4, Gr.refl _⟩
  case round =>
    obtain ⟨k, hk, rfl, hown, HG⟩ := hrel
    obtain ⟨ad1, cap1, rfl⟩ := own_sh hown
    by_cases h1 : ¬ k + 1 < n
    · have h1' : ¬ (k : Int) + 1 < (n : Int) := by omega
      obtain rfl : k = n - 1 := by omega
      have HO := hidb hown
      clear h1 hown
      go_wp2
      go_ret
      exact ⟨_, _, rfl, HO.out, HG.out.out.size, HG.out⟩
    · have h1' : (k : Int) + 1 < (n : Int) := by omega
      have HKN := hidb (show k + 1 < n by omega)
      have HQ := hidb (fun W (hW : Gr w W) => And.intro ((HR.out.gr hW).row k (by rw [← HNn.out]; have := HKN.out; omega)).1 ((HR.out.gr hW).row (k + 1) (by rw [← HNn.out]; exact HKN.out)).1)
      have ix := HX.out k (by omega)
      have ix1 := HX.out (k + 1) (by omega)
      push_cast at ix1
      have e0 : IntKind.i64.wrap (k : Int) = (k : Int) := wr_in (by omega) (by omega)
      have e1 : IntKind.i64.wrap ((k : Int) + 1 + 1) = ((k + 1 : Nat) : Int) + 1 := by rw [show (k : Int) + 1 + 1 = ((k + 1 : Nat) : Int) + 1 by omega]; exact wr_in (by omega) (by omega)
      have HE1 := hidb e1
      have HS := hidb (pk_succ l k)
      have HLn := hidb (pk_len l k)
      have O3 := hown
      have HC := HG.out
      generalize sx l k = p at *
      generalize sx l (k + 1) = q at *
      clear h1 e1 hown
      go_upto_region 5 with fail
      refine wp_region_held_drew (S := (fun w' => (w'.cell? ⟨b, o + k * 2, none⟩ = some (.int .i64 p.1) ∧ w'.cell? ⟨b, o + k * 2 + 1, none⟩ = some (.int .i64 p.2)) ∧ w'.cell? ⟨b, o + (k + 1) * 2, none⟩ = some (.int .i64 q.1) ∧ w'.cell? ⟨b, o + (k + 1) * 2 + 1, none⟩ = some (.int .i64 q.2))) (by kernel_rfl) ?_ (fun hHeld => ?_)
      · (try dsimp only); (with_reducible first | exact HQ.out _ HC | exact HQ.out _ HC.drew | exact HQ.out _ (HC.alloc _) | exact HQ.out _ (HC.drew.alloc _) | exact HQ.out _ (HC.alloc _).drew)
      refine wt (i := 0) (v := ?vp0x2) rfl ?hp0x2 ?rp0x2
      case hp0x2 => (intro w hSw; (try dsimp only at hSw); go_simp; try with_reducible rfl)
      (try simp only [Act.put, lq1, lq2, lq4, lq5, lq6])
      refine wt (i := 1) (v := ?vp1x5) rfl ?hp1x5 ?rp1x5
      case hp1x5 => (intro w hSw; (try dsimp only at hSw); go_simp; try with_reducible rfl)
      (try simp only [Act.put, lq1, lq2, lq3, lq4, lq5, lq6])
      refine wt (i := 2) (v := ?vp2x8) rfl ?hp2x8 ?rp2x8
      case hp2x8 => (intro w hSw; (try dsimp only at hSw); go_simp; try with_reducible rfl)
      (try simp only [Act.put, lq1, lq2, lq3, lq4, lq5, lq6])
      refine wt (i := 3) (v := ?vp3x11) rfl ?hp3x11 ?rp3x11
      case hp3x11 => (intro w hSw; (try dsimp only at hSw); go_simp; try with_reducible rfl)
      (try simp only [Act.put, lq1, lq2, lq3, lq4, lq5, lq6])
      refine wt (i := 4) (v := ?vp4x14) rfl ?hp4x14 ?rp4x14
      case hp4x14 => (intro w hSw; (try dsimp only at hSw); go_simp; try with_reducible rfl)
      (try simp only [Act.put, lq1, lq2, lq3, lq4, lq5, lq6])
      refine wt (i := 5) (v := ?vp5x17) rfl ?hp5x17 ?rp5x17
      case hp5x17 => (intro w hSw; (try dsimp only at hSw); go_simp; try with_reducible rfl)
      (try simp only [Act.put, lq1, lq2, lq3, lq4, lq5, lq6])
      refine wt (i := 6) (v := ?vp6x20) rfl ?hp6x20 ?rp6x20
      case hp6x20 => (intro w hSw; (try dsimp only at hSw); go_simp; try with_reducible rfl)
      (try simp only [Act.put, lq1, lq2, lq3, lq4, lq5, lq6])
      refine wt (i := 7) (v := ?vp7x23) rfl ?hp7x23 ?rp7x23
      case hp7x23 => (intro w hSw; (try dsimp only at hSw); go_simp; try with_reducible rfl)
      (try simp only [Act.put, lq1, lq2, lq3, lq4, lq5, lq6])
      refine wt (i := 8) (v := ?vp8x26) rfl ?hp8x26 ?rp8x26
      case hp8x26 => (intro w hSw; (try dsimp only at hSw); go_simp; try with_reducible rfl)
      (try simp only [Act.put, lq1, lq2, lq3, lq4, lq5, lq6])
      refine wt (i := 9) (v := ?vp9x29) rfl ?hp9x29 ?rp9x29
      case hp9x29 => (intro w hSw; (try dsimp only at hSw); go_simp; try with_reducible rfl)
      (try simp only [Act.put, lq1, lq2, lq3, lq4, lq5, lq6])
      refine wt (i := 10) (v := ?vp10x32) rfl ?hp10x32 ?rp10x32
      case hp10x32 => (intro w hSw; (try dsimp only at hSw); go_simp; try with_reducible rfl)
      (try simp only [Act.put, lq1, lq2, lq3, lq4, lq5, lq6])
      refine wpAnyH_ready (rs := [11]) (by kernel_rfl) (by simp) ?_
      refine AllReadyH.cons rfl (fun K hK => ?_) AllReadyH.nil
      go_simp
      refine hK.out _ _ ?_ (fun hHeld => ?_)
      · (try dsimp only); (with_reducible first | exact HQ.out _ HC | exact HQ.out _ HC.drew | exact HQ.out _ (HC.alloc _) | exact HQ.out _ (HC.drew.alloc _) | exact HQ.out _ (HC.alloc _).drew)
      clear hK K
      refine wpAnyH_ready (rs := [12]) (by kernel_rfl) (by simp) ?_
      refine AllReadyH.cons rfl (fun K hK => ?_) AllReadyH.nil
      refine step_p4 _ w.heap.size (.slice ad1 k cap1) (pk l k) (p, q) k _ _ _ rfl rfl rfl rfl HLn.out (by omega) (by first | exact O3.alloc _ | exact O3.drew.alloc _) (by first | exact At.new4 _ _ _ _ _ _ | exact (At.new4 _ _ _ _ _ _).drew) (by have := HC.out.size; simp; omega) ?_
      intro g cap2 w2 hown2 hgrow2
      replace HC : Gr w w2 := Below.grown (by with_reducible first | exact (HC.alloc _).out | exact (HC.drew.alloc _).out | exact (HC.alloc _).drew.out) hgrow2 (by have := HC.out.size; simp; omega) (fun kk hkk => (O3.lt kk hkk).1)
      have HO2 := hidb hown2
      clear hgrow2 hown2
      refine hK.out _ _ ?_ (fun hHeld => ?_)
      · (try dsimp only); (with_reducible first | exact HQ.out _ HC | exact HQ.out _ HC.drew | exact HQ.out _ (HC.alloc _) | exact HQ.out _ (HC.drew.alloc _) | exact HQ.out _ (HC.alloc _).drew)
      clear hK K
      refine wt (i := 13) (v := ?vp13x51) rfl ?hp13x51 ?rp13x51
      case hp13x51 => (intro w hSw; (try dsimp only at hSw); go_simp; try with_reducible rfl)
      (try simp only [Act.put, lq1, lq2, lq3, lq4, lq5, lq6])
      refine wpAnyH_done (by kernel_rfl) ?_ _
      rw [← HS.out] at HO2
      have HC2 := hidb HC
      have e1 := HE1.out
      clear O3 HC ix ix1 e0
      go_wp2
      go_roundw
      case rel => exact ⟨k + 1, by have := HKN.out; omega, by go_num, HO2.out, by first | exact HC2 | exact HC2.out.drew⟩
      case measure => have := HKN.out; simp [intOf]; omega
/-- The edges of a ring. -/
def eg (l : List Sp) : List Pc := pk l (l.length - 1) ++ [(sx l (l.length - 1), sx l 0)]
theorem eg_len {l : List Sp} (h : 1 ≤ l.length) : (eg l).length = l.length := by simp [eg, pk]; omega
/-- What an arrow sweeps that goes along pieces. -/
def cr (p : Pc) : Int := p.1.1 * p.2.2 - p.2.1 * p.1.2
def sw (l : List Pc) : Int := (l.map cr).sum
theorem sw_snoc (l : List Pc) (p : Pc) : sw (l ++ [p]) = sw l + cr p := by simp [sw]
theorem cr_bd {p : Pc} (h1 : okS p.1) (h2 : okS p.2) : ∃ m1 m2, m1 = p.1.1 * p.2.2 ∧ m2 = p.2.1 * p.1.2 ∧ (-281474976710656 ≤ m1 ∧ m1 ≤ 281474976710656) ∧ -281474976710656 ≤ m2 ∧ m2 ≤ 281474976710656 := by
  unfold okS okC at h1 h2
  have a := ml_bd h1.1.1 h1.1.2 h2.2.1 h2.2.2
  have b := ml_bd h2.1.1 h2.1.2 h1.2.1 h1.2.2
  exact ⟨_, _, rfl, rfl, by omega, by omega⟩
theorem sw_bd : ∀ l : List Pc, (∀ p ∈ l, okS p.1 ∧ okS p.2) → -(562949953421312 * (l.length : Int)) ≤ sw l ∧ sw l ≤ 562949953421312 * (l.length : Int)
  | [], _ => by simp [sw]
  | p :: l, h => by
    have ih := sw_bd l (fun q hq => h q (by simp [hq]))
    obtain ⟨m1, m2, e1, e2, b1, b2⟩ := cr_bd (h p (by simp)).1 (h p (by simp)).2
    have e : sw (p :: l) = cr p + sw l := by simp [sw]
    have ec : cr p = m1 - m2 := by unfold cr; rw [e1, e2]
    rw [e, ec, List.length_cons]
    push_cast
    omega
set_option maxRecDepth 4000 in
set_option maxHeartbeats 4000000 in
theorem swept_any {ad : Option Addr} {b cap : Nat} {L : List Pc} (ll : L.length ≤ 5000) (hok : ∀ p ∈ L, okS p.1 ∧ okS p.2) (w : World) (h : PSl w ad b cap L) : Calls Tryd.prog 29 #[.slice ad L.length cap] w fun e w' => e = .returned (.int .i64 (sw L)) ∧ Gr w w' := by
  have HR := hidb h
  have HOK := hidb hok
  clear h hok
  obtain ⟨n, hn⟩ : ∃ n, n = L.length := ⟨_, rfl⟩
  have HX := hidb (fun k (hk : k < n) => HR.out.ix (k := k) (by rw [← hn]; exact hk))
  rw [← hn] at HX ll ⊢
  have HNn := hidb hn
  clear hn
  go_enter Tryd.func29, Tryd.ntmps29
  go_wp2
  go_loopw [3, 8] (fun v t wr => ∃ (k : Nat), k ≤ n ∧ t = .int .i64 (k : Int) ∧ v = .int .i64 (sw (L.take k)) ∧ Hid (Gr w wr)) (fun _ t _ => n - (intOf t).toNat)
  case atStart => exact ⟨0, Nat.zero_le _, rfl, by simp [sw], Gr.refl _⟩
  case round =>
    obtain ⟨k, hk, rfl, rfl, HG⟩ := hrel
    by_cases h1 : ¬ k < n
    · have h1' : ¬ (k : Int) < (n : Int) := by omega
      obtain rfl : k = n := by omega
      have hT : L.take k = L := List.take_of_length_le (by rw [HNn.out]; exact Nat.le_refl _)
      rw [hT]
      clear h1 hT
      go_wp2
      go_ret
      exact ⟨rfl, HG.out⟩
    · have h1' : (k : Int) < (n : Int) := by omega
      have hkn : k < L.length := by rw [← HNn.out]; omega
      have HKN := hidb (show k < n by omega)
      obtain ⟨⟨c0, c1, c2, c3⟩, cb⟩ := (HR.out.gr HG.out).row k hkn
      have ix := HX.out k (by omega)
      have e1 : IntKind.i64.wrap ((k : Int) + 1) = ((k + 1 : Nat) : Int) := by rw [show (k : Int) + 1 = ((k + 1 : Nat) : Int) by omega]; exact wr_in (by omega) (by omega)
      have hT : L.take (k + 1) = L.take k ++ [px L k] := by rw [List.take_succ_eq_append_getElem hkn, px_get hkn]
      have hm := HOK.out _ (List.getElem_mem hkn)
      rw [px_get hkn] at hm
      obtain ⟨m1, m2, f1, f2, b1, b2⟩ := cr_bd hm.1 hm.2
      have hs := sw_bd (L.take k) (fun p hp => HOK.out p (List.mem_of_mem_take hp))
      have hl : (L.take k).length = k := by rw [List.length_take]; omega
      rw [hl] at hs
      have HS : Hid (sw (L.take (k + 1)) = sw (L.take k) + (m1 - m2)) := by show _ = _; rw [hT, sw_snoc]; unfold cr; rw [f1, f2]
      generalize sw (L.take k) = z at *
      obtain ⟨d, hd⟩ : ∃ d, d = m1 - m2 := ⟨_, rfl⟩
      obtain ⟨z2, hz2⟩ : ∃ z2, z2 = z + d := ⟨_, rfl⟩
      have w1 : IntKind.i64.wrap ((px L k).1.1 * (px L k).2.2) = m1 := by rw [← f1]; exact wr_in (by omega) (by omega)
      have w2 : IntKind.i64.wrap ((px L k).2.1 * (px L k).1.2) = m2 := by rw [← f2]; exact wr_in (by omega) (by omega)
      have w3 : IntKind.i64.wrap (m1 - m2) = d := by rw [← hd]; exact wr_in (by omega) (by omega)
      have w4 : IntKind.i64.wrap (z + d) = z2 := by rw [← hz2]; exact wr_in (by omega) (by omega)
      have HS2 : Hid (z2 = sw (L.take (k + 1))) := by show _ = _; rw [HS.out, hz2, hd]
      generalize px L k = p at *
      obtain ⟨⟨a1, a2⟩, a3, a4⟩ := p
      dsimp only at c0 c1 c2 c3 w1 w2
      have HG2 := hidb (HG.out.alloc (.cells #[.int .i64 a1, .int .i64 a2, .int .i64 a3, .int .i64 a4] 84))
      clear h1 hkn hT hm f1 f2 b1 b2 hs hl HS hd hz2 cb
      go_wp2
      go_roundw
      case rel => exact ⟨k + 1, HKN.out, by go_num, by rw [HS2.out], HG2⟩
      case measure => have := HKN.out; simp [intOf]; omega
end Go.Proofs.YtnadgoomkaldkaaDoor
namespace Go.Proofs.YtnadgoomkaldkaaDoor
open Go.RowKit
attribute [local go_sem ↓] Go.wp_at_zero Go.wp_at_succ

/-- The point behind the i-th one, in a ring of n points. -/
def nx (n i : Nat) : Nat := if i + 1 = n then 0 else i + 1
/-- The first k points are right for the reference. -/
def rek (l : List Sp) (k : Nat) : Prop := ∀ i, i < k → okS (sx l i) ∧ ¬ sx l i = sx l (nx l.length i)
theorem rek_rg {l : List Sp} (h3 : 3 ≤ l.length) : rek l l.length ↔ rgP l := by
  constructor
  · intro h
    refine ⟨h3, fun i hi => ⟨(h i hi).1, fun h0 e => ?_⟩, fun e => ?_⟩
    · have := (h (i - 1) (by omega)).2
      unfold nx at this
      rw [if_neg (by omega), show i - 1 + 1 = i by omega] at this
      exact this e.symm
    · have := (h (l.length - 1) (by omega)).2
      unfold nx at this
      rw [if_pos (by omega)] at this
      exact this e.symm
  · rintro ⟨_, h1, h2⟩ i hi
    refine ⟨(h1 i hi).1, fun e => ?_⟩
    unfold nx at e
    split at e
    · rename_i c
      exact h2 (by rw [← e]; congr 1; omega)
    · have := (h1 (i + 1) (by omega)).2 (by omega)
      rw [Nat.add_sub_cancel] at this
      exact this e.symm
end Go.Proofs.YtnadgoomkaldkaaDoor
namespace Go.Proofs.YtnadgoomkaldkaaDoor
open Go.RowKit
attribute [local go_sem ↓] Go.wp_at_zero Go.wp_at_succ

/-- A piece's lower and its upper end. -/
def lwE (p : Pc) : Sp := if p.2.2 < p.1.2 then p.2 else p.1
def upE (p : Pc) : Sp := if p.2.2 < p.1.2 then p.1 else p.2
/-- A piece to the east of a point. -/
def esP (p : Pc) (s : Sp) : Prop := ((lwE p).2 ≤ s.2 ∧ s.2 < (upE p).2) ∧ 0 < tn (lwE p) (upE p) s
instance (p : Pc) (s : Sp) : Decidable (esP p s) := by unfold esP; exact inferInstance
theorem rcd_ok {l : List Sp} (h : rcd l = 0) : l.length ≤ 4000 ∧ rgP l := by
  unfold rcd at h
  split at h
  · cases h
  · split at h
    · exact ⟨by omega, by assumption⟩
    · cases h
theorem rg_ok {l : List Sp} (h : rgP l) : ∀ i, i < l.length → okS (sx l i) := fun i hi => (h.2.1 i hi).1
theorem pk_ok {l : List Sp} {k : Nat} (h : ∀ i, i < l.length → okS (sx l i)) (hk : k < l.length) : ∀ p ∈ pk l k, okS p.1 ∧ okS p.2 := by
  intro p hp
  simp only [pk, List.mem_map, List.mem_range] at hp
  obtain ⟨i, hi, rfl⟩ := hp
  exact ⟨h i (by omega), h (i + 1) (by omega)⟩
theorem eg_ok {l : List Sp} (h : ∀ i, i < l.length → okS (sx l i)) (h1 : 1 ≤ l.length) : ∀ p ∈ eg l, okS p.1 ∧ okS p.2 := by
  intro p hp
  unfold eg at hp
  rcases List.mem_append.1 hp with hp | hp
  · exact pk_ok h (by omega) p hp
  · rw [List.mem_singleton] at hp
    subst hp
    exact ⟨h _ (by omega), h 0 (by omega)⟩
theorem ev_zero (g : Nat → Addr) : ev g 0 = .nilIface := rfl
theorem ev_pos (g : Nat → Addr) {c : Nat} (h : ¬ c = 0) : ev g c = errV g (c - 1) := if_neg h
/-- Where a point is, by the edges. -/
def sdP (L : List Pc) (s : Sp) : Int := L.foldl (fun z e => if esP e s then -z else z) (-1)
theorem sdP_snoc (L : List Pc) (e : Pc) (s : Sp) : sdP (L ++ [e]) s = if esP e s then - sdP L s else sdP L s := by simp [sdP]
theorem sdP_one : ∀ (L : List Pc) (s : Sp), sdP L s = 1 ∨ sdP L s = -1 := by
  have key : ∀ (L : List Pc) (s : Sp) (z : Int), (z = 1 ∨ z = -1) → (L.foldl (fun z e => if esP e s then -z else z) z = 1 ∨ L.foldl (fun z e => if esP e s then -z else z) z = -1) := by
    intro L
    induction L with
    | nil => intro s z hz; exact hz
    | cons e L ih =>
      intro s z hz
      rw [List.foldl_cons]
      refine ih s _ ?_
      split <;> omega
  exact fun L s => key L s (-1) (.inr rfl)
def whP (L : List Pc) (s : Sp) : Int := if ∃ e ∈ L, hsP e s then 0 else sdP L s
theorem whP_hit {L : List Pc} {s : Sp} {e : Pc} (h : e ∈ L) (k : hsP e s) : whP L s = 0 := if_pos ⟨e, h, k⟩
end Go.Proofs.YtnadgoomkaldkaaDoor
namespace Go.Proofs.YtnadgoomkaldkaaDoor
open Go.RowKit

theorem sum_perm {a b : List Int} (h : a.Perm b) : a.sum = b.sum := by
  induction h with
  | nil => rfl
  | cons x _ ih => simp [ih]
  | swap x y l => simp; omega
  | trans _ _ h1 h2 => exact h1.trans h2
theorem eg_map {l : List Sp} (h : 1 ≤ l.length) : eg l = (List.range l.length).map fun i => (sx l i, sx l ((i + 1) % l.length)) := by
  obtain ⟨m, hm⟩ : ∃ m, l.length = m + 1 := ⟨l.length - 1, by omega⟩
  unfold eg pk
  rw [hm, List.range_succ, List.map_append, Nat.add_sub_cancel]
  congr 1
  · refine List.map_congr_left fun i hi => ?_
    rw [List.mem_range] at hi
    rw [Nat.mod_eq_of_lt (by omega)]
  · simp
theorem rot_one {α : Type} (n : Nat) (f : Nat → α) : ((List.range n).map fun i => f ((i + 1) % n)).Perm ((List.range n).map f) := by
  cases n with
  | zero => simp
  | succ m =>
    have e1 : ((List.range (m + 1)).map fun i => f ((i + 1) % (m + 1))) = ((List.range m).map fun i => f (i + 1)) ++ [f 0] := by
      rw [List.range_succ, List.map_append]
      congr 1
      · refine List.map_congr_left fun i hi => ?_
        rw [List.mem_range] at hi
        rw [Nat.mod_eq_of_lt (by omega)]
      · simp
    have e2 : (List.range (m + 1)).map f = f 0 :: ((List.range m).map fun i => f (i + 1)) := by
      rw [List.range_succ_eq_map, List.map_cons, List.map_map]
      rfl
    rw [e1, e2]
    exact List.perm_append_singleton _ _
theorem rot_perm {α : Type} (n : Nat) : ∀ (k : Nat) (f : Nat → α), ((List.range n).map fun i => f ((i + k) % n)).Perm ((List.range n).map f)
  | 0, f => by
    have : ((List.range n).map fun i => f ((i + 0) % n)) = (List.range n).map f := by
      refine List.map_congr_left fun i hi => ?_
      rw [List.mem_range] at hi
      rw [Nat.add_zero, Nat.mod_eq_of_lt hi]
    rw [this]
  | k + 1, f => by
    have h1 := rot_one n (fun j => f ((j + k) % n))
    have e : ((List.range n).map fun i => f (((i + 1) % n + k) % n)) = (List.range n).map fun i => f ((i + (k + 1)) % n) := by
      refine List.map_congr_left fun i _ => ?_
      rw [Nat.mod_add_mod, show i + 1 + k = i + (k + 1) by omega]
    rw [e] at h1
    exact h1.trans (rot_perm n k f)
theorem sw_perm {a b : List Pc} (h : a.Perm b) : sw a = sw b := sum_perm (h.map cr)
/-- How many pieces lie to the east. -/
theorem sdP_cnt (L : List Pc) (s : Sp) : sdP L s = if L.countP (fun e => decide (esP e s)) % 2 = 1 then 1 else -1 := by
  have key : ∀ (L : List Pc) (z : Int), L.foldl (fun z e => if esP e s then -z else z) z = if L.countP (fun e => decide (esP e s)) % 2 = 1 then -z else z := by
    intro L
    induction L with
    | nil => intro z; simp
    | cons e L ih =>
      intro z
      rw [List.foldl_cons, ih, List.countP_cons]
      by_cases c : esP e s
      · simp only [c, if_true, decide_true]
        by_cases d : L.countP (fun e => decide (esP e s)) % 2 = 1
        · rw [if_pos d, if_neg (by omega)]; omega
        · rw [if_neg d, if_pos (by omega)]
      · simp [c]
  unfold sdP
  rw [key]
  simp
theorem whP_perm {a b : List Pc} (h : a.Perm b) (s : Sp) : whP a s = whP b s := by
  have e1 : (∃ e ∈ a, hsP e s) ↔ ∃ e ∈ b, hsP e s := ⟨fun ⟨e, he, k⟩ => ⟨e, h.mem_iff.1 he, k⟩, fun ⟨e, he, k⟩ => ⟨e, h.mem_iff.2 he, k⟩⟩
  have e2 : sdP a s = sdP b s := by rw [sdP_cnt, sdP_cnt, h.countP_eq]
  unfold whP
  by_cases c : ∃ e ∈ a, hsP e s
  · rw [if_pos c, if_pos (e1.1 c)]
  · rw [if_neg c, if_neg (fun k => c (e1.2 k)), e2]
/-- What changes pieces and a point, but not how they lie. -/
theorem whP_map {L : List Pc} {f : Pc → Pc} {s t : Sp} (h1 : ∀ e, hsP (f e) t ↔ hsP e s) (h2 : ∀ e, esP (f e) t ↔ esP e s) : whP (L.map f) t = whP L s := by
  have e1 : (∃ e ∈ L.map f, hsP e t) ↔ ∃ e ∈ L, hsP e s := by
    constructor
    · rintro ⟨e, he, k⟩
      obtain ⟨e', he', rfl⟩ := List.mem_map.1 he
      exact ⟨e', he', (h1 e').1 k⟩
    · rintro ⟨e, he, k⟩
      exact ⟨f e, List.mem_map.2 ⟨e, he, rfl⟩, (h1 e).2 k⟩
  have e2 : sdP (L.map f) t = sdP L s := by
    rw [sdP_cnt, sdP_cnt, List.countP_map]
    have : ((fun e => decide (esP e t)) ∘ f) = fun e => decide (esP e s) := by funext e; exact decide_eq_decide.2 (h2 e)
    rw [this]
  unfold whP
  by_cases c : ∃ e ∈ L, hsP e s
  · rw [if_pos c, if_pos (e1.2 c)]
  · rw [if_neg c, if_neg (fun k => c (e1.1 k)), e2]
/-- A piece the other way round. -/
def tnP (p : Pc) : Pc := (p.2, p.1)
theorem tn_turn (a b s : Sp) : tn b a s = - tn a b s := by unfold tn; grind
theorem hsP_turn (p : Pc) (s : Sp) : hsP (tnP p) s ↔ hsP p s := by
  unfold hsP tnP nrP
  dsimp only
  rw [tn_turn]
  constructor <;> rintro ⟨h1, h2⟩ <;> exact ⟨by omega, by omega⟩
theorem esP_turn (p : Pc) (s : Sp) : esP (tnP p) s ↔ esP p s := by
  by_cases c : p.2.2 < p.1.2
  · have e1 : lwE (tnP p) = lwE p := by unfold lwE tnP; dsimp only; rw [if_pos c, if_neg (by omega)]
    have e2 : upE (tnP p) = upE p := by unfold upE tnP; dsimp only; rw [if_pos c, if_neg (by omega)]
    unfold esP
    rw [e1, e2]
  · by_cases d : p.1.2 < p.2.2
    · have e1 : lwE (tnP p) = lwE p := by unfold lwE tnP; dsimp only; rw [if_neg c, if_pos d]
      have e2 : upE (tnP p) = upE p := by unfold upE tnP; dsimp only; rw [if_neg c, if_pos d]
      unfold esP
      rw [e1, e2]
    · have e1 : lwE p = p.1 := by unfold lwE; rw [if_neg c]
      have e2 : upE p = p.2 := by unfold upE; rw [if_neg c]
      have e3 : lwE (tnP p) = p.2 := by unfold lwE tnP; dsimp only; rw [if_neg d]
      have e4 : upE (tnP p) = p.1 := by unfold upE tnP; dsimp only; rw [if_neg d]
      unfold esP
      rw [e1, e2, e3, e4]
      constructor <;> rintro ⟨⟨h1, h2⟩, _⟩ <;> omega
theorem sw_turn : ∀ L : List Pc, sw (L.map tnP) = - sw L
  | [] => by simp [sw]
  | p :: L => by
    have ih := sw_turn L
    have e1 : sw (p :: L) = cr p + sw L := by simp [sw]
    have e2 : sw ((p :: L).map tnP) = cr (tnP p) + sw (L.map tnP) := by simp [sw]
    have e3 : cr (tnP p) = - cr p := by unfold cr tnP; dsimp only; grind
    rw [e1, e2, e3, ih]
    omega
/-- A point, a piece, moved. -/
def mv (d p : Sp) : Sp := (p.1 + d.1, p.2 + d.2)
def mvP (d : Sp) (p : Pc) : Pc := (mv d p.1, mv d p.2)
theorem tn_mv (d a b c : Sp) : tn (mv d a) (mv d b) (mv d c) = tn a b c := by unfold tn mv; dsimp only; grind
theorem hsP_mv (d : Sp) (p : Pc) (s : Sp) : hsP (mvP d p) (mv d s) ↔ hsP p s := by
  unfold hsP mvP
  dsimp only
  rw [tn_mv]
  unfold nrP mv
  dsimp only
  constructor <;> rintro ⟨h1, h2⟩ <;> exact ⟨h1, by omega⟩
theorem esP_mv (d : Sp) (p : Pc) (s : Sp) : esP (mvP d p) (mv d s) ↔ esP p s := by
  have e1 : lwE (mvP d p) = mv d (lwE p) := by
    unfold lwE mvP
    by_cases c : p.2.2 < p.1.2
    · rw [if_pos c, if_pos (by unfold mv; dsimp only; omega)]
    · rw [if_neg c, if_neg (by unfold mv; dsimp only; omega)]
  have e2 : upE (mvP d p) = mv d (upE p) := by
    unfold upE mvP
    by_cases c : p.2.2 < p.1.2
    · rw [if_pos c, if_pos (by unfold mv; dsimp only; omega)]
    · rw [if_neg c, if_neg (by unfold mv; dsimp only; omega)]
  unfold esP
  rw [e1, e2, tn_mv]
  unfold mv
  dsimp only
  constructor <;> rintro ⟨⟨h1, h2⟩, h3⟩ <;> exact ⟨⟨by omega, by omega⟩, h3⟩
theorem sw_mv (d : Sp) : ∀ L : List Pc, sw (L.map (mvP d)) = sw L + d.1 * ((L.map fun e => e.2.2).sum - (L.map fun e => e.1.2).sum) + d.2 * ((L.map fun e => e.1.1).sum - (L.map fun e => e.2.1).sum)
  | [] => by simp [sw]
  | p :: L => by
    have ih := sw_mv d L
    have e1 : sw (p :: L) = cr p + sw L := by simp [sw]
    have e2 : sw ((p :: L).map (mvP d)) = cr (mvP d p) + sw (L.map (mvP d)) := by simp [sw]
    have e3 : cr (mvP d p) = cr p + d.1 * (p.2.2 - p.1.2) + d.2 * (p.1.1 - p.2.1) := by unfold cr mvP mv; dsimp only; grind
    rw [e1, e2, e3, ih]
    simp only [List.map_cons, List.sum_cons]
    grind
/-- The edge that begins at the j-th point. -/
def ed (l : List Sp) (j : Nat) : Pc := (sx l j, sx l ((j + 1) % l.length))
theorem eg_ed {l : List Sp} (h : 1 ≤ l.length) : eg l = (List.range l.length).map (ed l) := eg_map h
theorem eg_flat {l : List Sp} (h : 1 ≤ l.length) (f : Sp → Int) : ((eg l).map fun e => f e.2).sum = ((eg l).map fun e => f e.1).sum := by
  rw [eg_ed h, List.map_map, List.map_map]
  exact sum_perm (rot_one l.length (fun j => f (sx l j)))
def rvL (l : List Sp) : List Sp := (List.range l.length).map fun i => sx l (l.length - 1 - i)
def mvL (d : Sp) (k : Nat) (l : List Sp) : List Sp := (List.range l.length).map fun i => mv d (sx l ((i + k) % l.length))
theorem rvL_len (l : List Sp) : (rvL l).length = l.length := by simp [rvL]
theorem mvL_len (d : Sp) (k : Nat) (l : List Sp) : (mvL d k l).length = l.length := by simp [mvL]
theorem rvL_at {l : List Sp} {i : Nat} (h : i < l.length) : sx (rvL l) i = sx l (l.length - 1 - i) := by
  have : i < (rvL l).length := by rw [rvL_len]; exact h
  rw [← sx_get this]; simp [rvL]
theorem mvL_at {d : Sp} {k : Nat} {l : List Sp} {i : Nat} (h : i < l.length) : sx (mvL d k l) i = mv d (sx l ((i + k) % l.length)) := by
  have : i < (mvL d k l).length := by rw [mvL_len]; exact h
  rw [← sx_get this]; simp [mvL]
theorem eg_rv {l : List Sp} (h : 1 ≤ l.length) : (eg (rvL l)).Perm ((eg l).map tnP) := by
  have hn : (rvL l).length = l.length := rvL_len l
  rw [eg_ed (by omega), eg_ed h, hn, List.map_map]
  have e : (List.range l.length).map (ed (rvL l)) = (List.range l.length).reverse.map fun i => tnP (ed l ((i + (l.length - 1)) % l.length)) := by
    apply List.ext_getElem
    · simp
    · intro i h1 h2
      have hi : i < l.length := by simpa using h1
      simp only [List.getElem_map, List.getElem_range, List.getElem_reverse, List.length_range]
      unfold ed tnP
      dsimp only
      rw [hn, rvL_at hi, rvL_at (Nat.mod_lt _ (by omega))]
      by_cases c : i + 1 = l.length
      · have a1 : l.length - 1 - i = 0 := by omega
        rw [a1, c, Nat.mod_self, Nat.zero_add, Nat.sub_zero, Nat.mod_eq_of_lt (show l.length - 1 < l.length by omega), show l.length - 1 + 1 = l.length by omega, Nat.mod_self]
      · have a1 : (i + 1) % l.length = i + 1 := Nat.mod_eq_of_lt (by omega)
        have a2 : (l.length - 1 - i + (l.length - 1)) % l.length = l.length - 1 - (i + 1) := by
          rw [show l.length - 1 - i + (l.length - 1) = (l.length - 1 - (i + 1)) + l.length by omega, Nat.add_mod_right]
          exact Nat.mod_eq_of_lt (by omega)
        rw [a1, a2, show l.length - 1 - (i + 1) + 1 = l.length - 1 - i by omega, Nat.mod_eq_of_lt (show l.length - 1 - i < l.length by omega)]
  rw [e]
  exact ((List.reverse_perm _).map _).trans (rot_perm l.length (l.length - 1) (fun j => tnP (ed l j)))
theorem eg_mv {l : List Sp} (h : 1 ≤ l.length) (d : Sp) (k : Nat) : (eg (mvL d k l)).Perm ((eg l).map (mvP d)) := by
  have hn : (mvL d k l).length = l.length := mvL_len d k l
  rw [eg_ed (by omega), eg_ed h, hn, List.map_map]
  have e : (List.range l.length).map (ed (mvL d k l)) = (List.range l.length).map fun i => mvP d (ed l ((i + k) % l.length)) := by
    refine List.map_congr_left fun i hi => ?_
    rw [List.mem_range] at hi
    unfold ed mvP
    dsimp only
    rw [hn, mvL_at hi, mvL_at (Nat.mod_lt _ (by omega)), Nat.mod_add_mod, Nat.mod_add_mod, show i + 1 + k = i + k + 1 by omega]
  rw [e]
  exact rot_perm l.length k (fun j => mvP d (ed l j))
theorem sw_rv {l : List Sp} (h : 1 ≤ l.length) : sw (eg (rvL l)) = - sw (eg l) := by rw [sw_perm (eg_rv h), sw_turn]
theorem sw_mvL {l : List Sp} (h : 1 ≤ l.length) (d : Sp) (k : Nat) : sw (eg (mvL d k l)) = sw (eg l) := by
  rw [sw_perm (eg_mv h d k), sw_mv, eg_flat h (fun p => p.2), eg_flat h (fun p => p.1)]
  simp
theorem wh_rv {l : List Sp} (h : 1 ≤ l.length) (s : Sp) : whP (eg (rvL l)) s = whP (eg l) s := by
  rw [whP_perm (eg_rv h), whP_map (fun e => hsP_turn e s) (fun e => esP_turn e s)]
theorem wh_mvL {l : List Sp} (h : 1 ≤ l.length) (d : Sp) (k : Nat) (s : Sp) : whP (eg (mvL d k l)) (mv d s) = whP (eg l) s := by
  rw [whP_perm (eg_mv h d k), whP_map (fun e => hsP_mv d e s) (fun e => esP_mv d e s)]
theorem rcd_rv {l : List Sp} (h : rcd l = 0) : rcd (rvL l) = 0 := by
  obtain ⟨h4, h3, hs, hne⟩ := rcd_ok h
  unfold rcd
  rw [if_neg (by rw [rvL_len]; omega), if_pos]
  refine ⟨by rw [rvL_len]; exact h3, fun i hi => ?_, ?_⟩
  · rw [rvL_len] at hi
    rw [rvL_at hi]
    refine ⟨(hs _ (by omega)).1, fun h0 => ?_⟩
    rw [rvL_at (by omega)]
    have := (hs (l.length - 1 - (i - 1)) (by omega)).2 (by omega)
    rw [show l.length - 1 - (i - 1) - 1 = l.length - 1 - i by omega] at this
    exact fun e => this e.symm
  · rw [rvL_len, rvL_at (by omega), rvL_at (by omega), Nat.sub_zero, Nat.sub_self]
    exact fun e => hne e.symm
end Go.Proofs.YtnadgoomkaldkaaDoor
namespace Go.Proofs.YtnadgoomkaldkaaDoor
open Go.RowKit
attribute [local go_sem ↓] Go.wp_at_zero Go.wp_at_succ

def fwP (n : Nat) : Prop := n ≤ 30 ∨ (4000 < n ∧ n < 4005)
instance (n : Nat) : Decidable (fwP n) := by unfold fwP; exact inferInstance
theorem infoS2 : (Tryd.prog.info? 52).map (fun i => (i.zero, i.size, i.bytes)) = some (some (.agg #[.int .i64 0, .int .i64 0]), 2, 16) := by kernel_rfl
theorem undS2 : Tryd.prog.underlying 43 = some (.slice 52) := by kernel_rfl
theorem wpList_s2 {ops : Array Oper} {rest : List Oper} {o : Oper} {a : Act} {Q : Exit → Act → World → Prop} (W : World) (b0 : Nat) (v : Value) (l : List Sp) (r : Sp) (n B : Nat) (s x : Operand) (hgd : o.guard = none)
    (ho : o.op = .call { callee := .builtin .append, args := #[s, x], argTypes := #[43, 43] }) (hs : a.eval s = v) (hx : a.eval x = .slice (some ⟨B, 0, none⟩) 1 1) (hn : l.length = n) (hl : n ≤ 10000)
    (hO : W.ownsRow b0 52 2 v n (sr l)) (hN : At W B (sc r)) (hb : b0 ≤ W.heap.size)
    (h : ∀ g cap w', Hid (w'.ownsRow b0 52 2 (.slice (some ⟨g, 0, none⟩) (n + 1) cap) (n + 1) (sr (l ++ [r]))) → Hid (W.grownBy w' v.ownBlock) → Hid (v.ownBlock = some g ∨ g = W.heap.size) → wpList Tryd.prog ops Q rest (a.put o.dst (.slice (some ⟨g, 0, none⟩) (n + 1) cap)) w') : wpList Tryd.prog ops Q (o :: rest) a W := by
  have hml : 100000 ≤ maxLen := by decide
  have ones : ∀ u ∈ sc r, u.oneCell' = true := by
    intro u hu
    simp only [List.mem_cons, List.not_mem_nil, or_false] at hu
    rcases hu with rfl | rfl <;> rfl
  obtain ⟨i0, hi, hz0, hz1, hz2⟩ := info_pt infoS2
  refine wpList_append_own_at _ hgd s x _ ho b0 _ i0 (.agg #[.int .i64 0, .int .i64 0]) 2 16 undS2 hi hz0 hz1 hz2 rfl (by decide) v n (sr l) hs hO ⟨B, 0, none⟩ 1 1 (sc r) hx rfl (news_at hN) ones (by omega) (by omega) hb ?_
  intro v' w' hown hgrow _ hloc
  rw [sr_snoc] at hown
  obtain ⟨g, cap, rfl⟩ : ∃ g cap, v' = .slice (some ⟨g, 0, none⟩) (n + 1) cap := by
    obtain ⟨_, ⟨_, h0⟩ | ⟨g, cap, cur, hv, _⟩⟩ := hown
    · omega
    · exact ⟨g, cap, hv⟩
  refine h g cap w' hown hgrow ?_
  rcases hloc with e | e
  · exact .inl e.symm
  · exact .inr (Option.some.inj e)
/-- Two rows of points, in blocks of their own. -/
structure Tw (W : World) (base : Nat) (v : Value) (l : List Sp) (v' : Value) (l' : List Sp) : Prop where
  r1 : W.ownsRow base 52 2 v l.length (sr l)
  r2 : W.ownsRow base 52 2 v' l'.length (sr l')
  ne : ∀ k, v.ownBlock = some k → v'.ownBlock ≠ some k
theorem Tw.below {W w' : World} {base : Nat} {v v' : Value} {l l' : List Sp} (h : Tw W base v l v' l') (hB : Below W.heap.size W w') : Tw w' base v l v' l' := ⟨own_kp h.r1 hB, own_kp h.r2 hB, h.ne⟩
theorem Tw.alloc {W : World} {base : Nat} {v v' : Value} {l l' : List Sp} (h : Tw W base v l v' l') (o : Obj) : Tw (W.alloc o) base v l v' l' := ⟨h.r1.alloc o, h.r2.alloc o, h.ne⟩
theorem Tw.nil (W : World) (base : Nat) : Tw W base (.slice none 0 0) [] (.slice none 0 0) [] := ⟨World.ownsRow_nil _ _ _ _, World.ownsRow_nil _ _ _ _, fun k h => by cases h⟩
theorem tw_kept {W w' : World} {base n : Nat} {v v' : Value} {xs : List Value} (h : W.ownsRow base 52 2 v' n xs) (hg : W.grownBy w' v.ownBlock) (ne : ∀ k, v.ownBlock = some k → v'.ownBlock ≠ some k) : w'.ownsRow base 52 2 v' n xs := by
  refine h.kept hg ?_
  cases e : v'.ownBlock with
  | none => exact .inl rfl
  | some k => exact .inr (fun e2 => ne k e2.symm e)
theorem Tw.app1 {W w' : World} {base g cap n : Nat} {v v' : Value} {l l' : List Sp} {x : Sp} (h : Tw W base v l v' l') (hn : l.length = n) (hr : w'.ownsRow base 52 2 (.slice (some ⟨g, 0, none⟩) (n + 1) cap) (n + 1) (sr (l ++ [x]))) (hg : W.grownBy w' v.ownBlock) (hat : v.ownBlock = some g ∨ g = W.heap.size) : Tw w' base (.slice (some ⟨g, 0, none⟩) (n + 1) cap) (l ++ [x]) v' l' := by
  refine ⟨by rw [List.length_append, hn]; exact hr, tw_kept h.r2 hg h.ne, fun k hk => ?_⟩
  have hk' : g = k := Option.some.inj hk
  subst hk'
  rcases hat with e | e
  · exact h.ne g e
  · intro e2
    have h1 := (h.r2.lt g e2).2
    omega
theorem Tw.app2 {W w' : World} {base g cap n : Nat} {v v' : Value} {l l' : List Sp} {x : Sp} (h : Tw W base v l v' l') (hn : l'.length = n) (hr : w'.ownsRow base 52 2 (.slice (some ⟨g, 0, none⟩) (n + 1) cap) (n + 1) (sr (l' ++ [x]))) (hg : W.grownBy w' v'.ownBlock) (hat : v'.ownBlock = some g ∨ g = W.heap.size) : Tw w' base v l (.slice (some ⟨g, 0, none⟩) (n + 1) cap) (l' ++ [x]) := by
  refine ⟨tw_kept h.r1 hg (fun k hk e => h.ne k e hk), by rw [List.length_append, hn]; exact hr, fun k hk e2 => ?_⟩
  have hk' : g = k := Option.some.inj e2
  subst hk'
  rcases hat with e | e
  · exact h.ne g hk e
  · have h1 := (h.r1.lt g hk).2
    omega
theorem SSl.grw {W w2 : World} {ad : Option Addr} {b o cap : Nat} {l : List Sp} {row : Option Nat} (h : SSl W ad b o cap l) (hg : W.grownBy w2 row) (hne : row ≠ some b) : SSl w2 ad b o cap l :=
  ⟨fun i hi => by
    obtain ⟨⟨h1, h2⟩, h3⟩ := h.row i hi
    have hb := hg.block b h3 (fun e => hne e.symm)
    exact ⟨⟨(World.cell?_of_block (w := W) (a := ⟨b, o + i * 2, none⟩) hb).trans h1, (World.cell?_of_block (w := W) (a := ⟨b, o + i * 2 + 1, none⟩) hb).trans h2⟩, Nat.lt_of_lt_of_le h3 hg.size⟩, h.ix⟩
/-- What lies in memory while a ring is turned and moved. -/
structure LT (w W : World) (base : Nat) (p q : Sp) (ad : Option Addr) (b o cap : Nat) (l : List Sp) (v : Value) (L1 : List Sp) (v' : Value) (L2 : List Sp) : Prop where
  p : At W w.heap.size (sc p)
  q : At W (w.heap.size + 1) (sc q)
  s : SSl W ad b o cap l
  tw : Tw W base v L1 v' L2
  gr : Gr w W
  lt : w.heap.size + 1 < base ∧ base ≤ W.heap.size ∧ b < base
section
variable {w W : World} {base : Nat} {p q : Sp} {ad : Option Addr} {b o cap : Nat} {l : List Sp} {v v' : Value} {L1 L2 : List Sp}
theorem LT.below {w' : World} (h : LT w W base p q ad b o cap l v L1 v' L2) (hB : Below W.heap.size W w') : LT w w' base p q ad b o cap l v L1 v' L2 :=
  ⟨At.below hB h.p, At.below hB h.q, h.s.below hB, h.tw.below hB, Gr.step h.gr hB, h.lt.1, Nat.le_trans h.lt.2.1 hB.size, h.lt.2.2⟩
theorem LT.alloc (h : LT w W base p q ad b o cap l v L1 v' L2) (ob : Obj) : LT w (W.alloc ob) base p q ad b o cap l v L1 v' L2 := h.below ((Below.refl _ _).alloc (Nat.le_refl _) ob)
theorem LT.app1 {w' : World} {g cp n : Nat} {x : Sp} (h : LT w W base p q ad b o cap l v L1 v' L2) (hn : L1.length = n) (hr : w'.ownsRow base 52 2 (.slice (some ⟨g, 0, none⟩) (n + 1) cp) (n + 1) (sr (L1 ++ [x]))) (hg : W.grownBy w' v.ownBlock) (hat : v.ownBlock = some g ∨ g = W.heap.size) : LT w w' base p q ad b o cap l (.slice (some ⟨g, 0, none⟩) (n + 1) cp) (L1 ++ [x]) v' L2 := by
  have hv : ∀ i, i < base → v.ownBlock ≠ some i := fun i hi e => by have := (h.tw.r1.lt i e).1; omega
  exact ⟨h.p.grw hg (hv _ (by have := h.lt; omega)), h.q.grw hg (hv _ h.lt.1), h.s.grw hg (hv _ h.lt.2.2), h.tw.app1 hn hr hg hat, Below.grown h.gr.out hg h.gr.out.size (fun k hk => by have := (h.tw.r1.lt k hk).1; have := h.lt; omega), h.lt.1, Nat.le_trans h.lt.2.1 hg.size, h.lt.2.2⟩
theorem LT.app2 {w' : World} {g cp n : Nat} {x : Sp} (h : LT w W base p q ad b o cap l v L1 v' L2) (hn : L2.length = n) (hr : w'.ownsRow base 52 2 (.slice (some ⟨g, 0, none⟩) (n + 1) cp) (n + 1) (sr (L2 ++ [x]))) (hg : W.grownBy w' v'.ownBlock) (hat : v'.ownBlock = some g ∨ g = W.heap.size) : LT w w' base p q ad b o cap l v L1 (.slice (some ⟨g, 0, none⟩) (n + 1) cp) (L2 ++ [x]) := by
  have hv : ∀ i, i < base → v'.ownBlock ≠ some i := fun i hi e => by have := (h.tw.r2.lt i e).1; omega
  exact ⟨h.p.grw hg (hv _ (by have := h.lt; omega)), h.q.grw hg (hv _ h.lt.1), h.s.grw hg (hv _ h.lt.2.2), h.tw.app2 hn hr hg hat, Below.grown h.gr.out hg h.gr.out.size (fun k hk => by have := (h.tw.r2.lt k hk).1; have := h.lt; omega), h.lt.1, Nat.le_trans h.lt.2.1 hg.size, h.lt.2.2⟩
end
/-- The remainder by a thousand. -/
def thM (x : Int) : Int := x.tmod 1000
theorem thM_bd (x : Int) : -1000 < thM x ∧ thM x < 1000 := by
  unfold thM
  have := Int.tmod_lt_of_pos x (show (0 : Int) < 1000 by decide)
  have := Int.lt_tmod_of_pos x (show (0 : Int) < 1000 by decide)
  omega
end Go.Proofs.YtnadgoomkaldkaaDoor
namespace Go.Proofs.YtnadgoomkaldkaaDoor
open Go.RowKit
attribute [local go_sem ↓] Go.wp_at_zero Go.wp_at_succ

/-- A slice of points that the law is handed. -/
def SArg (w : World) (ad : Option Addr) (n cap : Nat) : Prop := ∃ (b o : Nat) (l : List Sp), l.length = n ∧ SSl w ad b o cap l
/-- What lies in memory when both rings are made. -/
structure LE (w W : World) (B : Nat) (p z : Sp) (ad : Option Addr) (b o cap : Nat) (l : List Sp) (ad1 : Option Addr) (b1 cap1 : Nat) (R : List Sp) (ad2 : Option Addr) (b2 cap2 : Nat) (M : List Sp) : Prop where
  p : At W w.heap.size (sc p)
  z : At W B (sc z)
  s : SSl W ad b o cap l
  r : SSl W ad1 b1 0 cap1 R
  m : SSl W ad2 b2 0 cap2 M
  gr : Gr w W
theorem LE.below {w W w' : World} {B : Nat} {p z : Sp} {ad : Option Addr} {b o cap : Nat} {l : List Sp} {ad1 : Option Addr} {b1 cap1 : Nat} {R : List Sp} {ad2 : Option Addr} {b2 cap2 : Nat} {M : List Sp} (h : LE w W B p z ad b o cap l ad1 b1 cap1 R ad2 b2 cap2 M) (hB : Below W.heap.size W w') : LE w w' B p z ad b o cap l ad1 b1 cap1 R ad2 b2 cap2 M :=
  ⟨At.below hB h.p, At.below hB h.z, h.s.below hB, h.r.below hB, h.m.below hB, Gr.step h.gr hB⟩
theorem eg_bd {l : List Sp} (h : rcd l = 0) (h30 : l.length ≤ 30) : -9223372036854775807 ≤ sw (eg l) ∧ sw (eg l) ≤ 9223372036854775807 := by
  obtain ⟨_, hr⟩ := rcd_ok h
  have h3 := hr.1
  have := sw_bd (eg l) (eg_ok (rg_ok hr) (by omega))
  rw [eg_len (by omega)] at this
  omega
/-- The first i points, turned around, moved. -/
def rvK (l : List Sp) (i : Nat) : List Sp := (List.range i).map fun j => sx l (l.length - 1 - j)
def mvK (d : Sp) (k : Nat) (l : List Sp) (i : Nat) : List Sp := (List.range i).map fun j => mv d (sx l ((j + k) % l.length))
theorem rvK_succ (l : List Sp) (i : Nat) : rvK l (i + 1) = rvK l i ++ [sx l (l.length - 1 - i)] := by simp [rvK, List.range_succ]
theorem mvK_succ (d : Sp) (k : Nat) (l : List Sp) (i : Nat) : mvK d k l (i + 1) = mvK d k l i ++ [mv d (sx l ((i + k) % l.length))] := by simp [mvK, List.range_succ]
theorem rvK_len (l : List Sp) (i : Nat) : (rvK l i).length = i := by simp [rvK]
theorem mvK_len (d : Sp) (k : Nat) (l : List Sp) (i : Nat) : (mvK d k l i).length = i := by simp [mvK]
end Go.Proofs.YtnadgoomkaldkaaDoor
