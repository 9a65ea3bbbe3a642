/-
  shape.piecesOf, edges, swept.
-/
import Derived.Test.YtnadgoomkaldkaaDoorQShB
import Derived.Deep.AppendLies
namespace Go.Proofs.YtnadgoomkaldkaaDoor
open Go.RowKit
attribute [local go_sem ↓] Go.wp_at_zero Go.wp_at_succ

def px (l : List Pc) (i : Nat) : Pc := l.getD i ((0, 0), (0, 0))
theorem px_get {l : List Pc} {i : Nat} (h : i < l.length) : l[i] = px l i := by unfold px; simp [h]
def pr (l : List Pc) : List Value := l.flatMap pcs
theorem pr_snoc (l : List Pc) (p : Pc) : pr l ++ pcs p = pr (l ++ [p]) := by simp [pr]
theorem pr_at : ∀ (l : List Pc) (k : Nat) (_ : k < l.length) (j : Nat), j < 4 → (pr l)[k * 4 + j]? = (pcs (px l k))[j]?
  | s :: l, 0, _, j, hj => by
    match j, hj with
    | 0, _ => rfl
    | 1, _ => rfl
    | 2, _ => rfl
    | 3, _ => rfl
  | s :: l, k + 1, hk, j, hj => by
    have ih := pr_at l k (by simp at hk; omega) j hj
    rw [show (k + 1) * 4 + j = (k * 4 + j) + 4 by omega]
    exact ih
theorem pindex (b n cap k : Nat) (hk : k < n) (w : World) : (Instr.indexAt 56 (.slice (some ⟨b, 0, none⟩) n cap) (.int .i64 k)).run Tryd.prog w = .ok (.pointer (some ⟨b, k * 4, none⟩)) w := by
  have hu : Tryd.prog.underlying 56 = some (.slice (Tryd.prog.elem 56)) := by kernel_rfl
  refine (run_indexAt_slice (P := Tryd.prog) (w := w) 56 ⟨b, 0, none⟩ n cap .i64 (k : Int) hu).trans ?_
  rw [if_pos ⟨by omega, by omega⟩]
  have hs : (sizeOf (Tryd.prog.elem 56)).run Tryd.prog w = .ok 4 w := by kernel_rfl
  rw [hs]
  simp [Addr.add]
  try (intro h; omega)
/-- A slice of pieces that is read. -/
structure PSl (w : World) (ad : Option Addr) (b cap : Nat) (l : List Pc) : Prop where
  row : ∀ i, i < l.length → (w.cell? ⟨b, i * 4, none⟩ = some (.int .i64 (px l i).1.1) ∧ w.cell? ⟨b, i * 4 + 1, none⟩ = some (.int .i64 (px l i).1.2) ∧ w.cell? ⟨b, i * 4 + 2, none⟩ = some (.int .i64 (px l i).2.1) ∧ w.cell? ⟨b, i * 4 + 3, none⟩ = some (.int .i64 (px l i).2.2)) ∧ b < w.heap.size
  ad : ∀ i, i < l.length → ad = some ⟨b, 0, none⟩ ∧ l.length ≤ cap
theorem PSl.ix {w : World} {ad : Option Addr} {b cap : Nat} {l : List Pc} (h : PSl w ad b cap l) {k : Nat} (hk : k < l.length) (w1 : World) : (Instr.indexAt 56 (.slice ad l.length cap) (.int .i64 k)).run Tryd.prog w1 = .ok (.pointer (some ⟨b, k * 4, none⟩)) w1 := by
  rw [(h.ad k hk).1]; exact pindex b _ cap k hk w1
theorem PSl.below {W w' : World} {ad : Option Addr} {b cap : Nat} {l : List Pc} (h : PSl W ad b cap l) (hB : Below W.heap.size W w') : PSl w' ad b cap l :=
  ⟨fun i hi => by
    obtain ⟨⟨h1, h2, h3, h4⟩, h5⟩ := h.row i hi
    have e := fun j => hB.cell (p := ⟨b, j, none⟩) h5
    exact ⟨⟨(e _).trans h1, (e _).trans h2, (e _).trans h3, (e _).trans h4⟩, Nat.lt_of_lt_of_le h5 hB.size⟩, h.ad⟩
theorem PSl.gr {W w' : World} {ad : Option Addr} {b cap : Nat} {l : List Pc} (h : PSl W ad b cap l) (hB : Gr W w') : PSl w' ad b cap l := h.below hB.out
theorem own_psl {w : World} {base : Nat} {v : Value} {n : Nat} {l : List Pc} (h : w.ownsRow base 84 4 v n (pr l)) (hn : l.length = n) : ∃ ad b cap, v = .slice ad l.length cap ∧ PSl w ad b cap l := by
  have hlt := h.lt
  subst hn
  obtain ⟨h1, h | ⟨g, cap, cur, hv, hb, hg, hc, hm, hs, ht⟩⟩ := h
  · obtain ⟨rfl, h0⟩ := h
    exact ⟨none, 0, 0, by rw [h0], fun j hj => by omega, fun j hj => by omega⟩
  · subst hv
    refine ⟨_, g, cap, rfl, fun j hj => ?_, fun j hj => ⟨rfl, by omega⟩⟩
    have key : ∀ i, (hi : i < 4) → w.cell? ⟨g, j * 4 + i, none⟩ = (pcs (px l j))[i]? := by
      intro i hi
      have e1 : (cur.toList.take (l.length * 4))[j * 4 + i]? = (pr l)[j * 4 + i]? := by rw [ht]
      rw [List.getElem?_take, if_pos (by omega), pr_at l j hj i hi] at e1
      simp [World.cell?, hg]
      simpa using e1
    exact ⟨⟨key 0 (by decide), key 1 (by decide), key 2 (by decide), key 3 (by decide)⟩, (hlt g rfl).2⟩
theorem infoP4 : (Tryd.prog.info? 84).map (fun i => (i.zero, i.size, i.bytes)) = some (some (.agg #[.int .i64 0, .int .i64 0, .int .i64 0, .int .i64 0]), 4, 32) := by kernel_rfl
theorem undP4 : Tryd.prog.underlying 56 = some (.slice 84) := by kernel_rfl
/-- An append of a piece, at a step of a region that draws its order. -/
theorem step_p4 {ops : Array Oper} {o : Oper} {a : Act} {K : Act → World → Prop} {Q : Exit → Act → World → Prop} {Ep : Prop} (W : World) (b0 : Nat) (v : Value) (l : List Pc) (r : Pc) (n B : Nat) (s x : Operand) (hgd : o.guard = none)
    (ho : o.op = .call { callee := .builtin .append, args := #[s, x], argTypes := #[56, 56] }) (hs : a.eval s = v) (hx : a.eval x = .slice (some ⟨B, 0, none⟩) 1 1) (hn : l.length = n) (hl : n ≤ 10000)
    (hO : W.ownsRow b0 84 4 v n (pr l)) (hN : At W B (pcs r)) (hb : b0 ≤ W.heap.size)
    (h : ∀ g cap w', w'.ownsRow b0 84 4 (.slice (some ⟨g, 0, none⟩) (n + 1) cap) (n + 1) (pr (l ++ [r])) → W.grownBy w' v.ownBlock → K (a.put o.dst (.slice (some ⟨g, 0, none⟩) (n + 1) cap)) w') :
    if Region.wanted o (yielded ops a.tmps) = true then Oper.wp Tryd.prog o a W K Q else Ep := by
  have hml : 100000 ≤ maxLen := by decide
  have ones : ∀ u ∈ pcs r, u.oneCell' = true := by
    intro u hu
    simp only [List.mem_cons, List.not_mem_nil, or_false] at hu
    rcases hu with rfl | rfl | rfl | rfl <;> rfl
  obtain ⟨i0, hi, hz0, hz1, hz2⟩ := info_pt infoP4
  refine step_append_lies W hgd s x _ ho b0 _ i0 (.agg #[.int .i64 0, .int .i64 0, .int .i64 0, .int .i64 0]) 4 32 undP4 hi hz0 hz1 hz2 rfl (by decide) v n (pr l) hs hO ⟨B, 0, none⟩ 1 1 (pcs r) hx rfl (news_at hN) ones (by decide) (by omega) (by omega) hb _ rfl ?_
  intro g cap w' hown hgrow _ _
  rw [pr_snoc] at hown
  exact h g cap w' hown hgrow
/-- The first k pieces of a line. -/
def pk (l : List Sp) (k : Nat) : List Pc := (List.range k).map fun i => (sx l i, sx l (i + 1))
theorem pk_len (l : List Sp) (k : Nat) : (pk l k).length = k := by simp [pk]
theorem pk_succ (l : List Sp) (k : Nat) : pk l (k + 1) = pk l k ++ [(sx l k, sx l (k + 1))] := by simp [pk, List.range_succ]
set_option maxRecDepth 4000 in
set_option maxHeartbeats 4000000 in
theorem piecesOf_any {ad : Option Addr} {b o cap : Nat} {l : List Sp} (ll : l.length ≤ 5000) (w : World) (h : SSl w ad b o cap l) : Calls Tryd.prog 25 #[.slice ad l.length cap] w fun e w' => ∃ ad1 cap1, e = .returned (.slice ad1 (l.length - 1) cap1) ∧ w'.ownsRow w.heap.size 84 4 (.slice ad1 (l.length - 1) cap1) (l.length - 1) (pr (pk l (l.length - 1))) ∧ w.heap.size ≤ w'.heap.size ∧ Gr w w' := by
  have HR := hidb h
  clear h
  obtain ⟨n, hn⟩ : ∃ n, n = l.length := ⟨_, rfl⟩
  have HX := hidb (fun k (hk : k < n) => HR.out.ix k (by rw [← hn]; exact hk))
  rw [← hn] at HX ll ⊢
  have HNn := hidb hn
  clear hn
  go_enter Tryd.func25, Tryd.ntmps25
  go_wp2
  go_loopw [3, 4] (fun v t wr => ∃ (k : Nat), k ≤ n - 1 ∧ t = .int .i64 ((k : Int) + 1) ∧ wr.ownsRow w.heap.size 84 4 v k (pr (pk l k)) ∧ Hid (Gr w wr)) (fun _ t _ => n + 1 - (intOf t).toNat)
  case atStart => exact ⟨0, Nat.zero_le _, rfl, by simpa [pr, pk] using World.ownsRow_nil w w.heap.size 84 4, Gr.refl _⟩
  case round =>
    obtain ⟨k, hk, rfl, hown, HG⟩ := hrel
    obtain ⟨ad1, cap1, rfl⟩ := own_sh hown
    by_cases h1 : ¬ k + 1 < n
    · have h1' : ¬ (k : Int) + 1 < (n : Int) := by omega
      obtain rfl : k = n - 1 := by omega
      have HO := hidb hown
      clear h1 hown
      go_wp2
      go_ret
      exact ⟨_, _, rfl, HO.out, HG.out.out.size, HG.out⟩
    · have h1' : (k : Int) + 1 < (n : Int) := by omega
      have HKN := hidb (show k + 1 < n by omega)
      have HQ := hidb (fun W (hW : Gr w W) => And.intro ((HR.out.gr hW).row k (by rw [← HNn.out]; have := HKN.out; omega)).1 ((HR.out.gr hW).row (k + 1) (by rw [← HNn.out]; exact HKN.out)).1)
      have ix := HX.out k (by omega)
      have ix1 := HX.out (k + 1) (by omega)
      push_cast at ix1
      have e0 : IntKind.i64.wrap (k : Int) = (k : Int) := wr_in (by omega) (by omega)
      have e1 : IntKind.i64.wrap ((k : Int) + 1 + 1) = ((k + 1 : Nat) : Int) + 1 := by rw [show (k : Int) + 1 + 1 = ((k + 1 : Nat) : Int) + 1 by omega]; exact wr_in (by omega) (by omega)
      have HE1 := hidb e1
      have HS := hidb (pk_succ l k)
      have HLn := hidb (pk_len l k)
      have O3 := hown
      have HC := HG.out
      generalize sx l k = p at *
      generalize sx l (k + 1) = q at *
      clear h1 e1 hown
      go_upto_region 5 with fail
      refine wp_region_held_drew (S := (fun w' => (w'.cell? ⟨b, o + k * 2, none⟩ = some (.int .i64 p.1) ∧ w'.cell? ⟨b, o + k * 2 + 1, none⟩ = some (.int .i64 p.2)) ∧ w'.cell? ⟨b, o + (k + 1) * 2, none⟩ = some (.int .i64 q.1) ∧ w'.cell? ⟨b, o + (k + 1) * 2 + 1, none⟩ = some (.int .i64 q.2))) (by kernel_rfl) ?_ (fun hHeld => ?_)
      · (try dsimp only); (with_reducible first | exact HQ.out _ HC | exact HQ.out _ HC.drew | exact HQ.out _ (HC.alloc _) | exact HQ.out _ (HC.drew.alloc _) | exact HQ.out _ (HC.alloc _).drew)
      refine wpAnyH_take (i := 0) (v := ?vp0x2) rfl (by kernel_rfl) (by kernel_rfl) (by kernel_rfl) (fun _ _ _ h => h) (Or.inl ⟨by kernel_rfl, ?hp0x2⟩) (by assumption) ?rp0x2
      case hp0x2 => (intro w hSw; (try dsimp only at hSw); go_simp; try with_reducible rfl)
      (try simp only [Act.put, List.getElem_toArray, List.getElem_cons_zero, List.setIfInBounds_toArray, List.set_cons_zero, List.set_cons_succ])
      refine wpAnyH_take (i := 1) (v := ?vp1x5) rfl (by kernel_rfl) (by kernel_rfl) (by kernel_rfl) (fun _ _ _ h => h) (Or.inl ⟨by kernel_rfl, ?hp1x5⟩) (by assumption) ?rp1x5
      case hp1x5 => (intro w hSw; (try dsimp only at hSw); go_simp; try with_reducible rfl)
      (try simp only [Act.put, List.getElem_toArray, List.getElem_cons_zero, List.getElem_cons_succ, List.setIfInBounds_toArray, List.set_cons_zero, List.set_cons_succ])
      refine wpAnyH_take (i := 2) (v := ?vp2x8) rfl (by kernel_rfl) (by kernel_rfl) (by kernel_rfl) (fun _ _ _ h => h) (Or.inl ⟨by kernel_rfl, ?hp2x8⟩) (by assumption) ?rp2x8
      case hp2x8 => (intro w hSw; (try dsimp only at hSw); go_simp; try with_reducible rfl)
      (try simp only [Act.put, List.getElem_toArray, List.getElem_cons_zero, List.getElem_cons_succ, List.setIfInBounds_toArray, List.set_cons_zero, List.set_cons_succ])
      refine wpAnyH_take (i := 3) (v := ?vp3x11) rfl (by kernel_rfl) (by kernel_rfl) (by kernel_rfl) (fun _ _ _ h => h) (Or.inl ⟨by kernel_rfl, ?hp3x11⟩) (by assumption) ?rp3x11
      case hp3x11 => (intro w hSw; (try dsimp only at hSw); go_simp; try with_reducible rfl)
      (try simp only [Act.put, List.getElem_toArray, List.getElem_cons_zero, List.getElem_cons_succ, List.setIfInBounds_toArray, List.set_cons_zero, List.set_cons_succ])
      refine wpAnyH_take (i := 4) (v := ?vp4x14) rfl (by kernel_rfl) (by kernel_rfl) (by kernel_rfl) (fun _ _ _ h => h) (Or.inl ⟨by kernel_rfl, ?hp4x14⟩) (by assumption) ?rp4x14
      case hp4x14 => (intro w hSw; (try dsimp only at hSw); go_simp; try with_reducible rfl)
      (try simp only [Act.put, List.getElem_toArray, List.getElem_cons_zero, List.getElem_cons_succ, List.setIfInBounds_toArray, List.set_cons_zero, List.set_cons_succ])
      refine wpAnyH_take (i := 5) (v := ?vp5x17) rfl (by kernel_rfl) (by kernel_rfl) (by kernel_rfl) (fun _ _ _ h => h) (Or.inl ⟨by kernel_rfl, ?hp5x17⟩) (by assumption) ?rp5x17
      case hp5x17 => (intro w hSw; (try dsimp only at hSw); go_simp; try with_reducible rfl)
      (try simp only [Act.put, List.getElem_toArray, List.getElem_cons_zero, List.getElem_cons_succ, List.setIfInBounds_toArray, List.set_cons_zero, List.set_cons_succ])
      refine wpAnyH_take (i := 6) (v := ?vp6x20) rfl (by kernel_rfl) (by kernel_rfl) (by kernel_rfl) (fun _ _ _ h => h) (Or.inl ⟨by kernel_rfl, ?hp6x20⟩) (by assumption) ?rp6x20
      case hp6x20 => (intro w hSw; (try dsimp only at hSw); go_simp; try with_reducible rfl)
      (try simp only [Act.put, List.getElem_toArray, List.getElem_cons_zero, List.getElem_cons_succ, List.setIfInBounds_toArray, List.set_cons_zero, List.set_cons_succ])
      refine wpAnyH_take (i := 7) (v := ?vp7x23) rfl (by kernel_rfl) (by kernel_rfl) (by kernel_rfl) (fun _ _ _ h => h) (Or.inl ⟨by kernel_rfl, ?hp7x23⟩) (by assumption) ?rp7x23
      case hp7x23 => (intro w hSw; (try dsimp only at hSw); go_simp; try with_reducible rfl)
      (try simp only [Act.put, List.getElem_toArray, List.getElem_cons_zero, List.getElem_cons_succ, List.setIfInBounds_toArray, List.set_cons_zero, List.set_cons_succ])
      refine wpAnyH_take (i := 8) (v := ?vp8x26) rfl (by kernel_rfl) (by kernel_rfl) (by kernel_rfl) (fun _ _ _ h => h) (Or.inl ⟨by kernel_rfl, ?hp8x26⟩) (by assumption) ?rp8x26
      case hp8x26 => (intro w hSw; (try dsimp only at hSw); go_simp; try with_reducible rfl)
      (try simp only [Act.put, List.getElem_toArray, List.getElem_cons_zero, List.getElem_cons_succ, List.setIfInBounds_toArray, List.set_cons_zero, List.set_cons_succ])
      refine wpAnyH_take (i := 9) (v := ?vp9x29) rfl (by kernel_rfl) (by kernel_rfl) (by kernel_rfl) (fun _ _ _ h => h) (Or.inl ⟨by kernel_rfl, ?hp9x29⟩) (by assumption) ?rp9x29
      case hp9x29 => (intro w hSw; (try dsimp only at hSw); go_simp; try with_reducible rfl)
      (try simp only [Act.put, List.getElem_toArray, List.getElem_cons_zero, List.getElem_cons_succ, List.setIfInBounds_toArray, List.set_cons_zero, List.set_cons_succ])
      refine wpAnyH_take (i := 10) (v := ?vp10x32) rfl (by kernel_rfl) (by kernel_rfl) (by kernel_rfl) (fun _ _ _ h => h) (Or.inl ⟨by kernel_rfl, ?hp10x32⟩) (by assumption) ?rp10x32
      case hp10x32 => (intro w hSw; (try dsimp only at hSw); go_simp; try with_reducible rfl)
      (try simp only [Act.put, List.getElem_toArray, List.getElem_cons_zero, List.getElem_cons_succ, List.setIfInBounds_toArray, List.set_cons_zero, List.set_cons_succ])
      refine wpAnyH_ready (rs := [11]) (by kernel_rfl) (by simp) ?_
      refine AllReadyH.cons rfl (fun K hK => ?_) AllReadyH.nil
      go_simp
      refine hK.out _ _ ?_ (fun hHeld => ?_)
      · (try dsimp only); (with_reducible first | exact HQ.out _ HC | exact HQ.out _ HC.drew | exact HQ.out _ (HC.alloc _) | exact HQ.out _ (HC.drew.alloc _) | exact HQ.out _ (HC.alloc _).drew)
      clear hK K
      refine wpAnyH_ready (rs := [12]) (by kernel_rfl) (by simp) ?_
      refine AllReadyH.cons rfl (fun K hK => ?_) AllReadyH.nil
      refine step_p4 _ w.heap.size (.slice ad1 k cap1) (pk l k) (p, q) k _ _ _ rfl rfl rfl rfl HLn.out (by omega) (by first | exact O3.alloc _ | exact O3.drew.alloc _) (by first | exact At.new4 _ _ _ _ _ _ | exact (At.new4 _ _ _ _ _ _).drew) (by have := HC.out.size; simp; omega) ?_
      intro g cap2 w2 hown2 hgrow2
      replace HC : Gr w w2 := Below.grown (by with_reducible first | exact (HC.alloc _).out | exact (HC.drew.alloc _).out | exact (HC.alloc _).drew.out) hgrow2 (by have := HC.out.size; simp; omega) (fun kk hkk => (O3.lt kk hkk).1)
      have HO2 := hidb hown2
      clear hgrow2 hown2
      refine hK.out _ _ ?_ (fun hHeld => ?_)
      · (try dsimp only); (with_reducible first | exact HQ.out _ HC | exact HQ.out _ HC.drew | exact HQ.out _ (HC.alloc _) | exact HQ.out _ (HC.drew.alloc _) | exact HQ.out _ (HC.alloc _).drew)
      clear hK K
      refine wpAnyH_take (i := 13) (v := ?vp13x51) rfl (by kernel_rfl) (by kernel_rfl) (by kernel_rfl) (fun _ _ _ h => h) (Or.inl ⟨by kernel_rfl, ?hp13x51⟩) (by assumption) ?rp13x51
      case hp13x51 => (intro w hSw; (try dsimp only at hSw); go_simp; try with_reducible rfl)
      (try simp only [Act.put, List.getElem_toArray, List.getElem_cons_zero, List.getElem_cons_succ, List.setIfInBounds_toArray, List.set_cons_zero, List.set_cons_succ])
      refine wpAnyH_done (by kernel_rfl) ?_ _
      rw [← HS.out] at HO2
      have HC2 := hidb HC
      have e1 := HE1.out
      clear O3 HC ix ix1 e0
      go_wp2
      go_roundw
      case rel => exact ⟨k + 1, by have := HKN.out; omega, by go_num, HO2.out, by first | exact HC2 | exact HC2.out.drew⟩
      case measure => have := HKN.out; simp [intOf]; omega
/-- The edges of a ring. -/
def eg (l : List Sp) : List Pc := pk l (l.length - 1) ++ [(sx l (l.length - 1), sx l 0)]
theorem eg_len {l : List Sp} (h : 1 ≤ l.length) : (eg l).length = l.length := by simp [eg, pk]; omega
/-- What an arrow sweeps that goes along pieces. -/
def cr (p : Pc) : Int := p.1.1 * p.2.2 - p.2.1 * p.1.2
def sw (l : List Pc) : Int := (l.map cr).sum
theorem sw_snoc (l : List Pc) (p : Pc) : sw (l ++ [p]) = sw l + cr p := by simp [sw]
theorem cr_bd {p : Pc} (h1 : okS p.1) (h2 : okS p.2) : ∃ m1 m2, m1 = p.1.1 * p.2.2 ∧ m2 = p.2.1 * p.1.2 ∧ (-281474976710656 ≤ m1 ∧ m1 ≤ 281474976710656) ∧ -281474976710656 ≤ m2 ∧ m2 ≤ 281474976710656 := by
  unfold okS okC at h1 h2
  have a := ml_bd h1.1.1 h1.1.2 h2.2.1 h2.2.2
  have b := ml_bd h2.1.1 h2.1.2 h1.2.1 h1.2.2
  exact ⟨_, _, rfl, rfl, by omega, by omega⟩
theorem sw_bd : ∀ l : List Pc, (∀ p ∈ l, okS p.1 ∧ okS p.2) → -(562949953421312 * (l.length : Int)) ≤ sw l ∧ sw l ≤ 562949953421312 * (l.length : Int)
  | [], _ => by simp [sw]
  | p :: l, h => by
    have ih := sw_bd l (fun q hq => h q (by simp [hq]))
    obtain ⟨m1, m2, e1, e2, b1, b2⟩ := cr_bd (h p (by simp)).1 (h p (by simp)).2
    have e : sw (p :: l) = cr p + sw l := by simp [sw]
    have ec : cr p = m1 - m2 := by unfold cr; rw [e1, e2]
    rw [e, ec, List.length_cons]
    push_cast
    omega
set_option maxRecDepth 4000 in
set_option maxHeartbeats 4000000 in
theorem swept_any {ad : Option Addr} {b cap : Nat} {L : List Pc} (ll : L.length ≤ 5000) (hok : ∀ p ∈ L, okS p.1 ∧ okS p.2) (w : World) (h : PSl w ad b cap L) : Calls Tryd.prog 29 #[.slice ad L.length cap] w fun e w' => e = .returned (.int .i64 (sw L)) ∧ Gr w w' := by
  have HR := hidb h
  have HOK := hidb hok
  clear h hok
  obtain ⟨n, hn⟩ : ∃ n, n = L.length := ⟨_, rfl⟩
  have HX := hidb (fun k (hk : k < n) => HR.out.ix (k := k) (by rw [← hn]; exact hk))
  rw [← hn] at HX ll ⊢
  have HNn := hidb hn
  clear hn
  go_enter Tryd.func29, Tryd.ntmps29
  go_wp2
  go_loopw [3, 8] (fun v t wr => ∃ (k : Nat), k ≤ n ∧ t = .int .i64 (k : Int) ∧ v = .int .i64 (sw (L.take k)) ∧ Hid (Gr w wr)) (fun _ t _ => n - (intOf t).toNat)
  case atStart => exact ⟨0, Nat.zero_le _, rfl, by simp [sw], Gr.refl _⟩
  case round =>
    obtain ⟨k, hk, rfl, rfl, HG⟩ := hrel
    by_cases h1 : ¬ k < n
    · have h1' : ¬ (k : Int) < (n : Int) := by omega
      obtain rfl : k = n := by omega
      have hT : L.take k = L := List.take_of_length_le (by rw [HNn.out]; exact Nat.le_refl _)
      rw [hT]
      clear h1 hT
      go_wp2
      go_ret
      exact ⟨rfl, HG.out⟩
    · have h1' : (k : Int) < (n : Int) := by omega
      have hkn : k < L.length := by rw [← HNn.out]; omega
      have HKN := hidb (show k < n by omega)
      obtain ⟨⟨c0, c1, c2, c3⟩, cb⟩ := (HR.out.gr HG.out).row k hkn
      have ix := HX.out k (by omega)
      have e1 : IntKind.i64.wrap ((k : Int) + 1) = ((k + 1 : Nat) : Int) := by rw [show (k : Int) + 1 = ((k + 1 : Nat) : Int) by omega]; exact wr_in (by omega) (by omega)
      have hT : L.take (k + 1) = L.take k ++ [px L k] := by rw [List.take_succ_eq_append_getElem hkn, px_get hkn]
      have hm := HOK.out _ (List.getElem_mem hkn)
      rw [px_get hkn] at hm
      obtain ⟨m1, m2, f1, f2, b1, b2⟩ := cr_bd hm.1 hm.2
      have hs := sw_bd (L.take k) (fun p hp => HOK.out p (List.mem_of_mem_take hp))
      have hl : (L.take k).length = k := by rw [List.length_take]; omega
      rw [hl] at hs
      have HS : Hid (sw (L.take (k + 1)) = sw (L.take k) + (m1 - m2)) := by show _ = _; rw [hT, sw_snoc]; unfold cr; rw [f1, f2]
      generalize sw (L.take k) = z at *
      obtain ⟨d, hd⟩ : ∃ d, d = m1 - m2 := ⟨_, rfl⟩
      obtain ⟨z2, hz2⟩ : ∃ z2, z2 = z + d := ⟨_, rfl⟩
      have w1 : IntKind.i64.wrap ((px L k).1.1 * (px L k).2.2) = m1 := by rw [← f1]; exact wr_in (by omega) (by omega)
      have w2 : IntKind.i64.wrap ((px L k).2.1 * (px L k).1.2) = m2 := by rw [← f2]; exact wr_in (by omega) (by omega)
      have w3 : IntKind.i64.wrap (m1 - m2) = d := by rw [← hd]; exact wr_in (by omega) (by omega)
      have w4 : IntKind.i64.wrap (z + d) = z2 := by rw [← hz2]; exact wr_in (by omega) (by omega)
      have HS2 : Hid (z2 = sw (L.take (k + 1))) := by show _ = _; rw [HS.out, hz2, hd]
      generalize px L k = p at *
      obtain ⟨⟨a1, a2⟩, a3, a4⟩ := p
      dsimp only at c0 c1 c2 c3 w1 w2
      have HG2 := hidb (HG.out.alloc (.cells #[.int .i64 a1, .int .i64 a2, .int .i64 a3, .int .i64 a4] 84))
      clear h1 hkn hT hm f1 f2 b1 b2 hs hl HS hd hz2 cb
      go_wp2
      go_roundw
      case rel => exact ⟨k + 1, HKN.out, by go_num, by rw [HS2.out], HG2⟩
      case measure => have := HKN.out; simp [intOf]; omega
end Go.Proofs.YtnadgoomkaldkaaDoor
