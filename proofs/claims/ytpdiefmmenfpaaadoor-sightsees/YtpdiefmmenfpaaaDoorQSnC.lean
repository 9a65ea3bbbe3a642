/-
  mercatorref4.withStop.
-/
import Derived.Test.YtpdiefmmenfpaaaDoorQSnB
import Derived.Deep.Upon
namespace Go.Proofs.YtpdiefmmenfpaaaDoor
open Go.RowKit
attribute [local go_sem ↓] Go.wp_at_zero Go.wp_at_succ

theorem Tcs_at {W : World} {G : Nat × Nat → Int} {p : Nat × Nat} (a : Int × Int × Int) (h1 : a.1 = (p.1 : Int)) (h2 : a.2.1 = (p.2 : Int)) (h3 : a.2.2 = G p) {B : Nat} (h : At W B [.int .i64 a.1, .int .i64 a.2.1, .int .i64 a.2.2]) : At W B (Tcs G p) := by
  unfold Tcs
  rw [← h1, ← h2, ← h3]
  exact h
theorem tslice (b M cap i : Nat) (hi : i < M) (hc : M ≤ cap) (w : World) : (Instr.slice 54 (.slice (some ⟨b, 0, none⟩) M cap) (some (.int .i64 (i : Int))) none none).run Tryd.prog w = .ok (.slice (some ⟨b, i * 3, none⟩) (M - i) (cap - i)) w := by
  have hu : Tryd.prog.underlying 54 = some (.slice (Tryd.prog.elem 54)) := by kernel_rfl
  have hs : (sizeOf (Tryd.prog.elem 54)).run Tryd.prog w = .ok 3 w := by kernel_rfl
  rw [run_slice_l w 54 _ _ _ hu .i64 _ (by omega) (by omega), hs]
  have hne : ¬ cap = i := by omega
  by_cases h0 : i = 0
  · subst h0
    simp [Result.andThen, sliced, Addr.add, hne]
  · have h9 : ¬ i * 3 = 0 := by omega
    simp [Result.andThen, sliced, Addr.add, hne, h9]
theorem tslice_end (ad : Option Addr) (M cap : Nat) (_hc : M ≤ cap) (w : World) : ∃ ad', (Instr.slice 54 (.slice ad M cap) (some (.int .i64 (M : Int))) none none).run Tryd.prog w = .ok (.slice ad' 0 (cap - M)) w ∧ (ad = none → ad' = none) := by
  have hu : Tryd.prog.underlying 54 = some (.slice (Tryd.prog.elem 54)) := by kernel_rfl
  have hs : (sizeOf (Tryd.prog.elem 54)).run Tryd.prog w = .ok 3 w := by kernel_rfl
  rw [run_slice_l w 54 _ _ _ hu .i64 _ (by omega) (by omega), hs]
  refine ⟨if cap = M then ad else ad.map (·.add (M * 3)), ?_, ?_⟩
  · simp [Result.andThen, sliced]
  · rintro rfl
    split <;> rfl
theorem app_none (g n c : Nat) (ad : Option Addr) (cx : Nat) (hle : n ≤ c) (ty : Nat) (w : World) : (Builtin.append_ #[54, 54] ty #[.slice (some ⟨g, 0, none⟩) n c, .slice ad 0 cx]).run Tryd.prog w = .ok (.slice (some ⟨g, 0, none⟩) n c) w := by
  obtain ⟨i0, hi, hz0, hz1, hz2⟩ := info_parts infoT
  cases ad with
  | none => exact run_append_nothing w _ _ ty _ i0 undT hi (some ⟨g, 0, none⟩) n c hle _ (Src.ofNil w undT cx)
  | some a => exact run_append_nothing w _ _ ty _ i0 undT hi (some ⟨g, 0, none⟩) n c hle _ (Src.ofSlice w undT a 0 cx [] (by simp) (fun j u h => by simp at h) (fun u h => by simp at h))
theorem wpList_tn {ops : Array Oper} {rest : List Oper} {o : Oper} {a : Act} {Q : Exit → Act → World → Prop} (G : Nat × Nat → Int) (W : World) (b0 : Nat) (v : Value) (l M : List (Nat × Nat)) (n B off m c : Nat) (s x : Operand) (hgd : o.guard = none)
    (ho : o.op = .call { callee := .builtin .append, args := #[s, x], argTypes := #[54, 54] }) (hs : a.eval s = v) (hx : a.eval x = .slice (some ⟨B, off, none⟩) m c) (hn : l.length = n) (hm : M.length = m) (hl : n + m ≤ 140000) (h0 : 1 ≤ m)
    (hO : W.ownsRow b0 64 3 v n (tr G l)) (hN : ∀ j u, (tr G M)[j]? = some u → W.cell? ⟨B, off + j, none⟩ = some u) (hb : b0 ≤ W.heap.size)
    (h : ∀ g cap w', Hid (w'.ownsRow b0 64 3 (.slice (some ⟨g, 0, none⟩) (n + m) cap) (n + m) (tr G (l ++ M))) → Hid (W.grownBy w' v.ownBlock) → wpList Tryd.prog ops Q rest (a.put o.dst (.slice (some ⟨g, 0, none⟩) (n + m) cap)) w') : wpList Tryd.prog ops Q (o :: rest) a W := by
  have hml : 1000000 ≤ maxLen := by decide
  have ones : ∀ u ∈ tr G M, u.oneCell' = true := by
    intro u hu
    unfold tr at hu
    obtain ⟨p, -, hp⟩ := List.mem_flatMap.1 hu
    simp only [List.mem_cons, List.not_mem_nil, or_false] at hp
    rcases hp with rfl | rfl | rfl <;> rfl
  obtain ⟨i0, hi, hz0, hz1, hz2⟩ := info_parts infoT
  refine wpList_append_own _ hgd s x _ ho b0 _ i0 (.agg #[.int .i64 0, .int .i64 0, .int .i64 0]) 3 24 undT hi hz0 hz1 hz2 rfl (by decide) v n (tr G l) hs hO ⟨B, off, none⟩ m c (tr G M) hx (by rw [tr_len, hm]) (fun j u hu => by
    have ea : (⟨B, off, none⟩ : Addr).add j = ⟨B, off + j, none⟩ := by
      unfold Addr.add
      split
      · rename_i h0; subst h0; rfl
      · rfl
    rw [ea]
    exact hN j u hu) ones (by omega) (by omega) hb ?_
  intro v' w' hown hgrow _
  rw [tr_app] at hown
  obtain ⟨g, cap, rfl⟩ : ∃ g cap, v' = .slice (some ⟨g, 0, none⟩) (n + m) cap := by
    obtain ⟨_, ⟨_, h0⟩ | ⟨g, cap, cur, hv, _⟩⟩ := hown
    · omega
    · exact ⟨g, cap, hv⟩
  exact h g cap w' hown hgrow
/-- What is left of a slice of stops, cell by cell. -/
theorem TSl.rest {w : World} {G : Nat × Nat → Int} {ad : Option Addr} {b cap : Nat} {L : List (Nat × Nat)} (h : TSl w G ad b cap L) (i : Nat) : ∀ j u, (tr G (L.drop i))[j]? = some u → w.cell? ⟨b, i * 3 + j, none⟩ = some u := by
  intro j u hu
  have hj : j < (L.length - i) * 3 := by
    rcases Nat.lt_or_ge j ((L.length - i) * 3) with c | c
    · exact c
    · rw [List.getElem?_eq_none (by rw [tr_len, List.length_drop]; exact c)] at hu; cases hu
  have h3 : j % 3 < 3 := Nat.mod_lt _ (by decide)
  have e := Nat.div_add_mod j 3
  have hq : j / 3 < L.length - i := by omega
  have hg := tr_get G (L.drop i) (j / 3) (by rw [List.length_drop]; exact hq) (j % 3) h3
  rw [show j / 3 * 3 + j % 3 = j by omega, hu] at hg
  have ht : tx (L.drop i) (j / 3) = tx L (i + j / 3) := by unfold tx; simp
  rw [ht] at hg
  obtain ⟨⟨r1, r2, r3⟩, -⟩ := h.row (i + j / 3) (by omega)
  rcases (show j % 3 = 0 ∨ j % 3 = 1 ∨ j % 3 = 2 by omega) with k | k | k
  · rw [k] at hg; simp at hg; rw [hg, show i * 3 + j = (i + j / 3) * 3 by omega]; exact r1
  · rw [k] at hg; simp at hg; rw [hg, show i * 3 + j = (i + j / 3) * 3 + 1 by omega]; exact r2
  · rw [k] at hg; simp at hg; rw [hg, show i * 3 + j = (i + j / 3) * 3 + 2 by omega]; exact r3
/-- What lies in memory while a stop is put among others. -/
structure WS (w W : World) (G : Nat × Nat → Int) (s : List Value) (base q : Nat) (v : Value) (M : List (Nat × Nat)) : Prop where
  a : At W w.heap.size s
  gr : Gr w W
  r : W.ownsRow base 64 3 v q (tr G M)
  b : w.heap.size < base ∧ base ≤ W.heap.size
  n : M.length = q
theorem WS.app {w W w' : World} {G : Nat × Nat → Int} {s : List Value} {base q q' : Nat} {v v' : Value} {M M' : List (Nat × Nat)} (h : WS w W G s base q v M) {ob : Obj} (hown : w'.ownsRow base 64 3 v' q' (tr G M')) (hg : (W.alloc ob).grownBy w' v.ownBlock) (hn : M'.length = q') : WS w w' G s base q' v' M' := by
  obtain ⟨b3, b4⟩ := h.b
  have hk : ∀ k, v.ownBlock = some k → base ≤ k := fun k hk => (h.r.lt k hk).1
  have hB : Below base (W.alloc ob) w' := (Below.refl _ _).grown hg (by simp; omega) hk
  have hs := hg.size
  simp at hs
  refine ⟨⟨fun i hi => ⟨(hB.cell (p := ⟨w.heap.size, i, none⟩) b3).trans ((h.a.alloc ob).1 i hi).1, (hB.frozen (p := ⟨w.heap.size, i, none⟩) b3).trans ((h.a.alloc ob).1 i hi).2⟩, by omega⟩, Below.grown (h.gr.alloc ob).out hg (by have := h.gr.out.size; simp; omega) (fun k e => by have := hk k e; omega), hown, ⟨b3, by omega⟩, hn⟩
theorem WS.app0 {w W w' : World} {G : Nat × Nat → Int} {s : List Value} {base q q' : Nat} {v v' : Value} {M M' : List (Nat × Nat)} (h : WS w W G s base q v M) (hown : w'.ownsRow base 64 3 v' q' (tr G M')) (hg : W.grownBy w' v.ownBlock) (hn : M'.length = q') : WS w w' G s base q' v' M' := by
  obtain ⟨b3, b4⟩ := h.b
  have hk : ∀ k, v.ownBlock = some k → base ≤ k := fun k hk => (h.r.lt k hk).1
  have hB : Below base W w' := (Below.refl _ _).grown hg b4 hk
  have hs := hg.size
  refine ⟨⟨fun i hi => ⟨(hB.cell (p := ⟨w.heap.size, i, none⟩) b3).trans (h.a.1 i hi).1, (hB.frozen (p := ⟨w.heap.size, i, none⟩) b3).trans (h.a.1 i hi).2⟩, by omega⟩, Below.grown h.gr.out hg (by have := h.gr.out.size; omega) (fun k e => by have := hk k e; omega), hown, ⟨b3, by omega⟩, hn⟩
theorem WS.drewN {w W : World} {G : Nat × Nat → Int} {s : List Value} {base q : Nat} {v : Value} {M : List (Nat × Nat)} (h : WS w W G s base q v M) {k : Nat} {W' : World} (e : World.drewN W k = W') : WS w W' G s base q v M := by
  subst e
  have hB : Below W.heap.size W (W.drewN k) := ((Gr.refl W).drewN k).out
  have := hB.size
  exact ⟨h.a.below hB, h.gr.drewN k, own_keep h.r hB, ⟨h.b.1, by have := h.b.2; omega⟩, h.n⟩
theorem own_cap3 {w : World} {base e g n cap : Nat} {xs : List Value} (h : w.ownsRow base e 3 (.slice (some ⟨g, 0, none⟩) n cap) n xs) : n ≤ cap := by
  obtain ⟨_, ⟨h0, _⟩ | ⟨g', cap', cur, hv, h5, h6, h7, h8⟩⟩ := h
  · cases h0
  · simp only [Value.slice.injEq] at hv
    omega
set_option maxRecDepth 4000 in
set_option maxHeartbeats 8000000 in
theorem withStop_nil (G : Nat × Nat → Int) (s : Nat × Nat) (a b c : Int) (ha : a = (s.1 : Int)) (hb : b = (s.2 : Int)) (hc : c = G s) (w : World) : Calls Tryd.prog 48 #[.slice none 0 0, .agg #[.int .i64 a, .int .i64 b, .int .i64 c]] w fun e w' => ∃ v base, e = .returned v ∧ w'.ownsRow base 64 3 v 1 (tr G [s]) ∧ w.heap.size < base ∧ Gr w w' := by
  have E0 : Hid (WS w (w.alloc (.cells #[.int .i64 a, .int .i64 b, .int .i64 c] 64)) G [.int .i64 a, .int .i64 b, .int .i64 c] (w.heap.size + 1) 0 (.slice none 0 0) []) := ⟨At.new3 _ _ _ _ _, (Gr.refl w).alloc _, World.ownsRow_nil _ _ _ _, ⟨by omega, by simp⟩, rfl⟩
  have HT := hidb (fun (W : World) B (h : At W B [.int .i64 a, .int .i64 b, .int .i64 c]) => Tcs_at (G := G) (p := s) (a, b, c) ha hb hc h)
  have SL : ∀ W, (Instr.slice 54 (.slice none 0 0) (some (.int .i64 0)) none none).run Tryd.prog W = .ok (.slice none 0 0) W := fun W => by
    obtain ⟨ad', sl, hn⟩ := tslice_end none 0 0 (Nat.le_refl _) W
    obtain rfl := hn rfl
    exact sl
  clear ha hb hc
  go_enter Tryd.func48, Tryd.ntmps48
  go_wp2
  go_loopw [5, 6] (fun v t wr => v = .slice none 0 0 ∧ t = .int .i64 0 ∧ Hid (WS w wr G [.int .i64 a, .int .i64 b, .int .i64 c] (w.heap.size + 1) 0 (.slice none 0 0) [])) (fun _ _ _ => 0)
  case atStart => exact ⟨rfl, rfl, E0⟩
  case round =>
    clear E0
    obtain ⟨rfl, rfl, E⟩ := hrel
    go_upto_region 3 with fail
    go_quiet (fail)
    go_upto_region 6 with fail
    generalize hw1 : World.drewN _ _ = w1
    replace E := hidb (E.out.drewN hw1)
    clear hw1
    go_quiet (fail)
    go_upto_region 8 with fail
    generalize hw2 : World.drewN _ _ = w2
    replace E := hidb (E.out.drewN hw2)
    clear hw2
    obtain ⟨z0, z1, z2⟩ := E.out.a.c3
    go_wp2_with (at_builtin; refine wpList_t3 G _ (w.heap.size + 1) (.slice none 0 0) [] s 0 w2.heap.size _ _ rfl rfl rfl rfl rfl (by decide) (E.out.r.alloc _) (HT.out _ _ (At.new3 _ _ _ _ _)) (by have := E.out.b.2; simp; omega) ?_; intro g2 cap3 w3 hown hgrow; have E3 := hidb (E.out.app (M' := [] ++ [s]) hown.out hgrow.out rfl); have hcp : 1 ≤ cap3 := own_cap3 E3.out.r; clear z0 z1 z2 hown hgrow E)
    go_ret
    exact ⟨_, _, rfl, E3.out.r, E3.out.b.1, E3.out.gr⟩
end Go.Proofs.YtpdiefmmenfpaaaDoor
