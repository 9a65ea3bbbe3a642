/-
  drain.Streams, where the raster is right.
-/
import Derived.Test.YtlhligeicnejbaaDoorQDsC
import Derived.Deep.RegionHeldLaw
namespace Go.Proofs.YtlhligeicnejbaaDoor
open Go.RowKit
attribute [local go_sem ↓] Go.wp_at_zero Go.wp_at_succ

theorem infoT : (Tryd.prog.info? 30).map (fun i => (i.zero, i.size, i.bytes)) = some (some (.slice none 0 0), 1, 24) := by kernel_rfl
theorem undT : Tryd.prog.underlying 25 = some (.slice 30) := by kernel_rfl
theorem tindex (b n cap k : Nat) (hk : k < n) (w : World) : (Instr.indexAt 25 (.slice (some ⟨b, 0, none⟩) n cap) (.int .i64 k)).run Tryd.prog w = .ok (.pointer (some ⟨b, k, none⟩)) w := by
  have hu : Tryd.prog.underlying 25 = some (.slice (Tryd.prog.elem 25)) := by kernel_rfl
  refine (run_indexAt_slice (P := Tryd.prog) (w := w) 25 ⟨b, 0, none⟩ n cap .i64 (k : Int) hu).trans ?_
  rw [if_pos ⟨by omega, by omega⟩]
  have hs : (sizeOf (Tryd.prog.elem 25)).run Tryd.prog w = .ok 1 w := by kernel_rfl
  rw [hs]
  simp [Addr.add]
  intro h; omega
def vxx (vs : List Value) (j : Nat) : Value := vs.getD j (.slice none 0 0)
def lxx (Ls : List (List Int)) (j : Nat) : List Int := Ls.getD j []
theorem vxx_get {vs : List Value} {j : Nat} (h : j < vs.length) : vs[j] = vxx vs j := by unfold vxx; simp [h]
theorem wpList_sx {ops : Array Oper} {rest : List Oper} {o : Oper} {a : Act} {Q : Exit → Act → World → Prop} (W : World) (b0 : Nat) (v : Value) (vs : List Value) (y : Value) (n B : Nat) (s x : Operand) (hgd : o.guard = none)
    (ho : o.op = .call { callee := .builtin .append, args := #[s, x], argTypes := #[25, 25] }) (hs : a.eval s = v) (hx : a.eval x = .slice (some ⟨B, 0, none⟩) 1 1) (hn : vs.length = n) (hl : n ≤ 20000) (hy : y.oneCell' = true)
    (hO : W.ownsRow b0 30 1 v n vs) (hN : At W B [y]) (hb : b0 ≤ W.heap.size) (H : Nat) (hH : W.heap.size = H)
    (h : ∀ g cap w', Hid (w'.ownsRow b0 30 1 (.slice (some ⟨g, 0, none⟩) (n + 1) cap) (n + 1) (vs ++ [y])) → Hid (W.grownBy w' v.ownBlock) → Hid (v.ownBlock = some g ∨ g = H) → wpList Tryd.prog ops Q rest (a.put o.dst (.slice (some ⟨g, 0, none⟩) (n + 1) cap)) w') : wpList Tryd.prog ops Q (o :: rest) a W := by
  have hml : 30000 ≤ maxLen := by decide
  obtain ⟨i0, hi, hz0, hz1, hz2⟩ := info_parts infoT
  refine wpList_plain hgd fun _ hK => wp_append_lies W s x _ ho b0 _ i0 (.slice none 0 0) 1 24 undT hi hz0 hz1 hz2 rfl (by decide) v n vs hs hO ⟨B, 0, none⟩ 1 1 [y] hx rfl ?_ ?_ (by decide) (by omega) (by omega) hb H hH ?_
  · intro j u hu
    match j with
    | 0 => simp at hu; subst hu; exact (hN.1 0 (by simp)).1
    | j + 1 => simp at hu
  · intro u hu; simp at hu; subst hu; exact hy
  · intro g cap w' h1 h2 h3 _
    exact hK _ _ (h g cap w' h1 h2 h3)
theorem app_factsR {w wr W w2 : World} {base Wt D e size n : Nat} {v : Value} {lw ld xs : List Value} (hO : wr.ownsRow base e size v n xs) (hg : W.grownBy w2 v.ownBlock) (hW : Gr wr W) (hb : base ≤ wr.heap.size) (hw : w.heap.size ≤ base) (lW : Wt < base) (lD : D < base) (AW : At wr Wt lw) (AD : At wr D ld) (G : Gr w wr) : At w2 Wt lw ∧ At w2 D ld ∧ Gr w w2 ∧ base ≤ w2.heap.size := by
  have hs := hW.out.size
  have hs2 := hg.size
  have hBb := (Below.refl base W).grown hg (by omega) (fun k hk => (hO.lt k hk).1)
  exact ⟨At.belowN hBb lW hs2 (At.below hW.out AW), At.belowN hBb lD hs2 (At.below hW.out AD), Below.grown (Gr.step G hW.out).out hg (by have := G.out.size; omega) (fun k hk => Nat.le_trans hw (hO.lt k hk).1), by omega⟩
/-- A row of rows, to be read. -/
structure RQ (W : World) (base : Nat) (v : Value) (vs : List Value) (Ls : List (List Int)) : Prop where
  o : W.ownsRow base 30 1 v vs.length vs
  n : vs.length = Ls.length
  i : ∀ j, j < vs.length → W.ownsRow base 3 1 (vxx vs j) (lxx Ls j).length (ir (lxx Ls j))
  d : ∀ j g, j < vs.length → (vxx vs j).ownBlock = some g → v.ownBlock ≠ some g
theorem RQ.nil (W : World) (base : Nat) : RQ W base (.slice none 0 0) [] [] := ⟨World.ownsRow_nil _ _ _ _, rfl, fun j hj => by simp at hj, fun j _ hj => by simp at hj⟩
theorem own_wide {w : World} {b b' e size n : Nat} {v : Value} {xs : List Value} (hb : b ≤ b') (h : w.ownsRow b' e size v n xs) : w.ownsRow b e size v n xs := by
  obtain ⟨h1, h2 | ⟨g, cap, cur, hv, hg, hr⟩⟩ := h
  · exact ⟨h1, .inl h2⟩
  · exact ⟨h1, .inr ⟨g, cap, cur, hv, by omega, hr⟩⟩
section
variable {W w' : World} {base : Nat} {v : Value} {vs : List Value} {Ls : List (List Int)}
theorem RQ.below (h : RQ W base v vs Ls) (hB : Below W.heap.size W w') : RQ w' base v vs Ls := ⟨own_keep h.o hB, h.n, fun j hj => own_keep (h.i j hj) hB, h.d⟩
theorem RQ.more {ob : Obj} {v' x : Value} {L : List Int} (h : RQ W base v vs Ls) (hx0 : W.ownsRow base 3 1 x L.length (ir L)) (hxd : ∀ g, x.ownBlock = some g → v.ownBlock ≠ some g) (hown : w'.ownsRow base 30 1 v' (vs.length + 1) (vs ++ [x])) (hg : (W.alloc ob).grownBy w' v.ownBlock) (hat : ∀ g, v'.ownBlock = some g → v.ownBlock = some g ∨ W.heap.size ≤ g) : RQ w' base v' (vs ++ [x]) (Ls ++ [L]) := by
  have hl : (vs ++ [x]).length = vs.length + 1 := by simp
  have hx : ∀ j, j < vs.length → vxx (vs ++ [x]) j = vxx vs j := fun j hj => by unfold vxx; simp [List.getElem?_append_left hj]
  have hy : ∀ j, j < vs.length → lxx (Ls ++ [L]) j = lxx Ls j := fun j hj => by unfold lxx; rw [h.n] at hj; simp [List.getElem?_append_left hj]
  have hx2 : vxx (vs ++ [x]) vs.length = x := by unfold vxx; simp
  have hy2 : lxx (Ls ++ [L]) vs.length = L := by unfold lxx; rw [h.n]; simp
  have keep : ∀ {u : Value} {M : List Int}, W.ownsRow base 3 1 u M.length (ir M) → (∀ g, u.ownBlock = some g → v.ownBlock ≠ some g) → w'.ownsRow base 3 1 u M.length (ir M) := fun {u M} ho hd => by
    cases hb : u.ownBlock with
    | none => exact (ho.alloc ob).kept hg (.inl hb)
    | some g => exact (ho.alloc ob).kept hg (.inr (by rw [hb]; exact fun e2 => hd g hb e2.symm))
  refine ⟨by rw [hl]; exact hown, by simp [h.n], fun j hj => ?_, fun j g hj hb => ?_⟩
  · rw [hl] at hj
    by_cases e : j = vs.length
    · rw [e, hx2, hy2]; exact keep hx0 hxd
    · rw [hx j (by omega), hy j (by omega)]; exact keep (h.i j (by omega)) (fun g hb => h.d j g (by omega) hb)
  · rw [hl] at hj
    intro hv
    have two : ∀ {u : Value} {M : List Int}, W.ownsRow base 3 1 u M.length (ir M) → (∀ g, u.ownBlock = some g → v.ownBlock ≠ some g) → u.ownBlock = some g → False := fun {u M} ho hd hb => by
      rcases hat g hv with c | c
      · exact hd g hb c
      · have := (ho.lt g hb).2; omega
    by_cases e : j = vs.length
    · rw [e, hx2] at hb; exact two hx0 hxd hb
    · rw [hx j (by omega)] at hb; exact two (h.i j (by omega)) (fun g hb => h.d j g (by omega) hb) hb
theorem RQ.cell {gO cap j : Nat} (h : RQ W base v vs Ls) (hv : v = .slice (some ⟨gO, 0, none⟩) vs.length cap) (hj : j < vs.length) : W.cell? ⟨gO, j, none⟩ = some (vxx vs j) := by
  have ho := h.o
  rw [hv] at ho
  obtain ⟨h1, h2 | ⟨g', cap', cur, hv', hb, hg, hc, hm, hs, ht⟩⟩ := ho
  · obtain ⟨hv', _⟩ := h2; cases hv'
  · simp only [Value.slice.injEq, Option.some.injEq, Addr.mk.injEq, and_true] at hv'
    obtain ⟨rfl, _, rfl⟩ := hv'
    have e : cur.toList[j]? = some vs[j] := by
      have : (cur.toList.take (vs.length * 1))[j]? = vs[j]? := by rw [ht]
      rw [List.getElem?_take, if_pos (by omega), List.getElem?_eq_getElem hj] at this
      exact this
    rw [← vxx_get hj]
    simp [World.cell?, hg]; simpa using e
end
/-- The reaches of the first k cells. -/
def RSl (m n : Nat) (l : List Int) (q : Int) (k : Nat) (Ls : List (List Int)) : Prop := Ls.length = (bgs m n l q k).length ∧ ∀ j, j < (bgs m n l q k).length → ∃ kk, Stops m n l q ((bgs m n l q k).getD j 0) kk ∧ kk < l.length ∧ lxx Ls j = on (pth m n l ((bgs m n l q k).getD j 0) kk)
theorem RSl.zero (m n : Nat) (l : List Int) (q : Int) : RSl m n l q 0 [] := ⟨rfl, fun j hj => by simp [bgs] at hj⟩
theorem RSl.no {m n : Nat} {l : List Int} {q : Int} {k : Nat} {Ls : List (List Int)} (h : RSl m n l q k Ls) (hb : bgB m n l q k = false) : RSl m n l q (k + 1) Ls := by
  have e : bgs m n l q (k + 1) = bgs m n l q k := by rw [bgs_succ, hb]; simp
  unfold RSl
  rw [e]
  exact h
theorem RSl.yes {m n : Nat} {l : List Int} {q : Int} {k kk : Nat} {Ls : List (List Int)} (h : RSl m n l q k Ls) (hb : bgB m n l q k = true) (hs : Stops m n l q k kk) (hk : kk < l.length) : RSl m n l q (k + 1) (Ls ++ [on (pth m n l k kk)]) := by
  have e : bgs m n l q (k + 1) = bgs m n l q k ++ [k] := by rw [bgs_succ, hb]; simp
  unfold RSl
  rw [e]
  refine ⟨by simp [h.1], fun j hj => ?_⟩
  rw [List.length_append, List.length_singleton] at hj
  by_cases c : j < (bgs m n l q k).length
  · obtain ⟨x, h1, h2, h3⟩ := h.2 j c
    have e1 : (bgs m n l q k ++ [k]).getD j 0 = (bgs m n l q k).getD j 0 := by simp [List.getElem?_append_left c]
    rw [e1]
    refine ⟨x, h1, h2, ?_⟩
    rw [← h3]
    unfold lxx
    rw [← h.1] at c
    simp [List.getElem?_append_left c]
  · obtain rfl : j = (bgs m n l q k).length := by omega
    have e1 : (bgs m n l q k ++ [k]).getD (bgs m n l q k).length 0 = k := by simp
    rw [e1]
    refine ⟨kk, hs, hk, ?_⟩
    unfold lxx
    rw [← h.1]
    simp
theorem bgs_len (m n : Nat) (l : List Int) (q : Int) (k : Nat) : (bgs m n l q k).length ≤ k := by
  have := List.length_filter_le (fun c => bgB m n l q c) (List.range k)
  rw [List.length_range] at this
  exact this
/-- What Streams tells. -/
def SQ (W : World) (m n : Nat) (l : List Int) (q : Int) (v : Value) : Prop := ∃ base vs Ls, RQ W base v vs Ls ∧ RSl m n l q l.length Ls
theorem SQ.below {W W' : World} {m n : Nat} {l : List Int} {q : Int} {v : Value} (h : SQ W m n l q v) (hB : Below W.heap.size W W') : SQ W' m n l q v := by
  obtain ⟨b, vs, Ls, h1, h2⟩ := h
  exact ⟨b, vs, Ls, h1.below hB, h2⟩
set_option maxRecDepth 4000 in
set_option maxHeartbeats 8000000 in
theorem streams_ok (g : Nat → Addr) {m n Lb Lo Lcap : Nat} {l : List Int} (q : Int) (hq : 1 ≤ q) (w : World) (hR : Rs w Lb Lo Lcap l) (ok : Ok l m n) (hv : vcode m n l = 0) (hl : Lai w g) : Calls Tryd.prog 6 #[raV m n (.slice (some ⟨Lb, Lo, none⟩) l.length Lcap), .int .i64 q] w fun e w' => ∃ v, e = .returned (.tuple #[v, .nilIface]) ∧ SQ w' m n l q v ∧ Gr w w' := by
  have hlen := ok.len_le
  have PX : Hid (PF w (w.alloc (.cells #[.int .i64 (m : Int), .int .i64 (n : Int), .slice (some ⟨Lb, Lo, none⟩) l.length Lcap] 32)) w.heap.size [.int .i64 (m : Int), .int .i64 (n : Int), .slice (some ⟨Lb, Lo, none⟩) l.length Lcap]) := ⟨At.new3 _ _ _ _ _, (Gr.refl w).alloc _⟩
  have C1 := hidb (streamsOf_ok g q hq _ (hR.below PX.out.gr.out) ok hv (hl.below PX.out.gr.out))
  have HBe := hidb (fun F FL IS IN LV ob ocap vq Fl W (h : SE W m n Lb Lo Lcap l q F FL IS IN LV ob ocap vq Fl) k (hk : k < l.length) => begins_any k hk W h)
  have HRe := hidb (fun F FL IS IN LV ob ocap vq Fl W (h : SE W m n Lb Lo Lcap l q F FL IS IN LV ob ocap vq Fl) k (hk : k < l.length) => reach_any ok k hk W h)
  have HL := hidb (show l.length ≤ 16384 from hlen)
  unfold raV at C1 ⊢
  unfold seV at HBe HRe
  obtain ⟨N, hN⟩ : ∃ N, N = l.length := ⟨_, rfl⟩
  have HN := hidb hN
  rw [← hN] at PX C1 HBe HRe HL ⊢
  clear hR ok hv hl hlen hN hq
  go_enter Tryd.func6, Tryd.ntmps6
  go_upto_region 1 with fail
  generalize w.alloc (.cells #[.int .i64 (m : Int), .int .i64 (n : Int), .slice (some ⟨Lb, Lo, none⟩) N Lcap] 32) = w1 at *
  obtain ⟨T, hT⟩ : ∃ z, z = w.heap.size := ⟨_, rfl⟩
  rw [← hT] at PX ⊢
  clear hT
  obtain ⟨q0, q1, q2⟩ := PX.out.a.c3
  go_wp2_with fail
  refine C1.out.mono ?_
  rintro e w2 ⟨F, IS, IN, rfl, hX, hG2⟩
  clear q0 q1 q2 C1
  obtain ⟨FL, LV, ob, ocap, vq, Fl, hSE⟩ := hX
  have HSE := hidb hSE
  have HGw := hidb (Gr.step PX.out.gr hG2.out)
  have HT := hidb ((At.below hG2.out PX.out.a).alloc (.cells #[.pointer (some ⟨F, 0, none⟩), .slice (some ⟨IS, 0, none⟩) N N, .slice (some ⟨IN, 0, none⟩) N N] 49))
  have HZ := hidb (At.new3 w2 (.pointer (some ⟨F, 0, none⟩)) (.slice (some ⟨IS, 0, none⟩) N N) (.slice (some ⟨IN, 0, none⟩) N N) 49)
  have HG := hidb ((Gr.refl w2).alloc (.cells #[.pointer (some ⟨F, 0, none⟩), .slice (some ⟨IS, 0, none⟩) N N, .slice (some ⟨IN, 0, none⟩) N N] 49))
  have HBe2 := hidb (fun W (h : Gr w2 W) => HBe.out F FL IS IN LV ob ocap vq Fl W (HSE.out.below h.out))
  have HRe2 := hidb (fun W (h : Gr w2 W) => HRe.out F FL IS IN LV ob ocap vq Fl W (HSE.out.below h.out))
  clear hSE hG2 PX HBe HRe HSE
  obtain ⟨q0, q1, q2⟩ := HT.out.c3
  go_upto_region 6 with fail
  clear q0 q1 q2 HT
  generalize w2.alloc (.cells #[.pointer (some ⟨F, 0, none⟩), .slice (some ⟨IS, 0, none⟩) N N, .slice (some ⟨IN, 0, none⟩) N N] 49) = w3 at *
  obtain ⟨Z, hZ⟩ : ∃ z, z = w2.heap.size := ⟨_, rfl⟩
  rw [← hZ] at HZ ⊢
  clear hZ
  obtain ⟨base, hbs⟩ : ∃ z, z = w3.heap.size := ⟨_, rfl⟩
  have HB0 := hidb (show Z < base ∧ w2.heap.size ≤ base from ⟨by rw [hbs]; exact HZ.out.lt, by rw [hbs]; exact HG.out.out.size⟩)
  have E0 := hidb (show RQ w3 base (.slice none 0 0) [] [] ∧ RSl m n l q 0 [] ∧ At w3 Z [.pointer (some ⟨F, 0, none⟩), .slice (some ⟨IS, 0, none⟩) N N, .slice (some ⟨IN, 0, none⟩) N N] ∧ Gr w2 w3 ∧ base ≤ w3.heap.size from ⟨RQ.nil _ _, RSl.zero _ _ _ _, HZ.out, HG.out, by omega⟩)
  clear HZ HG hbs
  go_loopw [8, 22] (fun v t wr => ∃ (k : Nat) (vs : List Value) (Ls : List (List Int)), k ≤ N ∧ t = .int .i64 (k : Int) ∧ Hid (RQ wr base v vs Ls ∧ RSl m n l q k Ls ∧ At wr Z [.pointer (some ⟨F, 0, none⟩), .slice (some ⟨IS, 0, none⟩) N N, .slice (some ⟨IN, 0, none⟩) N N] ∧ Gr w2 wr ∧ base ≤ wr.heap.size)) (fun _ t _ => N - (intOf t).toNat)
  case atStart => exact ⟨0, [], [], Nat.zero_le _, rfl, E0⟩
  case round =>
    clear E0
    obtain ⟨k, vs, Ls, hk, rfl, E⟩ := hrel
    by_cases h1 : ¬ k < N
    · have h1' : ¬ (k : Int) < (N : Int) := by omega
      have HZ : Hid (SQ wr m n l q u8 ∧ Gr w wr) := ⟨⟨base, vs, Ls, E.out.1, by have := E.out.2.1; rw [show k = l.length by have := HN.out; omega] at this; exact this⟩, Gr.step HGw.out E.out.2.2.2.1.out⟩
      clear h1 E
      go_wp2
      go_ret2
      exact ⟨_, rfl, HZ.out⟩
    · have h1' : (k : Int) < (N : Int) := by omega
      have hkN : k < N := by omega
      have H1 := hidb hkN
      have e1 : IntKind.i64.wrap ((k : Int) + 1) = ((k + 1 : Nat) : Int) := by rw [show (k : Int) + 1 = ((k + 1 : Nat) : Int) by omega]; exact wrap_in (by have := HL.out; omega) (by have := HL.out; omega)
      obtain ⟨z0, z1, z2⟩ := E.out.2.2.1.c3
      have HB1 := hidb (HBe2.out wr E.out.2.2.2.1 k hkN)
      cases hb : bgB m n l q k with
      | false =>
        rw [hb] at HB1
        have HNo := hidb (E.out.2.1.no hb)
        clear hb h1 hkN
        go_wp2_with fail
        refine HB1.out.mono ?_
        rintro e w4 ⟨rfl, hB4⟩
        have E4 := hidb (show RQ w4 base u8 vs Ls ∧ RSl m n l q (k + 1) Ls ∧ At w4 Z [.pointer (some ⟨F, 0, none⟩), .slice (some ⟨IS, 0, none⟩) N N, .slice (some ⟨IN, 0, none⟩) N N] ∧ Gr w2 w4 ∧ base ≤ w4.heap.size from ⟨E.out.1.below hB4.out, HNo.out, At.below hB4.out E.out.2.2.1, Gr.step E.out.2.2.2.1 hB4.out, by have := hB4.out.size; have := E.out.2.2.2.2; omega⟩)
        clear hB4 E z0 z1 z2
        go_wp2
        go_roundw
        case rel => exact ⟨k + 1, vs, Ls, H1.out, by go_num, E4⟩
        case measure => have := H1.out; simp [intOf]; omega
      | true =>
        rw [hb] at HB1
        have HYe := hidb (fun kk hs hkk => E.out.2.1.yes (kk := kk) hb hs hkk)
        clear hb h1 hkN
        go_wp2_with fail
        refine HB1.out.mono ?_
        rintro e w4 ⟨rfl, hB4⟩
        have E4 := hidb (show RQ w4 base u8 vs Ls ∧ At w4 Z [.pointer (some ⟨F, 0, none⟩), .slice (some ⟨IS, 0, none⟩) N N, .slice (some ⟨IN, 0, none⟩) N N] ∧ Gr w2 w4 ∧ base ≤ w4.heap.size from ⟨E.out.1.below hB4.out, At.below hB4.out E.out.2.2.1, Gr.step E.out.2.2.2.1 hB4.out, by have := hB4.out.size; have := E.out.2.2.2.2; omega⟩)
        have HLl := hidb (show vs.length ≤ 20000 from by rw [E.out.1.n, E.out.2.1.1]; have := bgs_len m n l q k; have := HL.out; have := H1.out; omega)
        clear hB4 E z0 z1 z2
        obtain ⟨z0, z1, z2⟩ := E4.out.2.1.c3
        have HR1 := hidb (HRe2.out w4 E4.out.2.2.1 k H1.out)
        go_wp2_with fail
        refine HR1.out.mono ?_
        rintro e w5 ⟨x, rfl, b5, kk, hrow, hst, hkk, hb5, hG5⟩
        obtain ⟨ad1, cap1, rfl⟩ := own_shape1' hrow
        have HLen : Hid ((on (pth m n l k kk)).length = kk + 1) := by show _ = _; rw [List.length_map, pth_len]
        have HRow : Hid (w5.ownsRow base 3 1 (.slice ad1 (kk + 1) cap1) (on (pth m n l k kk)).length (ir (on (pth m n l k kk)))) := by
          rw [HLen.out]
          exact own_wide (by have := E4.out.2.2.2; omega) hrow
        have HRd : Hid (∀ g, (Value.slice ad1 (kk + 1) cap1).ownBlock = some g → u8.ownBlock ≠ some g) := fun g hg hv => by
          have h1 := (hrow.lt g hg).1
          have h2 := (E4.out.1.o.lt g hv).2
          omega
        have HS := hidb (HYe.out kk hst (by rw [← HN.out]; exact hkk))
        have E5 := hidb (show RQ w5 base u8 vs Ls ∧ At w5 Z [.pointer (some ⟨F, 0, none⟩), .slice (some ⟨IS, 0, none⟩) N N, .slice (some ⟨IN, 0, none⟩) N N] ∧ Gr w2 w5 ∧ base ≤ w5.heap.size from ⟨E4.out.1.below hG5.out, At.below hG5.out E4.out.2.1, Gr.step E4.out.2.2.1 hG5.out, by have := hG5.out.size; have := E4.out.2.2.2; omega⟩)
        clear hrow hst hkk hb5 hG5 HYe E4 z0 z1 z2 HR1
        go_wp2_with (at_builtin; refine wpList_sx _ base u8 vs (.slice ad1 (kk + 1) cap1) vs.length w5.heap.size _ _ rfl rfl rfl rfl rfl HLl.out rfl (E5.out.1.o.alloc _) (At.new1 _ _ _) (by have := E5.out.2.2.2; simp; omega) _ rfl ?_; intro g2 cap2 w6 hown hgrow hat)
        have HF : Hid (RQ w6 base (.slice (some ⟨g2, 0, none⟩) (vs.length + 1) cap2) (vs ++ [.slice ad1 (kk + 1) cap1]) (Ls ++ [on (pth m n l k kk)]) ∧ RSl m n l q (k + 1) (Ls ++ [on (pth m n l k kk)]) ∧ At w6 Z [.pointer (some ⟨F, 0, none⟩), .slice (some ⟨IS, 0, none⟩) N N, .slice (some ⟨IN, 0, none⟩) N N] ∧ Gr w2 w6 ∧ base ≤ w6.heap.size) := by
          obtain ⟨h1, -, h3, h4⟩ := app_factsR E5.out.1.o hgrow.out ((Gr.refl w5).alloc _) E5.out.2.2.2 HB0.out.2 HB0.out.1 HB0.out.1 E5.out.2.1 E5.out.2.1 E5.out.2.2.1
          refine ⟨E5.out.1.more HRow.out HRd.out hown.out hgrow.out (fun g hg => ?_), HS.out, h1, h3, h4⟩
          obtain rfl : g2 = g := by simpa [Value.ownBlock] using hg
          rcases hat.out with c | c
          · exact .inl c
          · exact .inr (by rw [c]; simp)
        clear hown hgrow hat E5
        go_wp2
        go_roundw
        case rel => exact ⟨k + 1, _, _, H1.out, by go_num, HF⟩
        case measure => have := H1.out; simp [intOf]; omega
end Go.Proofs.YtlhligeicnejbaaDoor
