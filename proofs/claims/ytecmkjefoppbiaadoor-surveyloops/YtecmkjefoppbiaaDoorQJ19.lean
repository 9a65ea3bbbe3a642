/-
  survey.Survey's up.; Surveys: what lies in memory while loops are told: rows of rows, what they go up by; appends of a whole row, of a row to rows.; survey.Survey's Loops.
-/
import Derived.Test.YtecmkjefoppbiaaDoorQSvO
import Derived.Deep.Upon
namespace Go.Proofs.YtecmkjefoppbiaaDoor
open Go.RowKit
attribute [local go_sem ↓] Go.wp_at_zero Go.wp_at_succ

/-- By how much a way goes up; several ways. -/
def upW (l : List Sn) (w : Int) : Int := if w < 0 then -(snX l (-w - 1).toNat).u else (snX l (w - 1).toNat).u
def upL (l : List Sn) (L : List Int) : Int := (L.map (upW l)).sum
theorem upL_snoc (l : List Sn) (L : List Int) (x : Int) : upL l (L ++ [x]) = upL l L + upW l x := by simp [upL]
theorem upW_bd {M : Nat} {l : List Sn} (h : FT M l) {w : Int} (h0 : ¬ w = 0) (hw : w.natAbs ≤ l.length) : -1048576 ≤ upW l w ∧ upW l w ≤ 1048576 := by
  unfold upW
  split
  · have := (h (-w - 1).toNat (by omega)).2.2.2.2.2
    omega
  · exact (h (w - 1).toNat (by omega)).2.2.2.2.2
theorem upL_bd {M : Nat} {l : List Sn} (h : FT M l) : ∀ {L : List Int}, (∀ w ∈ L, ¬ w = 0 ∧ w.natAbs ≤ l.length) → -(1048576 * (L.length : Int)) ≤ upL l L ∧ upL l L ≤ 1048576 * (L.length : Int)
  | [], _ => by simp [upL]
  | x :: L, hL => by
    have h1 := upW_bd h (hL x (by simp)).1 (hL x (by simp)).2
    have h2 := upL_bd h (L := L) (fun w hw => hL w (by simp [hw]))
    have e : upL l (x :: L) = upW l x + upL l L := by simp [upL]
    rw [e, List.length_cons]
    push_cast
    omega
section
variable {l : List Sn} {M : Nat} {ad : Option Addr} {b o cap : Nat}
set_option maxRecDepth 4000 in
set_option maxHeartbeats 8000000 in
theorem sup_any (w : World) (h : SeL 32 w ad b o cap l) (hn : l.length ≤ 60) (hF : FT M l) (B : Int) {g cp base : Nat} {L : List Int} (hO : w.ownsRow base 3 1 (.slice (some ⟨g, 0, none⟩) L.length cp) L.length (ir L)) (hL : ∀ z ∈ L, ¬ z = 0 ∧ z.natAbs ≤ l.length) (hLl : L.length ≤ 100) : Calls Tryd.prog 16 #[svV M B (.slice ad l.length cap), .slice (some ⟨g, 0, none⟩) L.length cp] w fun e w' => e = .returned (.int .i64 (upL l L)) ∧ Gr w w' := by
  have HRow := hidb h
  have HO := hidb hO
  have HBd := hidb (fun k (hk : k ≤ L.length) => upL_bd hF (L := L.take k) (fun z hz => hL z (List.mem_of_mem_take hz)))
  have HLz := hidb hL
  have HF := hidb hF
  have HIx := hidb h.ix
  have HLl := hidb hLl
  obtain ⟨n, hn'⟩ : ∃ n, n = l.length := ⟨_, rfl⟩
  have HNl : Hid (n = l.length ∧ n ≤ 60) := ⟨hn', by omega⟩
  obtain ⟨m, hm⟩ : ∃ m, m = L.length := ⟨_, rfl⟩
  have HMl : Hid (m = L.length) := hm
  unfold svV
  rw [← hn'] at HIx ⊢
  rw [← hm] at ⊢
  clear h hO hL hF hn hn' hm hLl
  have PX : Hid (At (w.alloc (.cells #[.int .i64 (M : Int), .int .i64 B, .slice ad n cap] 34)) w.heap.size [.int .i64 (M : Int), .int .i64 B, .slice ad n cap] ∧ Gr w (w.alloc (.cells #[.int .i64 (M : Int), .int .i64 B, .slice ad n cap] 34))) := ⟨At.new3 _ _ _ _ _, (Gr.refl w).alloc _⟩
  go_enter Tryd.func16, Tryd.ntmps16
  go_upto_region 2 with fail
  generalize w.alloc (.cells #[.int .i64 (M : Int), .int .i64 B, .slice ad n cap] 34) = w1 at *
  go_wp2
  go_loopw [5, 10] (fun v t wr => ∃ k : Nat, k ≤ m ∧ v = .int .i64 (upL l (L.take k)) ∧ t = .int .i64 (k : Int) ∧ wr = w1) (fun _ t _ => m - (intOf t).toNat)
  case atStart => exact ⟨0, Nat.zero_le _, by simp [upL], rfl, rfl⟩
  case round =>
    obtain ⟨k, hk, rfl, rfl, rfl⟩ := hrel
    by_cases h1 : ¬ k < m
    · have h1' : ¬ (k : Int) < (m : Int) := by omega
      have HZ : Hid (upL l (L.take k) = upL l L) := by show _ = _; rw [List.take_of_length_le (by rw [← HMl.out]; omega)]
      clear h1 hk
      go_wp2
      go_ret
      exact ⟨by rw [HZ.out]; rfl, PX.out.2⟩
    · have h1' : (k : Int) < (m : Int) := by omega
      have H1 := hidb (show k < m by omega)
      have hkL : k < L.length := by rw [← HMl.out]; exact H1.out
      have ix := indexI g m cp k H1.out
      have ck := own_get (own_kept HO.out PX.out.2.out) hkL
      rw [show L.getD k 0 = L[k] by simp [hkL]] at ck
      obtain ⟨hz0, hzl⟩ := HLz.out L[k] (List.getElem_mem hkL)
      have hs : upL l (L.take (k + 1)) = upL l (L.take k) + upW l L[k] := by rw [List.take_succ_eq_append_getElem hkL, upL_snoc]
      have b2 := HBd.out (k + 1) (by omega)
      rw [List.length_take, Nat.min_eq_left (by omega)] at b2
      have HS := hidb hs
      rw [hs] at b2
      obtain ⟨z0, z1, z2⟩ := PX.out.1.c3
      have HSl := hidb (HRow.out.below PX.out.2.out)
      have e8 : IntKind.i64.wrap ((k : Int) + 1) = ((k + 1 : Nat) : Int) := by rw [show (k : Int) + 1 = ((k + 1 : Nat) : Int) by omega]; exact wr_in (by omega) (by have := HLl.out; omega)
      have hb3 : (k : Int) + 1 ≤ 100 := by have := HLl.out; omega
      push_cast at b2
      generalize L[k] = z at *
      generalize upL l (L.take k) = S at *
      by_cases c : z < 0
      · have hk2 : (-z - 1).toNat < n := by have := HNl.out; omega
        have e1 : IntKind.i64.wrap (-z) = -z := wr_in (by omega) (by have := HNl.out; omega)
        have e2 : IntKind.i64.wrap (-z - 1) = (((-z - 1).toNat : Nat) : Int) := by rw [show (((-z - 1).toNat : Nat) : Int) = -z - 1 by omega]; exact wr_in (by omega) (by have := HNl.out; omega)
        have hu : upW l z = -(snX l (-z - 1).toNat).u := by unfold upW; rw [if_pos c]
        generalize (-z - 1).toNat = j at *
        have ixj := HIx.out j (by have := HNl.out; omega)
        obtain ⟨⟨-, -, c1, -⟩, -⟩ := HSl.out.row j (by have := HNl.out; omega)
        rw [hu] at b2 HS
        generalize (snX l j).u = u at *
        have e3 : IntKind.i64.wrap (S - u) = S + -u := by rw [show S - u = S + -u by omega]; exact wr_in (by omega) (by omega)
        clear b2 hb3 hs hu hz0 hzl hk2 h1 hk hkL
        go_wp2
        go_roundw
        case rel => exact ⟨k + 1, H1.out, by rw [HS.out], by go_num, by first | exact trivial | rfl⟩
        case measure => have := H1.out; simp [intOf]; omega
      · have hk2 : (z - 1).toNat < n := by have := HNl.out; omega
        have e2 : IntKind.i64.wrap (z - 1) = (((z - 1).toNat : Nat) : Int) := by rw [show (((z - 1).toNat : Nat) : Int) = z - 1 by omega]; exact wr_in (by omega) (by have := HNl.out; omega)
        have hu : upW l z = (snX l (z - 1).toNat).u := by unfold upW; rw [if_neg c]
        generalize (z - 1).toNat = j at *
        have ixj := HIx.out j (by have := HNl.out; omega)
        obtain ⟨⟨-, -, c1, -⟩, -⟩ := HSl.out.row j (by have := HNl.out; omega)
        rw [hu] at b2 HS
        generalize (snX l j).u = u at *
        have e3 : IntKind.i64.wrap (S + u) = S + u := wr_in (by omega) (by omega)
        clear b2 hb3 hs hu hz0 hzl hk2 h1 hk hkL
        go_wp2
        go_roundw
        case rel => exact ⟨k + 1, H1.out, by rw [HS.out], by go_num, by first | exact trivial | rfl⟩
        case measure => have := H1.out; simp [intOf]; omega
end
end Go.Proofs.YtecmkjefoppbiaaDoor
namespace Go.Proofs.YtecmkjefoppbiaaDoor
open Go.RowKit

theorem infoR : (Tryd.prog.info? 28).map (fun i => (i.zero, i.size, i.bytes)) = some (some (.slice none 0 0), 1, 24) := by kernel_rfl
theorem undR : Tryd.prog.underlying 27 = some (.slice 28) := by kernel_rfl
theorem app_ni (g n c : Nat) (ad : Option Addr) (cx : Nat) (hle : n ≤ c) (ty : Nat) (w : World) : (Builtin.append_ #[28, 28] ty #[.slice (some ⟨g, 0, none⟩) n c, .slice ad 0 cx]).run Tryd.prog w = .ok (.slice (some ⟨g, 0, none⟩) n c) w := by
  obtain ⟨i0, hi, hz0, hz1, hz2⟩ := info_parts infoN
  cases ad with
  | none => exact run_append_nothing w _ _ ty _ i0 undI hi _ n c hle _ (Src.ofNil w undI cx)
  | some a => exact run_append_nothing w _ _ ty _ i0 undI hi _ n c hle _ (Src.ofSlice w undI a 0 cx [] (by simp) (fun j u h => by simp at h) (fun u h => by simp at h))
/-- A row is appended to another one. -/
theorem wpList_ir {ops : Array Oper} {rest : List Oper} {o : Oper} {a : Act} {Q : Exit → Act → World → Prop} (W : World) (b0 b2 g0 cp : Nat) (l T : List Int) (n m : Nat) (ad : Option Addr) (cx : Nat) (s x : Operand) (hgd : o.guard = none)
    (ho : o.op = .call { callee := .builtin .append, args := #[s, x], argTypes := #[28, 28] }) (hs : a.eval s = .slice (some ⟨g0, 0, none⟩) n cp) (hx : a.eval x = .slice ad m cx) (hl : n + m ≤ 20000) (hn : 0 < n)
    (hO : W.ownsRow b0 3 1 (.slice (some ⟨g0, 0, none⟩) n cp) n (ir l)) (hT : W.ownsRow b2 3 1 (.slice ad m cx) m (ir T)) (hb : b0 ≤ W.heap.size) (H : Nat) (hH : W.heap.size = H)
    (h : ∀ g cap w', Hid (w'.ownsRow b0 3 1 (.slice (some ⟨g, 0, none⟩) (n + m) cap) (n + m) (ir (l ++ T))) → Hid (W.grownBy w' (some g0)) → Hid (g0 = g ∨ g = H) → wpList Tryd.prog ops Q rest (a.put o.dst (.slice (some ⟨g, 0, none⟩) (n + m) cap)) w') : wpList Tryd.prog ops Q (o :: rest) a W := by
  have hml : 30000 ≤ maxLen := by decide
  obtain ⟨i0, hi, hz0, hz1, hz2⟩ := info_parts infoN
  have hTl : T.length = m := by have := hT.1; simpa [ir] using this
  by_cases c0 : m = 0
  · subst c0
    have e : T = [] := List.eq_nil_of_length_eq_zero hTl
    subst e
    refine wpList_plain hgd fun _ hK => ?_
    obtain ⟨g', cp', hv, hc, -, -⟩ := own_there hO hn
    simp only [Value.slice.injEq, Option.some.injEq, Addr.mk.injEq, and_true, true_and] at hv
    obtain ⟨rfl, rfl⟩ := hv
    have hr := app_ni g0 n cp ad cx hc o.type W
    unfold Oper.wp execOp
    simp only [ho, resolve, invoke, builtin, Sem.run_bind, Sem.run_pure, Result.andThen_ok, List.map_toArray, List.map_cons, List.map_nil, hs, hx, hr]
    refine hK _ _ (h g0 cp W ?_ ⟨rfl, rfl, rfl, Nat.le_refl _, fun _ _ _ => rfl⟩ (.inl rfl))
    rw [List.append_nil]
    exact hO
  · obtain ⟨g2, cx', hv, -, -, -⟩ := own_there hT (by omega)
    simp only [Value.slice.injEq, true_and] at hv
    obtain ⟨rfl, rfl⟩ := hv
    have hA := own_at1 hT
    refine wpList_plain hgd fun _ hK => wp_append_lies W s x _ ho b0 _ i0 (.int .i64 0) 1 8 undI hi hz0 hz1 hz2 rfl (by decide) _ n (ir l) hs hO ⟨g2, 0, none⟩ m cx (ir T) hx (by simp [ir, hTl]) ?_ ?_ (by omega) (by omega) (by omega) hb H hH ?_
    · intro j u hu
      obtain ⟨hj, rfl⟩ := List.getElem?_eq_some_iff.1 hu
      have e : (⟨g2, 0, none⟩ : Addr).add j = ⟨g2, j, none⟩ := by
        simp [Addr.add]
        intro h; omega
      rw [e]
      exact (hA.1 j hj).1
    · intro u hu
      obtain ⟨z, -, rfl⟩ := List.mem_map.1 hu
      rfl
    · intro g cap w' h1 h2 h3 _
      have h1' : w'.ownsRow b0 3 1 (.slice (some ⟨g, 0, none⟩) (n + m) cap) (n + m) (ir (l ++ T)) := by rw [show ir (l ++ T) = ir l ++ ir T by simp [ir]]; exact h1
      exact hK _ _ (h g cap w' h1' h2 (h3.imp (fun e => Option.some.inj e) id))
/-- A row is appended to rows. -/
theorem wpList_rr {ops : Array Oper} {rest : List Oper} {o : Oper} {a : Act} {Q : Exit → Act → World → Prop} (W : World) (b0 : Nat) (v : Value) (vs : List Value) (y : Value) (n B : Nat) (s x : Operand) (hgd : o.guard = none)
    (ho : o.op = .call { callee := .builtin .append, args := #[s, x], argTypes := #[27, 27] }) (hs : a.eval s = v) (hx : a.eval x = .slice (some ⟨B, 0, none⟩) 1 1) (hl : n ≤ 20000) (hy : y.oneCell' = true)
    (hO : W.ownsRow b0 28 1 v n vs) (hN : At W B [y]) (hb : b0 ≤ W.heap.size) (H : Nat) (hH : W.heap.size = H)
    (h : ∀ g cap w', Hid (w'.ownsRow b0 28 1 (.slice (some ⟨g, 0, none⟩) (n + 1) cap) (n + 1) (vs ++ [y])) → Hid (W.grownBy w' v.ownBlock) → Hid (v.ownBlock = some g ∨ g = H) → wpList Tryd.prog ops Q rest (a.put o.dst (.slice (some ⟨g, 0, none⟩) (n + 1) cap)) w') : wpList Tryd.prog ops Q (o :: rest) a W := by
  have hml : 30000 ≤ maxLen := by decide
  obtain ⟨i0, hi, hz0, hz1, hz2⟩ := info_parts infoR
  refine wpList_plain hgd fun _ hK => wp_append_lies W s x _ ho b0 _ i0 (.slice none 0 0) 1 24 undR hi hz0 hz1 hz2 rfl (by decide) v n vs hs hO ⟨B, 0, none⟩ 1 1 [y] hx rfl ?_ ?_ (by decide) (by omega) (by omega) hb H hH ?_
  · intro j u hu
    match j with
    | 0 => simp at hu; subst hu; exact (hN.1 0 (by simp)).1
    | j + 1 => simp at hu
  · intro u hu; simp at hu; subst hu; exact hy
  · intro g cap w' h1 h2 h3 _
    exact hK _ _ (h g cap w' h1 h2 h3)
def vX (vs : List Value) (j : Nat) : Value := vs.getD j (.slice none 0 0)
def lI (Ls : List (List Int)) (j : Nat) : List Int := Ls.getD j []
theorem vX_app {vs : List Value} {x : Value} {j : Nat} (hj : j < vs.length) : vX (vs ++ [x]) j = vX vs j := by unfold vX; simp [List.getElem?_append_left hj]
theorem vX_new {vs : List Value} {x : Value} : vX (vs ++ [x]) vs.length = x := by unfold vX; simp
theorem own_keptG {W w' : World} {base e size n : Nat} {u : Value} {xs : List Value} {row : Option Nat} (h : W.ownsRow base e size u n xs) (hg : W.grownBy w' row) (hd : ∀ g, u.ownBlock = some g → row ≠ some g) : w'.ownsRow base e size u n xs := by
  cases hb : u.ownBlock with
  | none => exact h.kept hg (.inl hb)
  | some g => exact h.kept hg (.inr (by rw [hb]; exact fun e2 => hd g hb e2.symm))
/-- Loops, and by how much they go up, so far. -/
structure LQ (w W : World) (SB WB base : Nat) (bx wy : List Value) (lv uv : Value) (vs : List Value) (Ls : List (List Int)) (Us : List Int) : Prop where
  x : At W SB bx
  y : At W WB wy
  o : W.ownsRow base 28 1 lv vs.length vs
  n : vs.length = Ls.length
  i : ∀ j, j < vs.length → W.ownsRow base 3 1 (vX vs j) (lI Ls j).length (ir (lI Ls j))
  u : W.ownsRow base 3 1 uv Us.length (ir Us)
  d1 : ∀ j g, j < vs.length → (vX vs j).ownBlock = some g → lv.ownBlock ≠ some g ∧ uv.ownBlock ≠ some g
  d2 : ∀ g, lv.ownBlock = some g → uv.ownBlock ≠ some g
  gr : Gr w W
  b : SB < base ∧ WB < base ∧ w.heap.size ≤ base ∧ base ≤ W.heap.size
section
variable {w W w' : World} {SB WB base : Nat} {bx wy : List Value} {lv uv : Value} {vs : List Value} {Ls : List (List Int)} {Us : List Int}
theorem LQ.below (h : LQ w W SB WB base bx wy lv uv vs Ls Us) (hB : Below W.heap.size W w') : LQ w w' SB WB base bx wy lv uv vs Ls Us :=
  ⟨At.below hB h.x, At.below hB h.y, own_kept h.o hB, h.n, fun j hj => own_kept (h.i j hj) hB, own_kept h.u hB, h.d1, h.d2, Gr.step h.gr hB, h.b.1, h.b.2.1, h.b.2.2.1, Nat.le_trans h.b.2.2.2 hB.size⟩
theorem LQ.alloc (h : LQ w W SB WB base bx wy lv uv vs Ls Us) (ob : Obj) : LQ w (W.alloc ob) SB WB base bx wy lv uv vs Ls Us := h.below ((Below.refl _ _).alloc (Nat.le_refl _) ob)
/-- A row that is none of these grows. -/
theorem LQ.aside {g : Nat} (h : LQ w W SB WB base bx wy lv uv vs Ls Us) (hg : W.grownBy w' (some g)) (hb : base ≤ g) (d1 : lv.ownBlock ≠ some g) (d2 : uv.ownBlock ≠ some g) (d3 : ∀ j, j < vs.length → (vX vs j).ownBlock ≠ some g) : LQ w w' SB WB base bx wy lv uv vs Ls Us := by
  obtain ⟨b1, b2, b3, b4⟩ := h.b
  refine ⟨h.x.grw1 hg (fun e => by have := Option.some.inj e; omega), h.y.grw1 hg (fun e => by have := Option.some.inj e; omega), own_keptG h.o hg (fun k e e2 => d1 (by rw [e, ← e2])), h.n, fun j hj => own_keptG (h.i j hj) hg (fun k e e2 => d3 j hj (by rw [e, ← e2])), own_keptG h.u hg (fun k e e2 => d2 (by rw [e, ← e2])), h.d1, h.d2, ?_, b1, b2, b3, Nat.le_trans b4 hg.size⟩
  exact Below.grown h.gr.out hg h.gr.out.size (fun k e => by cases e; omega)
/-- One more loop. -/
theorem LQ.loop {g cap H : Nat} {x : Value} {L : List Int} (h : LQ w W SB WB base bx wy lv uv vs Ls Us) (hx : W.ownsRow base 3 1 x L.length (ir L)) (hd1 : ∀ z, x.ownBlock = some z → lv.ownBlock ≠ some z ∧ uv.ownBlock ≠ some z) (hO : w'.ownsRow base 28 1 (.slice (some ⟨g, 0, none⟩) (vs.length + 1) cap) (vs.length + 1) (vs ++ [x])) (hg : W.grownBy w' lv.ownBlock) (ha : lv.ownBlock = some g ∨ g = H) (hH : W.heap.size ≤ H) : LQ w w' SB WB base bx wy (.slice (some ⟨g, 0, none⟩) (vs.length + 1) cap) uv (vs ++ [x]) (Ls ++ [L]) Us := by
  obtain ⟨b1, b2, b3, b4⟩ := h.b
  have hlv : ∀ k, lv.ownBlock = some k → base ≤ k := fun k e => (h.o.lt k e).1
  have hl : (vs ++ [x]).length = vs.length + 1 := by simp
  have hy : ∀ j, j < vs.length → lI (Ls ++ [L]) j = lI Ls j := fun j hj => by unfold lI; rw [h.n] at hj; simp [List.getElem?_append_left hj]
  have hy2 : lI (Ls ++ [L]) vs.length = L := by unfold lI; rw [h.n]; simp
  have key : ∀ z, (lv.ownBlock ≠ some z) → z < W.heap.size → g ≠ z := fun z h1 h2 e => by
    rcases ha with ha | ha
    · exact h1 (by rw [ha, e])
    · omega
  refine ⟨h.x.grw1 hg (fun e => by have := hlv _ e; omega), h.y.grw1 hg (fun e => by have := hlv _ e; omega), by rw [hl]; exact hO, by simp [h.n], fun j hj => ?_, own_keptG h.u hg (fun k e e2 => h.d2 k e2 e), fun j z hj hb => ?_, fun z e e2 => ?_, Below.grown h.gr.out hg h.gr.out.size (fun k e => by have := hlv _ e; omega), b1, b2, b3, Nat.le_trans b4 hg.size⟩
  · rw [hl] at hj
    by_cases e : j = vs.length
    · rw [e, vX_new, hy2]; exact own_keptG hx hg (fun k e2 => (hd1 k e2).1)
    · rw [vX_app (by omega), hy j (by omega)]; exact own_keptG (h.i j (by omega)) hg (fun k e2 => (h.d1 j k (by omega) e2).1)
  · rw [hl] at hj
    by_cases e : j = vs.length
    · rw [e, vX_new] at hb
      exact ⟨fun e2 => key z (hd1 z hb).1 (hx.lt z hb).2 (Option.some.inj e2), (hd1 z hb).2⟩
    · rw [vX_app (by omega)] at hb
      obtain ⟨k1, k2⟩ := h.d1 j z (by omega) hb
      exact ⟨fun e2 => key z k1 ((h.i j (by omega)).lt z hb).2 (Option.some.inj e2), k2⟩
  · have e' : g = z := Option.some.inj e
    rcases ha with ha | ha
    · exact h.d2 z (by rw [ha, e']) e2
    · have := (h.u.lt z e2).2; omega
/-- One more that it goes up by. -/
theorem LQ.up {g cap H : Nat} {y : Int} (h : LQ w W SB WB base bx wy lv uv vs Ls Us) (hO : w'.ownsRow base 3 1 (.slice (some ⟨g, 0, none⟩) (Us.length + 1) cap) (Us.length + 1) (ir (Us ++ [y]))) (hg : W.grownBy w' uv.ownBlock) (ha : uv.ownBlock = some g ∨ g = H) (hH : W.heap.size ≤ H) : LQ w w' SB WB base bx wy lv (.slice (some ⟨g, 0, none⟩) (Us.length + 1) cap) vs Ls (Us ++ [y]) := by
  obtain ⟨b1, b2, b3, b4⟩ := h.b
  have hlv : ∀ k, uv.ownBlock = some k → base ≤ k := fun k e => (h.u.lt k e).1
  have key : ∀ z, (uv.ownBlock ≠ some z) → z < W.heap.size → g ≠ z := fun z h1 h2 e => by
    rcases ha with ha | ha
    · exact h1 (by rw [ha, e])
    · omega
  refine ⟨h.x.grw1 hg (fun e => by have := hlv _ e; omega), h.y.grw1 hg (fun e => by have := hlv _ e; omega), own_keptG h.o hg (fun k e e2 => h.d2 k e e2), h.n, fun j hj => own_keptG (h.i j hj) hg (fun k e2 => (h.d1 j k hj e2).2), by rw [List.length_append]; exact hO, fun j z hj hb => ?_, fun z e e2 => ?_, Below.grown h.gr.out hg h.gr.out.size (fun k e => by have := hlv _ e; omega), b1, b2, b3, Nat.le_trans b4 hg.size⟩
  · obtain ⟨k1, k2⟩ := h.d1 j z hj hb
    exact ⟨k1, fun e2 => key z k2 ((h.i j hj).lt z hb).2 (Option.some.inj e2)⟩
  · exact key z (h.d2 z e) (h.o.lt z e).2 (Option.some.inj e2)
end
end Go.Proofs.YtecmkjefoppbiaaDoor
namespace Go.Proofs.YtecmkjefoppbiaaDoor
open Go.RowKit
attribute [local go_sem ↓] Go.wp_at_zero Go.wp_at_succ

instance (E : List Ed) (s : BS) (i : Nat) : Decidable (inT E s i) := by unfold inT; exact inferInstance
/-- The edges that are none of the tree. -/
def niL (E : List Ed) (s : BS) : Nat → List Nat
  | 0 => []
  | k + 1 => if inT E s k then niL E s k else niL E s k ++ [k]
theorem ni_len (E : List Ed) (s : BS) : ∀ k, (niL E s k).length ≤ k
  | 0 => Nat.le_refl _
  | k + 1 => by
    have := ni_len E s k
    unfold niL
    split
    · omega
    · rw [List.length_append]; simp; omega
/-- A loop that is right. -/
def LoopOK (l : List Sn) (s : BS) (i : Nat) (L : List Int) : Prop := ∃ T, L = ((i : Int) + 1) :: T ∧ chE (edL l) (eX (edL l) i).1 L (eX (edL l) i).1 ∧ (∀ w ∈ T, ¬ w = 0 ∧ w.natAbs ≤ l.length ∧ inT (edL l) s (w.natAbs - 1)) ∧ (L.map Int.natAbs).Nodup
/-- Loops and what they go up by, of the edges of a list. -/
structure LoS (l : List Sn) (s : BS) (K : List Nat) (Ls : List (List Int)) (Us : List Int) : Prop where
  a : Ls.length = K.length
  b : Us.length = K.length
  c : ∀ j, j < K.length → LoopOK l s (K.getD j 0) (lI Ls j) ∧ Us.getD j 0 = upL l (lI Ls j)
theorem LoS.nil (l : List Sn) (s : BS) : LoS l s [] [] [] := ⟨rfl, rfl, fun j hj => by simp at hj⟩
theorem LoS.more {l : List Sn} {s : BS} {K : List Nat} {Ls : List (List Int)} {Us : List Int} {i : Nat} {L : List Int} (h : LoS l s K Ls Us) (hL : LoopOK l s i L) : LoS l s (K ++ [i]) (Ls ++ [L]) (Us ++ [upL l L]) := by
  refine ⟨by simp [h.a], by simp [h.b], fun j hj => ?_⟩
  rw [List.length_append] at hj
  have hj' : j < K.length + 1 := hj
  by_cases e : j = K.length
  · have e1 : (K ++ [i]).getD j 0 = i := by rw [e]; simp
    have e2 : lI (Ls ++ [L]) j = L := by unfold lI; rw [e, ← h.a]; simp
    have e3 : (Us ++ [upL l L]).getD j 0 = upL l L := by rw [e, ← h.b]; simp
    rw [e1, e2, e3]
    exact ⟨hL, rfl⟩
  · have hk : j < K.length := by omega
    have e1 : (K ++ [i]).getD j 0 = K.getD j 0 := by simp [List.getElem?_append_left hk]
    have e2 : lI (Ls ++ [L]) j = lI Ls j := by unfold lI; simp [List.getElem?_append_left (show j < Ls.length by rw [h.a]; exact hk)]
    have e3 : (Us ++ [upL l L]).getD j 0 = Us.getD j 0 := by simp [List.getElem?_append_left (show j < Us.length by rw [h.b]; exact hk)]
    rw [e1, e2, e3]
    exact h.c j hk
section
variable {l : List Sn} {ad : Option Addr} {b o cap : Nat}
set_option maxRecDepth 4000 in
set_option maxHeartbeats 4000000 in
theorem sloops_bad (g : Nat → Addr) (M B : Int) (w : World) (h : SeL 32 w ad b o cap l) (hl : Laid w g) (hc : ¬ svc M B l = 0) : Calls Tryd.prog 6 #[svV M B (.slice ad l.length cap)] w fun e w' => e = .returned (.tuple #[.slice none 0 0, .slice none 0 0, evc g (svc M B l)]) ∧ Gr w w' := by
  have PX : Hid (At (w.alloc (.cells #[.int .i64 M, .int .i64 B, .slice ad l.length cap] 34)) w.heap.size [.int .i64 M, .int .i64 B, .slice ad l.length cap] ∧ Gr w (w.alloc (.cells #[.int .i64 M, .int .i64 B, .slice ad l.length cap] 34))) := ⟨At.new3 _ _ _ _ _, (Gr.refl w).alloc _⟩
  have HV := hidb (svalid_any g M B l _ (h.below PX.out.2.out) (hl.below PX.out.2.out))
  obtain ⟨z0, z1, z2⟩ := PX.out.1.c3
  obtain ⟨x, hx, hnn⟩ : ∃ x, evc g (svc M B l) = errV g x ∧ x + 1 = svc M B l := ⟨svc M B l - 1, by unfold evc; rw [if_neg hc], by omega⟩
  rw [hx] at HV ⊢
  unfold svV at HV ⊢
  unfold errV at HV ⊢
  generalize l.length = n at *
  clear hx hnn hc h hl
  go_enter Tryd.func6, Tryd.ntmps6
  go_wp2_with fail
  refine HV.out.mono ?_
  rintro e w2 ⟨rfl, hB⟩
  have G2 := hidb (Gr.step PX.out.2 hB.out)
  clear hB z0 z1 z2
  go_wp2
  exact bodyPost_ret (v := .tuple #[.slice none 0 0, .slice none 0 0, .iface 136 (.pointer (some (g x)))]) (by simp [results, Tryd.results6, go_sem]) rfl ⟨rfl, G2.out⟩
end
end Go.Proofs.YtecmkjefoppbiaaDoor
