/-
  Rows of points and of pieces: shape.steps, ring; mercatorref5.RingError.
-/
import Derived.Test.YtnadgoomkaldkaaDoorQTk
import Derived.Test.YtnadgoomkaldkaaDoorQShA
import Derived.Maps.AppendAt
import Derived.Deep.DrawnRows
import Derived.Deep.RegionWith
namespace Go.Proofs.YtnadgoomkaldkaaDoor
open Go.RowKit
attribute [local go_sem ↓] Go.wp_at_zero Go.wp_at_succ

theorem undr {W w' : World} (h : Below W.drew.heap.size W.drew w') : Below W.heap.size W w' := ⟨h.1, h.2, h.3, h.4, h.5⟩
theorem info_pt {e : TypeId} {z : Value} {s b : Nat} (h : (Tryd.prog.info? e).map (fun i => (i.zero, i.size, i.bytes)) = some (some z, s, b)) : ∃ i, Tryd.prog.info? e = some i ∧ i.zero = some z ∧ i.size = s ∧ i.bytes = b := by
  cases hi : Tryd.prog.info? e with
  | none => rw [hi] at h; cases h
  | some i => rw [hi] at h; simp at h; exact ⟨i, rfl, h.1, h.2.1, h.2.2⟩
theorem own_kp {W w' : World} {base e k n : Nat} {v : Value} {xs : List Value} (h : W.ownsRow base e k v n xs) (hB : Below W.heap.size W w') : w'.ownsRow base e k v n xs := by
  refine ⟨h.1, ?_⟩
  rcases h.2 with h2 | ⟨g, cap, cur, rfl, h3, h4, h5⟩
  · exact .inl h2
  · refine .inr ⟨g, cap, cur, rfl, h3, ?_, h5⟩
    rw [hB.block g (Array.getElem?_eq_some_iff.1 h4).1]; exact h4
theorem own_sh {w : World} {base k : Nat} {v : Value} {n e : Nat} {xs : List Value} (h : w.ownsRow base e k v n xs) : ∃ ad cap, v = .slice ad n cap := by
  obtain ⟨_, ⟨rfl, rfl⟩ | ⟨g, cap, cur, hv, _⟩⟩ := h
  · exact ⟨none, 0, rfl⟩
  · exact ⟨_, _, hv⟩
theorem At.grw {W w2 : World} {B : Nat} {l : List Value} {row : Option Nat} (h : At W B l) (hg : W.grownBy w2 row) (hne : row ≠ some B) : At w2 B l := by
  have hb := hg.block B h.2 (fun e => hne e.symm)
  exact ⟨fun i hi => ⟨(World.cell?_of_block (w := W) (a := ⟨B, i, none⟩) hb).trans (h.1 i hi).1, (World.frozen?_of_block (w := W) (a := ⟨B, i, none⟩) hb).trans (h.1 i hi).2⟩, Nat.lt_of_lt_of_le h.2 hg.size⟩
theorem news_at {W : World} {B : Nat} {l : List Value} (h : At W B l) : ∀ j u, l[j]? = some u → W.cell? ((⟨B, 0, none⟩ : Addr).add j) = some u := by
  intro j u hu
  have hadd : (⟨B, 0, none⟩ : Addr).add j = ⟨B, j, none⟩ := by unfold Addr.add; split <;> simp_all
  obtain ⟨hj, rfl⟩ := List.getElem?_eq_some_iff.1 hu
  rw [hadd]
  exact (h.1 j hj).1
/-- The two errors that a ring can have are laid. -/
structure Lb (w : World) (a : Nat → Addr) : Prop where
  cell : ∀ i, 1 ≤ i ∧ i ≤ 2 → w.cell? ⟨gv i, 0, none⟩ = some (errV a i)
theorem Lb.below {w w' : World} {a : Nat → Addr} (h : Lb w a) (hb : Below w.heap.size w w') : Lb w' a where
  cell i hi := by rw [hb.cell (p := ⟨gv i, 0, none⟩) (lt_of_cell (h.cell i hi))]; exact h.cell i hi
theorem Laid.lb {w : World} {a : Nat → Addr} (h : Laid w a) : Lb w a := ⟨fun i hi => h.cell i (by omega)⟩
def ev (g : Nat → Addr) (c : Nat) : Value := if c = 0 then .nilIface else errV g (c - 1)

/-- The i-th point of a list; the points' cells. -/
def sx (l : List Sp) (i : Nat) : Sp := l.getD i (0, 0)
theorem sx_get {l : List Sp} {i : Nat} (h : i < l.length) : l[i] = sx l i := by unfold sx; simp [h]
def sr (l : List Sp) : List Value := l.flatMap sc
theorem sr_snoc (l : List Sp) (p : Sp) : sr l ++ sc p = sr (l ++ [p]) := by simp [sr]
theorem sr_len : ∀ l : List Sp, (sr l).length = l.length * 2
  | [] => rfl
  | p :: l => by have := sr_len l; simp [sr] at this ⊢; omega
theorem sr_at : ∀ (l : List Sp) (k : Nat) (_ : k < l.length) (j : Nat), j < 2 → (sr l)[k * 2 + j]? = (sc (sx l k))[j]?
  | s :: l, 0, _, j, hj => by
    match j, hj with
    | 0, _ => rfl
    | 1, _ => rfl
  | s :: l, k + 1, hk, j, hj => by
    have ih := sr_at l k (by simp at hk; omega) j hj
    rw [show (k + 1) * 2 + j = (k * 2 + j) + 2 by omega]
    exact ih
theorem sindex (b o n cap k : Nat) (hk : k < n) (w : World) : (Instr.indexAt 43 (.slice (some ⟨b, o, none⟩) n cap) (.int .i64 k)).run Tryd.prog w = .ok (.pointer (some ⟨b, o + k * 2, none⟩)) w := by
  have hu : Tryd.prog.underlying 43 = some (.slice (Tryd.prog.elem 43)) := by kernel_rfl
  refine (run_indexAt_slice (P := Tryd.prog) (w := w) 43 ⟨b, o, none⟩ n cap .i64 (k : Int) hu).trans ?_
  rw [if_pos ⟨by omega, by omega⟩]
  have hs : (sizeOf (Tryd.prog.elem 43)).run Tryd.prog w = .ok 2 w := by kernel_rfl
  rw [hs]
  simp [Addr.add]
  try (intro h; omega)
/-- A slice of points that is read: it may begin anywhere in its block. -/
structure SSl (w : World) (ad : Option Addr) (b o cap : Nat) (l : List Sp) : Prop where
  row : ∀ i, i < l.length → (w.cell? ⟨b, o + i * 2, none⟩ = some (.int .i64 (sx l i).1) ∧ w.cell? ⟨b, o + i * 2 + 1, none⟩ = some (.int .i64 (sx l i).2)) ∧ b < w.heap.size
  ix : ∀ k : Nat, k < l.length → ∀ w, (Instr.indexAt 43 (.slice ad l.length cap) (.int .i64 k)).run Tryd.prog w = .ok (.pointer (some ⟨b, o + k * 2, none⟩)) w
theorem SSl.below {W w' : World} {ad : Option Addr} {b o cap : Nat} {l : List Sp} (h : SSl W ad b o cap l) (hB : Below W.heap.size W w') : SSl w' ad b o cap l :=
  ⟨fun i hi => by
    obtain ⟨⟨h1, h2⟩, h3⟩ := h.row i hi
    exact ⟨⟨(hB.cell (p := ⟨b, o + i * 2, none⟩) h3).trans h1, (hB.cell (p := ⟨b, o + i * 2 + 1, none⟩) h3).trans h2⟩, Nat.lt_of_lt_of_le h3 hB.size⟩, h.ix⟩
theorem SSl.gr {W w' : World} {ad : Option Addr} {b o cap : Nat} {l : List Sp} (h : SSl W ad b o cap l) (hB : Gr W w') : SSl w' ad b o cap l := h.below hB.out
theorem SSl.nil (w : World) (ad : Option Addr) (b o cap : Nat) : SSl w ad b o cap [] := ⟨fun j hj => by simp at hj, fun j hj => by simp at hj⟩
theorem own_ssl {w : World} {base : Nat} {v : Value} {n : Nat} {l : List Sp} (h : w.ownsRow base 52 2 v n (sr l)) (hn : l.length = n) : ∃ ad b cap, v = .slice ad l.length cap ∧ SSl w ad b 0 cap l := by
  have hlt := h.lt
  subst hn
  obtain ⟨h1, h | ⟨g, cap, cur, hv, hb, hg, hc, hm, hs, ht⟩⟩ := h
  · obtain ⟨rfl, h0⟩ := h
    exact ⟨none, 0, 0, by rw [h0], fun j hj => by omega, fun j hj => by omega⟩
  · subst hv
    refine ⟨_, g, cap, rfl, fun j hj => ?_, fun j hj w => sindex g 0 _ cap j hj w⟩
    have key : ∀ i, (hi : i < 2) → w.cell? ⟨g, 0 + j * 2 + i, none⟩ = (sc (sx l j))[i]? := by
      intro i hi
      have e1 : (cur.toList.take (l.length * 2))[j * 2 + i]? = (sr l)[j * 2 + i]? := by rw [ht]
      rw [List.getElem?_take, if_pos (by omega), sr_at l j hj i hi] at e1
      simp [World.cell?, hg]
      simpa using e1
    exact ⟨⟨key 0 (by decide), key 1 (by decide)⟩, (hlt g rfl).2⟩
theorem SSl.new {W : World} {B n : Nat} {l : List Sp} (h : At W B (sr l)) (hn : l.length = n) : SSl W (some ⟨B, 0, none⟩) B 0 n l := by
  subst hn
  refine ⟨fun i hi => ?_, fun k hk w => sindex B 0 _ _ k hk w⟩
  have hl := sr_len l
  have key : ∀ j, (hj : j < 2) → W.cell? ⟨B, 0 + i * 2 + j, none⟩ = (sc (sx l i))[j]? := by
    intro j hj
    have e1 := sr_at l i hi j hj
    have e2 := (h.1 (i * 2 + j) (by omega)).1
    rw [show 0 + i * 2 + j = i * 2 + j by omega, e2, ← e1, List.getElem?_eq_getElem]
  exact ⟨⟨key 0 (by decide), key 1 (by decide)⟩, h.2⟩
/-- A list that steps: no point is too great, no two neighbours are the same. -/
def stk (l : List Sp) (k : Nat) : Prop := ∀ i, i < k → okS (sx l i) ∧ (0 < i → ¬ sx l i = sx l (i - 1))
instance (l : List Sp) (k : Nat) : Decidable (stk l k) := by unfold stk; exact inferInstance
theorem stk_next {l : List Sp} {k : Nat} (h : stk l k) (h1 : okS (sx l k)) (h2 : 0 < k → ¬ sx l k = sx l (k - 1)) : stk l (k + 1) := fun i hi => by
  rcases Nat.lt_succ_iff_lt_or_eq.1 hi with c | c
  · exact h i c
  · subst c; exact ⟨h1, h2⟩
/-- The error of a ring: its number. -/
def rgP (l : List Sp) : Prop := 3 ≤ l.length ∧ stk l l.length ∧ ¬ sx l 0 = sx l (l.length - 1)
instance (l : List Sp) : Decidable (rgP l) := by unfold rgP; exact inferInstance
def rcd (l : List Sp) : Nat := if 4000 < l.length then 2 else if rgP l then 0 else 3
set_option maxRecDepth 4000 in
set_option maxHeartbeats 4000000 in
theorem steps_any {ad : Option Addr} {b o cap : Nat} {l : List Sp} (ll : l.length ≤ 5000) (w : World) (h : SSl w ad b o cap l) : Calls Tryd.prog 42 #[.slice ad l.length cap] w fun e w' => e = .returned (.bool (decide (stk l l.length))) ∧ Gr w w' := by
  generalize hr : decide (stk l l.length) = r
  have HT : Hid (stk l l.length → r = true) := fun h => by rw [← hr]; exact decide_eq_true h
  have HF : Hid (¬ stk l l.length → r = false) := fun h => by rw [← hr]; exact decide_eq_false h
  have HR := hidb h
  have HN := hidb (show ∀ k, k < l.length → k < l.length ∧ l.length ≤ 5000 from fun k h => ⟨h, ll⟩)
  clear hr h
  obtain ⟨n, hn⟩ : ∃ n, n = l.length := ⟨_, rfl⟩
  have HX := hidb (fun k (hk : k < n) => HR.out.ix k (by rw [← hn]; exact hk))
  rw [← hn] at HX ll HT HF HN ⊢
  have HNn := hidb hn
  clear hn
  go_enter Tryd.func42, Tryd.ntmps42
  go_wp2
  go_loopw [7] (fun t wr => ∃ (k : Nat), k ≤ n ∧ t = .int .i64 (k : Int) ∧ Hid (stk l k) ∧ Hid (Gr w wr)) (fun t _ => n - (intOf t).toNat)
  case atStart => exact ⟨0, Nat.zero_le _, rfl, (by intro r hr; omega), Gr.refl _⟩
  case round =>
    obtain ⟨k, hk, rfl, HK, HG⟩ := hrel
    by_cases h1 : ¬ k < n
    · have h1' : ¬ (k : Int) < (n : Int) := by omega
      obtain rfl : k = n := by omega
      obtain rfl := HT.out HK.out
      clear h1
      go_wp2
      go_ret
      exact ⟨rfl, HG.out⟩
    · have h1' : (k : Int) < (n : Int) := by omega
      have hkn : k < n := by omega
      obtain ⟨⟨c0, c1⟩, cb⟩ := (HR.out.gr HG.out).row k (by rw [← HNn.out]; exact hkn)
      have ix := HX.out k hkn
      have e1 : IntKind.i64.wrap ((k : Int) + 1) = ((k + 1 : Nat) : Int) := by rw [show (k : Int) + 1 = ((k + 1 : Nat) : Int) by omega]; exact wr_in (by omega) (by omega)
      have HS := hidb (fun w => small_any (sx l k) w)
      have HKN := hidb hkn
      have HE1 := hidb e1
      have HNX := hidb (fun h2 h3 => stk_next HK.out h2 h3)
      have HBd : Hid (¬ okS (sx l k) ∨ (0 < k ∧ sx l k = sx l (k - 1)) → ¬ stk l n) := fun hd hs => by
        have := hs k HKN.out
        rcases hd with hd | hd
        · exact hd this.1
        · exact this.2 hd.1 hd.2
      have HPr : Hid (0 < k → (∀ W, Gr w W → W.cell? ⟨b, o + (k - 1) * 2, none⟩ = some (.int .i64 (sx l (k - 1)).1) ∧ W.cell? ⟨b, o + (k - 1) * 2 + 1, none⟩ = some (.int .i64 (sx l (k - 1)).2)) ∧ b < w.heap.size) := fun h0 => ⟨fun W hW => ((HR.out.gr hW).row (k - 1) (by rw [← HNn.out]; have := HKN.out; omega)).1, (HR.out.row (k - 1) (by rw [← HNn.out]; have := HKN.out; omega)).2⟩
      clear h1 hkn e1
      generalize hp : sx l k = p at *
      clear hp
      obtain ⟨x, y⟩ := p
      dsimp only at c0 c1
      have hspq := sp_eq
      go_upto_region 4 with fail
      have FA := At.new2 wr (.int .i64 x) (.int .i64 y) 52
      have HG2 := hidb (HG.out.alloc (.cells #[.int .i64 x, .int .i64 y] 52))
      generalize wr.alloc (.cells #[.int .i64 x, .int .i64 y] 52) = W1 at *
      go_cut [27] from 12 to 28 (fun s wx => s = .bool (decide (¬ okS (x, y) ∨ (0 < k ∧ (x, y) = sx l (k - 1)))) ∧ Gr w wx)
      case first =>
        obtain ⟨q0, q1⟩ := FA.c2
        by_cases d1 : okS (x, y)
        · rw [decide_eq_true d1] at HS
          obtain ⟨k0, rfl⟩ | rfl : (∃ k0, k = k0 + 1) ∨ k = 0 := by rcases k with _ | k0; exact .inr rfl; exact .inl ⟨k0, rfl⟩
          · have HQ := hidb (HPr.out (Nat.succ_pos _)).1
            have HD : Hid (decide (¬ okS (x, y) ∨ (0 < k0 + 1 ∧ (x, y) = sx l (k0 + 1 - 1))) = decide ((x, y) = sx l k0)) := by show _ = _; simp [d1]
            rw [Nat.add_sub_cancel] at HQ
            generalize hp : sx l k0 = p at *
            clear hp
            obtain ⟨u, v⟩ := p
            dsimp only at HQ
            have heq := sp_eq (x, y) (u, v)
            have ix0 := HX.out k0 (by have := HKN.out; omega)
            have e2 : IntKind.i64.wrap (((k0 + 1 : Nat) : Int) - 1) = (k0 : Int) := by rw [show ((k0 + 1 : Nat) : Int) - 1 = (k0 : Int) by omega]; exact wr_in (by omega) (by omega)
            have g1 : (0 : Int) < ((k0 + 1 : Nat) : Int) := by omega
            generalize ((k0 + 1 : Nat) : Int) = kI at *
            generalize decide ((x, y) = (u, v)) = bq at *
            have HC := HG2.out
            clear d1 c0 c1 cb q0 q1
            refine wp_region_held_drew (S := (fun w' => (w'.cell? ⟨wr.heap.size, 0, none⟩ = some (.int .i64 x) ∧ w'.cell? ⟨wr.heap.size, 1, none⟩ = some (.int .i64 y)) ∧ w'.cell? ⟨b, o + k0 * 2, none⟩ = some (.int .i64 u) ∧ w'.cell? ⟨b, o + k0 * 2 + 1, none⟩ = some (.int .i64 v))) (by kernel_rfl) ?_ (fun hHeld => ?_)
            · (try dsimp only); (first | (with_reducible exact ⟨FA.c2, HQ.out _ HC⟩) | exact ⟨FA.drew.c2, HQ.out _ HC.drew⟩)
            refine wt (i := 0) (v := ?vA0) rfl ?hA0 ?rA0
            case hA0 => (intro w hSw; (try dsimp only at hSw); go_simp; try with_reducible rfl)
            (try simp only [Act.put, lq1, lq2, lq4, lq5, lq6])
            refine wpAnyH_ready (rs := [1]) (by kernel_rfl) (by simp) ?_
            refine AllReadyH.cons rfl (fun K hK => ?_) AllReadyH.nil
            go_simp
            go_wp2_with (first | (go_at_call 61; refine (HS.out _).mono ?_; rintro e w1 ⟨rfl, hB⟩; replace hB := hB.out; (with_reducible first | replace hB := undr hB | skip); replace FA := At.below hB FA; replace HC := Gr.step HC hB; clear hB) | fail)
            refine hK.out _ _ ?_ (fun hHeld => ?_)
            · (try dsimp only); (first | (with_reducible exact ⟨FA.c2, HQ.out _ HC⟩) | exact ⟨FA.drew.c2, HQ.out _ HC.drew⟩)
            clear hK K
            refine wt (i := 2) (v := ?vA2) rfl ?hA2 ?rA2
            case hA2 => (intro w hSw; (try dsimp only at hSw); go_simp; try with_reducible rfl)
            (try simp only [Act.put, lq1, lq2, lq3, lq4, lq5, lq6])
            refine wt (i := 3) (v := ?vA3) rfl ?hA3 ?rA3
            case hA3 => (intro w hSw; (try dsimp only at hSw); go_simp; try with_reducible rfl)
            (try simp only [Act.put, lq1, lq2, lq3, lq4, lq5, lq6])
            refine wt (i := 4) (v := ?vA4) rfl ?hA4 ?rA4
            case hA4 => (intro w hSw; (try dsimp only at hSw); go_simp; try with_reducible rfl)
            (try simp only [Act.put, lq1, lq2, lq3, lq4, lq5, lq6])
            refine wt (i := 5) (v := ?vA5) rfl ?hA5 ?rA5
            case hA5 => (intro w hSw; (try dsimp only at hSw); go_simp; try with_reducible rfl)
            (try simp only [Act.put, lq1, lq2, lq3, lq4, lq5, lq6])
            refine wt (i := 6) (v := ?vA6) rfl ?hA6 ?rA6
            case hA6 => (intro w hSw; (try dsimp only at hSw); go_simp; try with_reducible rfl)
            (try simp only [Act.put, lq1, lq2, lq3, lq4, lq5, lq6])
            refine wt (i := 7) (v := ?vA7) rfl ?hA7 ?rA7
            case hA7 => (intro w hSw; (try dsimp only at hSw); go_simp; try with_reducible rfl)
            (try simp only [Act.put, lq1, lq2, lq3, lq4, lq5, lq6])
            refine wt (i := 8) (v := ?vA8) rfl ?hA8 ?rA8
            case hA8 => (intro w hSw; (try dsimp only at hSw); go_simp; try with_reducible rfl)
            (try simp only [Act.put, lq1, lq2, lq3, lq4, lq5, lq6])
            refine wt (i := 9) (v := ?vA9) rfl ?hA9 ?rA9
            case hA9 => (intro w hSw; (try dsimp only at hSw); go_simp; try with_reducible rfl)
            (try simp only [Act.put, lq1, lq2, lq3, lq4, lq5, lq6])
            refine wt (i := 10) (v := ?vA10) rfl ?hA10 ?rA10
            case hA10 => (intro w hSw; (try dsimp only at hSw); go_simp; try with_reducible rfl)
            (try simp only [Act.put, lq1, lq2, lq3, lq4, lq5, lq6])
            refine wt (i := 11) (v := ?vA11) rfl ?hA11 ?rA11
            case hA11 => (intro w hSw; (try dsimp only at hSw); go_simp; try with_reducible rfl)
            (try simp only [Act.put, lq1, lq2, lq3, lq4, lq5, lq6])
            refine wt (i := 12) (v := ?vA12) rfl ?hA12 ?rA12
            case hA12 => (intro w hSw; (try dsimp only at hSw); go_simp; try with_reducible rfl)
            (try simp only [Act.put, lq1, lq2, lq3, lq4, lq5, lq6])
            refine wt (i := 13) (v := ?vA13) rfl ?hA13 ?rA13
            case hA13 => (intro w hSw; (try dsimp only at hSw); go_simp; try with_reducible rfl)
            (try simp only [Act.put, lq1, lq2, lq3, lq4, lq5, lq6])
            refine wt (i := 14) (v := ?vA14) rfl ?hA14 ?rA14
            case hA14 => (intro w hSw; (try dsimp only at hSw); go_simp; try with_reducible rfl)
            (try simp only [Act.put, lq1, lq2, lq3, lq4, lq5, lq6])
            refine wt (i := 15) (v := ?vA15) rfl ?hA15 ?rA15
            case hA15 => (intro w hSw; (try dsimp only at hSw); go_simp; try with_reducible rfl)
            (try simp only [Act.put, lq1, lq2, lq3, lq4, lq5, lq6])
            refine wpAnyH_done (by kernel_rfl) ?_ _
            go_wp2
            go_meet
            exact ⟨by rw [HD.out], by ((with_reducible repeat' (first | assumption | refine Gr.drew ?_ | refine Gr.alloc ?_ _ | refine Gr.set ?_ (by first | omega | (simp; omega)) _ _ | exact Gr.refl _)); done)⟩
          · have HD : Hid (decide (¬ okS (x, y) ∨ (0 < 0 ∧ (x, y) = sx l (0 - 1))) = false) := by show _ = _; simp [d1]
            have HC := HG2.out
            clear d1 c0 c1 cb q0 q1
            refine wp_region_held_drew (S := (fun w' => (w'.cell? ⟨wr.heap.size, 0, none⟩ = some (.int .i64 x) ∧ w'.cell? ⟨wr.heap.size, 1, none⟩ = some (.int .i64 y)))) (by kernel_rfl) ?_ (fun hHeld => ?_)
            · (try dsimp only); (first | (with_reducible exact FA.c2) | exact FA.drew.c2)
            refine wt (i := 0) (v := ?vB0) rfl ?hB0 ?rB0
            case hB0 => (intro w hSw; (try dsimp only at hSw); go_simp; try with_reducible rfl)
            (try simp only [Act.put, lq1, lq2, lq4, lq5, lq6])
            refine wpAnyH_ready (rs := [1]) (by kernel_rfl) (by simp) ?_
            refine AllReadyH.cons rfl (fun K hK => ?_) AllReadyH.nil
            go_simp
            go_wp2_with (first | (go_at_call 61; refine (HS.out _).mono ?_; rintro e w1 ⟨rfl, hB⟩; replace hB := hB.out; (with_reducible first | replace hB := undr hB | skip); replace FA := At.below hB FA; replace HC := Gr.step HC hB; clear hB) | fail)
            refine hK.out _ _ ?_ (fun hHeld => ?_)
            · (try dsimp only); (first | (with_reducible exact FA.c2) | exact FA.drew.c2)
            clear hK K
            refine wt (i := 2) (v := ?vB2) rfl ?hB2 ?rB2
            case hB2 => (intro w hSw; (try dsimp only at hSw); go_simp; try with_reducible rfl)
            (try simp only [Act.put, lq1, lq2, lq3, lq4, lq5, lq6])
            refine wt (i := 3) (v := ?vB3) rfl ?hB3 ?rB3
            case hB3 => (intro w hSw; (try dsimp only at hSw); go_simp; try with_reducible rfl)
            (try simp only [Act.put, lq1, lq2, lq3, lq4, lq5, lq6])
            refine wt (i := 4) (v := ?vB4) rfl ?hB4 ?rB4
            case hB4 => (intro w hSw; (try dsimp only at hSw); go_simp; try with_reducible rfl)
            (try simp only [Act.put, lq1, lq2, lq3, lq4, lq5, lq6])
            refine wt (i := 5) (v := ?vB5) rfl ?hB5 ?rB5
            case hB5 => (intro w hSw; (try dsimp only at hSw); go_simp; try with_reducible rfl)
            (try simp only [Act.put, lq1, lq2, lq3, lq4, lq5, lq6])
            refine wt (i := 6) (v := ?vB6) rfl ?hB6 ?rB6
            case hB6 => (intro w hSw; (try dsimp only at hSw); go_simp; try with_reducible rfl)
            (try simp only [Act.put, lq1, lq2, lq3, lq4, lq5, lq6])
            refine wu (i := 7) rfl ?_
            (try simp only [Act.put, lq1, lq2, lq3, lq4, lq5, lq6])
            refine wu (i := 8) rfl ?_
            (try simp only [Act.put, lq1, lq2, lq3, lq4, lq5, lq6])
            refine wu (i := 9) rfl ?_
            (try simp only [Act.put, lq1, lq2, lq3, lq4, lq5, lq6])
            refine wu (i := 10) rfl ?_
            (try simp only [Act.put, lq1, lq2, lq3, lq4, lq5, lq6])
            refine wu (i := 11) rfl ?_
            (try simp only [Act.put, lq1, lq2, lq3, lq4, lq5, lq6])
            refine wu (i := 12) rfl ?_
            (try simp only [Act.put, lq1, lq2, lq3, lq4, lq5, lq6])
            refine wu (i := 13) rfl ?_
            (try simp only [Act.put, lq1, lq2, lq3, lq4, lq5, lq6])
            refine wt (i := 14) (v := ?vB14) rfl ?hB14 ?rB14
            case hB14 => (intro w hSw; (try dsimp only at hSw); go_simp; try with_reducible rfl)
            (try simp only [Act.put, lq1, lq2, lq3, lq4, lq5, lq6])
            refine wt (i := 15) (v := ?vB15) rfl ?hB15 ?rB15
            case hB15 => (intro w hSw; (try dsimp only at hSw); go_simp; try with_reducible rfl)
            (try simp only [Act.put, lq1, lq2, lq3, lq4, lq5, lq6])
            refine wpAnyH_done (by kernel_rfl) ?_ _
            go_wp2
            go_meet
            exact ⟨by rw [HD.out], by ((with_reducible repeat' (first | assumption | refine Gr.drew ?_ | refine Gr.alloc ?_ _ | refine Gr.set ?_ (by first | omega | (simp; omega)) _ _ | exact Gr.refl _)); done)⟩
        · rw [decide_eq_false d1] at HS
          have HD : Hid (decide (¬ okS (x, y) ∨ (0 < k ∧ (x, y) = sx l (k - 1))) = true) := decide_eq_true (.inl d1)
          have HC := HG2.out
          clear d1 c0 c1 cb q0 q1
          refine wp_region_held_drew (S := (fun w' => (w'.cell? ⟨wr.heap.size, 0, none⟩ = some (.int .i64 x) ∧ w'.cell? ⟨wr.heap.size, 1, none⟩ = some (.int .i64 y)))) (by kernel_rfl) ?_ (fun hHeld => ?_)
          · (try dsimp only); (first | (with_reducible exact FA.c2) | exact FA.drew.c2)
          refine wt (i := 0) (v := ?vC0) rfl ?hC0 ?rC0
          case hC0 => (intro w hSw; (try dsimp only at hSw); go_simp; try with_reducible rfl)
          (try simp only [Act.put, lq1, lq2, lq4, lq5, lq6])
          refine wpAnyH_ready (rs := [1]) (by kernel_rfl) (by simp) ?_
          refine AllReadyH.cons rfl (fun K hK => ?_) AllReadyH.nil
          go_simp
          go_wp2_with (first | (go_at_call 61; refine (HS.out _).mono ?_; rintro e w1 ⟨rfl, hB⟩; replace hB := hB.out; (with_reducible first | replace hB := undr hB | skip); replace FA := At.below hB FA; replace HC := Gr.step HC hB; clear hB) | fail)
          refine hK.out _ _ ?_ (fun hHeld => ?_)
          · (try dsimp only); (first | (with_reducible exact FA.c2) | exact FA.drew.c2)
          clear hK K
          refine wt (i := 2) (v := ?vC2) rfl ?hC2 ?rC2
          case hC2 => (intro w hSw; (try dsimp only at hSw); go_simp; try with_reducible rfl)
          (try simp only [Act.put, lq1, lq2, lq3, lq4, lq5, lq6])
          refine wt (i := 3) (v := ?vC3) rfl ?hC3 ?rC3
          case hC3 => (intro w hSw; (try dsimp only at hSw); go_simp; try with_reducible rfl)
          (try simp only [Act.put, lq1, lq2, lq3, lq4, lq5, lq6])
          refine wu (i := 4) rfl ?_
          (try simp only [Act.put, lq1, lq2, lq3, lq4, lq5, lq6])
          refine wu (i := 5) rfl ?_
          (try simp only [Act.put, lq1, lq2, lq3, lq4, lq5, lq6])
          refine wu (i := 6) rfl ?_
          (try simp only [Act.put, lq1, lq2, lq3, lq4, lq5, lq6])
          refine wu (i := 7) rfl ?_
          (try simp only [Act.put, lq1, lq2, lq3, lq4, lq5, lq6])
          refine wu (i := 8) rfl ?_
          (try simp only [Act.put, lq1, lq2, lq3, lq4, lq5, lq6])
          refine wu (i := 9) rfl ?_
          (try simp only [Act.put, lq1, lq2, lq3, lq4, lq5, lq6])
          refine wu (i := 10) rfl ?_
          (try simp only [Act.put, lq1, lq2, lq3, lq4, lq5, lq6])
          refine wu (i := 11) rfl ?_
          (try simp only [Act.put, lq1, lq2, lq3, lq4, lq5, lq6])
          refine wu (i := 12) rfl ?_
          (try simp only [Act.put, lq1, lq2, lq3, lq4, lq5, lq6])
          refine wu (i := 13) rfl ?_
          (try simp only [Act.put, lq1, lq2, lq3, lq4, lq5, lq6])
          refine wu (i := 14) rfl ?_
          (try simp only [Act.put, lq1, lq2, lq3, lq4, lq5, lq6])
          refine wt (i := 15) (v := ?vC15) rfl ?hC15 ?rC15
          case hC15 => (intro w hSw; (try dsimp only at hSw); go_simp; try with_reducible rfl)
          (try simp only [Act.put, lq1, lq2, lq3, lq4, lq5, lq6])
          refine wpAnyH_done (by kernel_rfl) ?_ _
          go_wp2
          go_meet
          exact ⟨by rw [HD.out], by ((with_reducible repeat' (first | assumption | refine Gr.drew ?_ | refine Gr.alloc ?_ _ | refine Gr.set ?_ (by first | omega | (simp; omega)) _ _ | exact Gr.refl _)); done)⟩
      case rest =>
        clear HS FA HPr c0 c1 cb
        obtain ⟨rfl, hG3⟩ := hcut
        have HG3 := hidb hG3
        by_cases d1 : okS (x, y)
        · by_cases d2 : 0 < k ∧ (x, y) = sx l (k - 1)
          · have hd : decide (¬ okS (x, y) ∨ (0 < k ∧ (x, y) = sx l (k - 1))) = true := decide_eq_true (.inr d2)
            rw [hd]
            obtain rfl := HF.out (HBd.out (.inr d2))
            clear hd d1 d2 hG3
            go_wp2
            go_ret
            exact ⟨rfl, HG3.out⟩
          · have hd : decide (¬ okS (x, y) ∨ (0 < k ∧ (x, y) = sx l (k - 1))) = false := decide_eq_false (fun h => h.elim (fun h => h d1) d2)
            rw [hd]
            have HK2 := hidb (HNX.out d1 (fun h0 e => d2 ⟨h0, e⟩))
            have e1 := HE1.out
            clear hd d1 d2 hG3
            go_wp2
            go_roundw
            case rel => exact ⟨k + 1, HKN.out, by go_num, HK2, HG3⟩
            case measure => have := HKN.out; simp [intOf]; omega
        · have hd : decide (¬ okS (x, y) ∨ (0 < k ∧ (x, y) = sx l (k - 1))) = true := decide_eq_true (.inl d1)
          rw [hd]
          obtain rfl := HF.out (HBd.out (.inl d1))
          clear hd d1 hG3
          go_wp2
          go_ret
          exact ⟨rfl, HG3.out⟩
end Go.Proofs.YtnadgoomkaldkaaDoor
