/-
  Nine numbers in a block: fix.added.
-/
import Derived.Test.YtehkonddgiakaaaDoorQFxI
namespace Go.Proofs.YtehkonddgiakaaaDoor
open Go.RowKit
attribute [local go_sem ↓] Go.wp_at_zero Go.wp_at_succ

/-- Pairs of a sign and a size, as cells. -/
def pc (ps : List (Bool × Value)) : List Value := ps.flatMap fun p => [.bool p.1, p.2]
theorem pc_len (ps : List (Bool × Value)) : (pc ps).length = ps.length * 2 := by
  induction ps with
  | nil => rfl
  | cons p ps ih => simp [pc] at ih ⊢; omega
theorem pc_get : ∀ (ps : List (Bool × Value)) (k : Nat) (hk : k < ps.length), (pc ps)[k * 2]? = some (.bool ps[k].1) ∧ (pc ps)[k * 2 + 1]? = some ps[k].2
  | p :: ps, 0, _ => ⟨rfl, rfl⟩
  | p :: ps, k + 1, hk => by
    have ih := pc_get ps k (by simp at hk; omega)
    rw [show (k + 1) * 2 = k * 2 + 2 by omega, show k * 2 + 2 + 1 = k * 2 + 1 + 2 by omega]
    exact ih
theorem pc_set : ∀ (ps : List (Bool × Value)) (k : Nat) (o : Bool) (v : Value), ((pc ps).set (k * 2) (.bool o)).set (k * 2 + 1) v = pc (ps.set k (o, v))
  | [], _, _, _ => rfl
  | p :: ps, 0, o, v => rfl
  | p :: ps, k + 1, o, v => by
    have ih := pc_set ps k o v
    rw [show (k + 1) * 2 = k * 2 + 2 by omega, show k * 2 + 2 + 1 = k * 2 + 1 + 2 by omega]
    show Value.bool p.1 :: p.2 :: (((pc ps).set (k * 2) (.bool o)).set (k * 2 + 1) v) = _
    rw [ih]; rfl
/-- A number's cells are in no block that begins with a sign. -/
theorem Pt.setB {w : World} {v : Value} {l : List Nat} {B : Nat} {m : Bool} (h : Pt w v l) (hA : w.cell? ⟨B, 0, none⟩ = some (.bool m)) (o : Nat) (y : Value) : Pt (w.setCell ⟨B, o, none⟩ y) v l := by
  rcases h with h | ⟨b, cap, h1, h2, h3, h4, h5⟩
  · exact .inl h
  · rcases Nat.eq_zero_or_pos l.length with c | c
    · refine .inr ⟨b, cap, h1, h2, h3, fun i hi => by omega, by simpa using h5⟩
    · have hne : ¬ B = b := by
        intro e
        subst e
        have c' := h4 0 c
        rw [hA] at c'; cases c'
      refine .inr ⟨b, cap, h1, h2, h3, fun i hi => ?_, by simpa using h5⟩
      have hne' : ¬ b = B := fun e => hne e.symm
      simp [go_sem, h4 i hi]
/-- Nine numbers in the block. -/
structure Mat (W : World) (S : Nat) (ps : List (Bool × Value)) (zs : List Int) : Prop where
  at_ : At W S (pc ps)
  pl : ps.length = 9
  zl : zs.length = 9
  nm : ∀ t (h : t < ps.length) (h' : t < zs.length), Nm W ps[t].1 ps[t].2 zs[t]
theorem Mat.below {W w' : World} {S : Nat} {ps : List (Bool × Value)} {zs : List Int} (hB : Below W.heap.size W w') (h : Mat W S ps zs) : Mat w' S ps zs := ⟨At.below hB h.at_, h.pl, h.zl, fun t a b => (h.nm t a b).below hB⟩
theorem Mat.alloc {W : World} {S : Nat} {ps : List (Bool × Value)} {zs : List Int} (h : Mat W S ps zs) (o : Obj) : Mat (W.alloc o) S ps zs := h.below ((Below.refl _ _).alloc (Nat.le_refl _) o)
theorem Mat.cell {W : World} {S : Nat} {ps : List (Bool × Value)} {zs : List Int} (h : Mat W S ps zs) {t : Nat} (ht : t < ps.length) : (W.cell? ⟨S, t * 2, none⟩ = some (.bool ps[t].1) ∧ W.cell? ⟨S, t * 2 + 1, none⟩ = some ps[t].2) ∧ W.frozen? ⟨S, t * 2, none⟩ = false ∧ W.frozen? ⟨S, t * 2 + 1, none⟩ = false := by
  have hl := pc_len ps
  obtain ⟨g1, g2⟩ := pc_get ps t ht
  obtain ⟨e1, e2⟩ := List.getElem?_eq_some_iff.1 g1
  obtain ⟨e3, e4⟩ := List.getElem?_eq_some_iff.1 g2
  have a1 := h.at_.1 (t * 2) e1
  have a2 := h.at_.1 (t * 2 + 1) e3
  rw [e2] at a1
  rw [e4] at a2
  exact ⟨⟨a1.1, a2.1⟩, a1.2, a2.2⟩
theorem Mat.put {W : World} {S : Nat} {ps : List (Bool × Value)} {zs : List Int} (h : Mat W S ps zs) (t : Nat) (o : Bool) (v : Value) (z : Int) (hn : Nm W o v z) : Mat ((W.setCell ⟨S, t * 2, none⟩ (.bool o)).setCell ⟨S, t * 2 + 1, none⟩ v) S (ps.set t (o, v)) (zs.set t z) := by
  have h0 : ∃ m, W.cell? ⟨S, 0, none⟩ = some (.bool m) := by
    have h9 : 0 < ps.length := by rw [h.pl]; decide
    exact ⟨_, (h.cell h9).1.1⟩
  have h1 : ∃ m, (W.setCell ⟨S, t * 2, none⟩ (.bool o)).cell? ⟨S, 0, none⟩ = some (.bool m) := by
    obtain ⟨m, hm⟩ := h0
    by_cases c : t * 2 = 0
    · exact ⟨o, by simp [go_sem, hm, c]⟩
    · exact ⟨m, by simp [go_sem, hm]⟩
  obtain ⟨m0, h0⟩ := h0
  obtain ⟨m1, h1⟩ := h1
  have keep : ∀ {b : Bool} {u : Value} {y : Int}, Nm W b u y → Nm ((W.setCell ⟨S, t * 2, none⟩ (.bool o)).setCell ⟨S, t * 2 + 1, none⟩ v) b u y := fun hy => ⟨(hy.1.setB h0 _ _).setB h1 _ _, hy.2⟩
  refine ⟨?_, by simpa using h.pl, by simpa using h.zl, fun s a b => ?_⟩
  · have := (h.at_.put (t * 2) (.bool o)).put (t * 2 + 1) v
    rwa [pc_set] at this
  · have hs : s < ps.length := by simpa using a
    have hs' : s < zs.length := by simpa using b
    by_cases c : t = s
    · subst c
      simp only [List.getElem_set_self]
      exact keep hn
    · simp only [List.getElem_set_ne c]
      exact keep (h.nm s hs hs')
/-- A part of an equation. -/
def cp (e : Rg) (i : Nat) : Int := if i = 0 then e.x else if i = 1 then e.y else e.q
/-- The sums of products. -/
def sm (l : List Rg) (i j : Nat) : Int := (l.map fun e => cp e i * cp e j).sum
def sms (l : List Rg) : List Int := (List.range 9).map fun t => sm l (t / 3) (t % 3)
/-- The first n of the nine are brought up to date. -/
def upd (l : List Rg) (e : Rg) (n : Nat) : List Int := (List.range 9).map fun t => if t < n then sm l (t / 3) (t % 3) + cp e (t / 3) * cp e (t % 3) else sm l (t / 3) (t % 3)
theorem sm_snoc (l : List Rg) (e : Rg) (i j : Nat) : sm (l ++ [e]) i j = sm l i j + cp e i * cp e j := by simp [sm]
theorem upd_zero (l : List Rg) (e : Rg) : upd l e 0 = sms l := by simp [upd, sms]
theorem upd_nine (l : List Rg) (e : Rg) : upd l e 9 = sms (l ++ [e]) := by
  unfold upd sms
  refine List.map_congr_left fun t ht => ?_
  rw [List.mem_range] at ht
  rw [if_pos ht, sm_snoc]
theorem upd_len (l : List Rg) (e : Rg) (n : Nat) : (upd l e n).length = 9 := by simp [upd]
theorem upd_step (l : List Rg) (e : Rg) {n : Nat} (_hn : n < 9) : (upd l e n).set n (sm l (n / 3) (n % 3) + cp e (n / 3) * cp e (n % 3)) = upd l e (n + 1) := by
  refine List.ext_getElem (by simp [upd]) fun t h1 h2 => ?_
  have ht : t < 9 := by simpa [upd] using h2
  by_cases c : n = t
  · subst c
    rw [List.getElem_set_self]
    simp [upd]
  · rw [List.getElem_set_ne c]
    simp only [upd, List.getElem_map, List.getElem_range]
    by_cases d : t < n
    · rw [if_pos d, if_pos (by omega)]
    · rw [if_neg d, if_neg (by omega)]
theorem upd_at (l : List Rg) (e : Rg) {n : Nat} (_hn : n < 9) (h : n < (upd l e n).length) : (upd l e n)[n] = sm l (n / 3) (n % 3) := by simp [upd]
theorem ixA (S : Nat) (i : Nat) (hi : i < 3) (w : World) : (Instr.indexAt 71 (.pointer (some ⟨S, 0, none⟩)) (.int .i64 (i : Int))).run Tryd.prog w = .ok (.pointer (some ⟨S, i * 6, none⟩)) w := by
  have hu : Tryd.prog.underlying 71 = some (.array (Tryd.prog.arrayLen 71) (Tryd.prog.elem 71)) := by kernel_rfl
  have hl : Tryd.prog.arrayLen 71 = 3 := by kernel_rfl
  have hs : (sizeOf (Tryd.prog.elem 71)).run Tryd.prog w = .ok 6 w := by kernel_rfl
  rw [run_indexAt_array w 71 ⟨S, 0, none⟩ .i64 (i : Int) hu, hl, if_pos ⟨by omega, by omega⟩, hs]
  match i, hi with
  | 0, _ => rfl
  | 1, _ => rfl
  | 2, _ => rfl
theorem ixB (S o : Nat) (j : Nat) (hj : j < 3) (w : World) : (Instr.indexAt 69 (.pointer (some ⟨S, o, none⟩)) (.int .i64 (j : Int))).run Tryd.prog w = .ok (.pointer (some ⟨S, o + j * 2, none⟩)) w := by
  have hu : Tryd.prog.underlying 69 = some (.array (Tryd.prog.arrayLen 69) (Tryd.prog.elem 69)) := by kernel_rfl
  have hl : Tryd.prog.arrayLen 69 = 3 := by kernel_rfl
  have hs : (sizeOf (Tryd.prog.elem 69)).run Tryd.prog w = .ok 2 w := by kernel_rfl
  rw [run_indexAt_array w 69 ⟨S, o, none⟩ .i64 (j : Int) hu, hl, if_pos ⟨by omega, by omega⟩, hs]
  simp [Result.andThen, Addr.add]
theorem ixV (e : Rg) (i : Nat) (hi : i < 3) (w : World) : (Instr.index 96 e.v (.int .i64 (i : Int))).run Tryd.prog w = .ok (.int .i64 (cp e i)) w := by
  match i, hi with
  | 0, _ => simp [Instr.index, asIntOf, go_sem, cp]
  | 1, _ => simp [Instr.index, asIntOf, go_sem, cp]
  | 2, _ => simp [Instr.index, asIntOf, go_sem, cp]
theorem eindex (b n cap k : Nat) (hk : k < n) (w : World) : (Instr.indexAt 73 (.slice (some ⟨b, 0, none⟩) n cap) (.int .i64 k)).run Tryd.prog w = .ok (.pointer (some ⟨b, k * 3, none⟩)) w := by
  have hu : Tryd.prog.underlying 73 = some (.slice (Tryd.prog.elem 73)) := by kernel_rfl
  refine (run_indexAt_slice (P := Tryd.prog) (w := w) 73 ⟨b, 0, none⟩ n cap .i64 (k : Int) hu).trans ?_
  rw [if_pos ⟨by omega, by omega⟩]
  have hs : (sizeOf (Tryd.prog.elem 73)).run Tryd.prog w = .ok 3 w := by kernel_rfl
  rw [hs]
  simp [Addr.add]
  intro h; omega
theorem own_esl {w : World} {base e : Nat} {v : Value} {n : Nat} {l : List Rg} (h : w.ownsRow base e 3 v n (rc l)) : ∃ ad b cap, v = .slice ad l.length cap ∧ RSl 73 w ad b cap l := by
  obtain ⟨_, ⟨rfl, rfl⟩ | ⟨b, cap, rfl, hr, _⟩⟩ := own_rr h
  · exact ⟨none, 0, 0, rfl, .inr rfl, fun k hk => by simp at hk⟩
  · exact ⟨_, b, cap, rfl, .inl hr, fun k hk w => eindex b _ cap k hk w⟩
/-- Equations of ranges are small. -/
def Sme (e : Rg) : Prop := e.x.natAbs < 2 ^ 54 ∧ e.y.natAbs < 2 ^ 54 ∧ e.q.natAbs < 2 ^ 54
theorem cp_bd {e : Rg} (h : Sme e) (i : Nat) : (cp e i).natAbs < 2 ^ 54 := by
  unfold cp
  split
  · exact h.1
  · split
    · exact h.2.1
    · exact h.2.2
theorem sm_bd {l : List Rg} (h : ∀ e ∈ l, Sme e) (i j : Nat) : (sm l i j).natAbs ≤ l.length * 2 ^ 108 := by
  induction l with
  | nil => simp [sm]
  | cons e l ih =>
    have h1 := ih (fun x hx => h x (List.mem_cons_of_mem _ hx))
    have h2 := bw_mul (cp_bd (h e (List.mem_cons_self ..)) i) (cp_bd (h e (List.mem_cons_self ..)) j)
    have e1 : sm (e :: l) i j = cp e i * cp e j + sm l i j := by simp [sm]
    rw [e1, List.length_cons, Nat.add_mul, Nat.one_mul]
    generalize sm l i j = s at *
    generalize cp e i * cp e j = c at *
    generalize l.length * 2 ^ 108 = L at *
    have h3 : c.natAbs < 2 ^ 108 := h2
    have := Int.natAbs_add_le c s
    omega
end Go.Proofs.YtehkonddgiakaaaDoor
