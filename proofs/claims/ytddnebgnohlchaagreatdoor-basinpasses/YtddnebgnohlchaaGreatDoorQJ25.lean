/-
  slices.Equal and mercatorlaw4.sameInts of any two lists; slices.ContainsFunc over lists.; slices.IndexFunc and ContainsFunc over lists, with the closure of basin.Depth.; basin.Depth.; BasinLakes: the lakes as the statement looks for them, one by one. No Go text.; BasinLakes: the ways in which little is looked at.
-/
import Derived.Test.YtddnebgnohlchaaGreatDoorQJ21
import Derived.Test.YtddnebgnohlchaaGreatDoorQJ1
import Derived.Test.YtddnebgnohlchaaGreatDoorQJ24
import Derived.Lib.MinMax
import Derived.Test.YtddnebgnohlchaaGreatDoorQJ17
namespace Go.Proofs.YtddnebgnohlchaaGreatDoor
open Go.RowKit
attribute [local go_sem ↓] Go.wp_at_zero Go.wp_at_succ

set_option maxRecDepth 4000 in
set_option maxHeartbeats 4000000 in
theorem sameInts_dec {ad ad' : Option Addr} {b b' o o' cap cap' : Nat} {l l' : List Int} (hn : l.length ≤ 20000) (hn' : l'.length ≤ 20000) (w : World) (h : ISl w ad b o cap l) (h' : ISl w ad' b' o' cap' l') : Calls Tryz.prog 15 #[.slice ad l.length cap, .slice ad' l'.length cap'] w fun e w' => e = .returned (.bool (decide (l = l'))) ∧ Gr w w' := by
  obtain ⟨bb, hbb⟩ : ∃ bb, bb = decide (l = l') := ⟨_, rfl⟩
  rw [← hbb]
  have HBB := hidb hbb
  clear hbb
  have HA := hidb h
  have HB := hidb h'
  clear h h'
  obtain ⟨p, hp⟩ : ∃ p, p = l.length := ⟨_, rfl⟩
  obtain ⟨p', hp'⟩ : ∃ p, p = l'.length := ⟨_, rfl⟩
  have HI : Hid (∀ k : Nat, k < p → ∀ w, (Instr.indexAt 30 (.slice ad p cap) (.int .i64 k)).run Tryz.prog w = .ok (.pointer (some ⟨b, o + k, none⟩)) w) := by rw [hp]; exact HA.out.ix
  have HI' : Hid (∀ k : Nat, k < p' → ∀ w, (Instr.indexAt 30 (.slice ad' p' cap') (.int .i64 k)).run Tryz.prog w = .ok (.pointer (some ⟨b', o' + k, none⟩)) w) := by rw [hp']; exact HB.out.ix
  rw [← hp] at hn ⊢
  rw [← hp'] at hn' ⊢
  have HP := hidb hp
  have HP' := hidb hp'
  clear hp hp'
  by_cases hl : p = p'
  · subst hl
    go_enter Tryz.func15, Tryz.ntmps15
    go_wp2
    go_loopw [5] (fun t wr => ∃ (k : Nat), k ≤ p ∧ t = .int .i64 k ∧ Gr w wr ∧ Hid (l.take k = l'.take k)) (fun t _ => p - (intOf t).toNat)
    case atStart => exact ⟨0, by omega, rfl, Gr.refl _, hidb rfl⟩
    case round =>
      obtain ⟨k, hk, rfl, hB, HT⟩ := hrel
      by_cases h1 : k < p
      · have h1a : k < l.length := by rw [← HP.out]; exact h1
        have h1b : k < l'.length := by rw [← HP'.out]; exact h1
        have ca := (HA.out.below hB.out).cell h1a
        have ca' := (HB.out.below hB.out).cell h1b
        have ixa := HI.out k h1
        have ixa' := HI'.out k h1
        have h1' : (k : Int) < (p : Int) := by omega
        have e5 : IntKind.i64.wrap ((k : Int) + 1) = ((k + 1 : Nat) : Int) := by simp [IntKind.wrap, IntKind.signed, IntKind.bits]; omega
        obtain ⟨x, hx⟩ : ∃ x, x = l[k] := ⟨_, rfl⟩
        obtain ⟨y, hy⟩ : ∃ y, y = l'[k] := ⟨_, rfl⟩
        rw [← hx] at ca
        rw [← hy] at ca'
        by_cases hxy : x = y
        · have HT2 : Hid (l.take (k + 1) = l'.take (k + 1)) := by
            show _ = _
            rw [List.take_succ_eq_append_getElem h1a, List.take_succ_eq_append_getElem h1b, HT.out, ← hx, ← hy, hxy]
          clear hx hy
          subst hxy
          go_upto_region 6 with fail
          go_quiet (fail)
          go_wp2
          go_roundw
          case rel => exact ⟨k + 1, by omega, rfl, by first | exact hB.drew | exact (Gr.drewN (w := w) hB _) | exact hB, HT2⟩
          case measure => simp [intOf]; omega
        · have HF : Hid (bb = false) := by
            show _ = _
            rw [HBB.out]
            refine decide_eq_false fun e => hxy ?_
            subst e
            rw [hx, hy]
          have hxy' : (x == y) = false := by simp [hxy]
          clear hx hy
          go_upto_region 6 with fail
          go_quiet (fail)
          go_wp2
          go_ret
          exact ⟨by have h := HF.out; subst h; rfl, by first | exact hB.drew | exact (Gr.drewN (w := w) hB _) | exact hB⟩
      · have h1' : ¬ (k : Int) < (p : Int) := by omega
        have HF : Hid (bb = true) := by
          show _ = _
          rw [HBB.out]
          have hkp : k = p := by omega
          have e1 := HT.out
          rw [hkp, HP.out, List.take_length] at e1
          rw [← HP.out, HP'.out, List.take_length] at e1
          exact decide_eq_true e1
        clear h1
        go_wp2
        go_ret
        exact ⟨by have h := HF.out; subst h; rfl, hB⟩
  · have HF : Hid (bb = false) := by
      show _ = _
      rw [HBB.out]
      exact decide_eq_false fun e => hl (by rw [HP.out, HP'.out, e])
    have hl' : ¬ (p : Int) = (p' : Int) := by omega
    have hl2 : ((p : Int) == (p' : Int)) = false := by simp only [beq_eq_false_iff_ne, ne_eq]; exact hl'
    clear hl
    go_enter Tryz.func15, Tryz.ntmps15
    go_wp2
    go_ret
    exact ⟨by have h := HF.out; subst h; rfl, Gr.refl _⟩
end Go.Proofs.YtddnebgnohlchaaGreatDoor
namespace Go.Proofs.YtddnebgnohlchaaGreatDoor
open Go.RowKit
attribute [local go_sem ↓] Go.wp_at_zero Go.wp_at_succ

theorem RR.shape {W : World} {base : Nat} {v : Value} {vs : List Value} {Ls : List (List Int)} (h : RR W base v vs Ls) : ∃ ad g cap, v = .slice ad vs.length cap ∧ (∀ k : Nat, k < vs.length → ∀ w, (Instr.indexAt 33 (.slice ad vs.length cap) (.int .i64 k)).run Tryz.prog w = .ok (.pointer (some ⟨g, k, none⟩)) w) ∧ ∀ k : Nat, k < vs.length → g < W.heap.size ∧ W.cell? ⟨g, k, none⟩ = some (vx vs k) := by
  have ho := h.o
  have hlt := ho.lt
  obtain ⟨h1, h2 | ⟨g, cap, cur, hv, -⟩⟩ := ho
  · obtain ⟨rfl, h0⟩ := h2
    exact ⟨none, 0, 0, by rw [h0], fun k hk => by omega, fun k hk => by omega⟩
  · exact ⟨some ⟨g, 0, none⟩, g, cap, hv, fun k hk w => sindex g _ cap k hk w, fun k hk => ⟨(hlt g (by rw [hv]; rfl)).2, (h.cell hv hk).1⟩⟩
end Go.Proofs.YtddnebgnohlchaaGreatDoor
namespace Go.Proofs.YtddnebgnohlchaaGreatDoor
open Go.RowKit
attribute [local go_sem ↓] Go.wp_at_zero Go.wp_at_succ

/-- The lakes of a raster, cell by cell. -/
abbrev lkL (m n : Nat) (l : List Int) : List (List Int) := lsK (lak m n l) (wts m n l l.length) (wts m n l l.length).length
/-- The deepest and all of what lies on the first k of some cells. -/
def dpX (m n : Nat) (l lk : List Int) (k : Nat) : Int := (lk.take k).foldl (fun a c => max a (gl (dpK m n l l.length) c.toNat)) 0
def dpT (m n : Nat) (l lk : List Int) (k : Nat) : Int := (lk.take k).foldl (fun a c => a + gl (dpK m n l l.length) c.toNat) 0
theorem dpX_succ {m n : Nat} {l lk : List Int} {k : Nat} (h : k < lk.length) : dpX m n l lk (k + 1) = max (dpX m n l lk k) (gl (dpK m n l l.length) lk[k].toNat) := by unfold dpX; rw [List.take_succ_eq_append_getElem h, List.foldl_append]; rfl
theorem dpT_succ {m n : Nat} {l lk : List Int} {k : Nat} (h : k < lk.length) : dpT m n l lk (k + 1) = dpT m n l lk k + gl (dpK m n l l.length) lk[k].toNat := by unfold dpT; rw [List.take_succ_eq_append_getElem h, List.foldl_append]; rfl
theorem dpK_bd {m n : Nat} {l : List Int} (ok : Ok l m n) {i : Nat} (hi : i < l.length) : 0 ≤ gl (dpK m n l l.length) i ∧ gl (dpK m n l l.length) i ≤ 2097152 := by
  rw [dpK_all hi]
  have h1 := ok.hi i
  unfold hiI at h1
  have h2 := fih_ge m n l ok.m1 ok.len hi
  obtain ⟨j, hj, rfl⟩ := oc_all m n l ok.m1 ok.len hi
  have h3 := fih_up ok j hj
  omega
theorem lkL_in {m n : Nat} {l lk : List Int} (h : lk ∈ lkL m n l) : lk.length ≤ l.length ∧ ∀ x ∈ lk, ∃ c : Nat, x = (c : Int) ∧ c < l.length := by
  unfold lkL lsK at h
  rw [List.mem_map] at h
  obtain ⟨r, -, rfl⟩ := h
  unfold grK on
  constructor
  · rw [List.length_map]
    have h1 := List.length_filter_le (fun x => decide (lak m n l x = r)) ((wts m n l l.length).take (wts m n l l.length).length)
    have h2 := wts_len (m := m) (n := n) (l := l) l.length
    rw [List.length_take] at h1
    omega
  · intro x hx
    rw [List.mem_map] at hx
    obtain ⟨c, hc, rfl⟩ := hx
    exact ⟨c, rfl, (wts_mem.1 (List.mem_of_mem_take ((List.mem_filter.1 hc).1))).1⟩
theorem lkL_len (m n : Nat) (l : List Int) : (lkL m n l).length ≤ l.length := by
  unfold lkL
  rw [lsK_len]
  unfold rsK
  have h1 := List.length_filter_le (fun x => decide (lak m n l x = x)) ((wts m n l l.length).take (wts m n l l.length).length)
  have h2 := wts_len (m := m) (n := n) (l := l) l.length
  rw [List.length_take] at h1
  omega
theorem lkL_lx (m n : Nat) (l : List Int) (j : Nat) : (lx (lkL m n l) j).length ≤ l.length := by
  by_cases h : j < (lkL m n l).length
  · rw [← lx_get h]; exact (lkL_in (List.getElem_mem h)).1
  · unfold lx; rw [List.getD_eq_getElem?_getD, List.getElem?_eq_none (by omega)]; simp
theorem dpXT_bd {m n : Nat} {l lk : List Int} (ok : Ok l m n) (h : ∀ x ∈ lk, ∃ c : Nat, x = (c : Int) ∧ c < l.length) : ∀ k, k ≤ lk.length → (0 ≤ dpX m n l lk k ∧ dpX m n l lk k ≤ 2097152) ∧ 0 ≤ dpT m n l lk k ∧ dpT m n l lk k ≤ 2097152 * k := by
  intro k
  induction k with
  | zero => intro _; unfold dpX dpT; simp
  | succ k ih =>
    intro hk
    have h1 : k < lk.length := by omega
    obtain ⟨c, hc, hcl⟩ := h _ (List.getElem_mem h1)
    have h2 := dpK_bd ok hcl
    rw [dpX_succ h1, dpT_succ h1, hc, Int.toNat_natCast]
    have := ih (by omega)
    omega
/-- The two boxes of Depth. -/
structure DE (w W : World) (B : Nat) (t u : List Value) : Prop where
  t : At W B t
  u : At W (B + 1) u
  gr : Gr w W
theorem DE.below {w W w' : World} {B : Nat} {t u : List Value} (h : DE w W B t u) (hB : Below W.heap.size W w') : DE w w' B t u := ⟨At.below hB h.t, At.below hB h.u, Gr.step h.gr hB⟩
theorem DE.new (w : World) (a b c u : Value) (t t' : Nat) : DE w ((w.alloc (.cells #[a, b, c] t)).alloc (.cells #[u] t')) w.heap.size [a, b, c] [u] := ⟨(At.new3 w a b c t).alloc _, At.nx1 _ u t', ((Gr.refl w).alloc _).alloc _⟩
end Go.Proofs.YtddnebgnohlchaaGreatDoor
namespace Go.Proofs.YtddnebgnohlchaaGreatDoor
open Go.RowKit

section
variable (m n : Nat) (l : List Int)
/-- The first ones of the lakes below i; the cells below j of a lake. -/
def fsL (i : Nat) : List Nat := (wts m n l i).filter (fun x => decide (lak m n l x = x))
def wnL (r j : Nat) : List Nat := (wts m n l j).filter (fun x => decide (lak m n l x = r))
theorem fsL_succ (i : Nat) : fsL m n l (i + 1) = fsL m n l i ++ if wetP m n l i ∧ lak m n l i = i then [i] else [] := by
  unfold fsL
  rw [wts_succ, List.filter_append]
  by_cases c : wetP m n l i
  · by_cases d : lak m n l i = i
    · simp [c, d]
    · simp [c, d]
  · simp [c]
theorem wnL_succ (r j : Nat) : wnL m n l r (j + 1) = wnL m n l r j ++ if wetP m n l j ∧ lak m n l j = r then [j] else [] := by
  unfold wnL
  rw [wts_succ, List.filter_append]
  by_cases c : wetP m n l j
  · by_cases d : lak m n l j = r
    · simp [c, d]
    · simp [c, d]
  · simp [c]
theorem fsL_pre (i : Nat) : ∀ d, fsL m n l i <+: fsL m n l (i + d)
  | 0 => List.prefix_refl _
  | d + 1 => by
    rw [← Nat.add_assoc, fsL_succ]
    exact (fsL_pre i d).trans (List.prefix_append _ _)
theorem lkL_eq : lkL m n l = (fsL m n l l.length).map fun r => on (wnL m n l r l.length) := by
  unfold lkL lsK rsK grK fsL wnL
  rw [List.take_length]
theorem fsL_len (i : Nat) : (fsL m n l i).length ≤ i := Nat.le_trans (List.length_filter_le _ _) (wts_len m n l i)
theorem wnL_len (r j : Nat) : (wnL m n l r j).length ≤ j := Nat.le_trans (List.length_filter_le _ _) (wts_len m n l j)
variable {m n l}
theorem wnL_in {r j : Nat} (hj : j ≤ l.length) : ∀ x ∈ on (wnL m n l r j), ∃ c : Nat, x = (c : Int) ∧ c < l.length := by
  intro x hx
  unfold on at hx
  rw [List.mem_map] at hx
  obtain ⟨c, hc, rfl⟩ := hx
  exact ⟨c, rfl, by have := (wts_mem.1 ((List.mem_filter.1 hc).1)).1; omega⟩
theorem fsL_get {i : Nat} (hi : i < l.length) (h : wetP m n l i ∧ lak m n l i = i) : (fsL m n l i).length < (lkL m n l).length ∧ lx (lkL m n l) (fsL m n l i).length = on (wnL m n l i l.length) ∧ on (wnL m n l i l.length) ∈ lkL m n l ∧ (lkL m n l).take ((fsL m n l i).length + 1) = (lkL m n l).take (fsL m n l i).length ++ [on (wnL m n l i l.length)] := by
  have hp := fsL_pre m n l (i + 1) (l.length - (i + 1))
  rw [show i + 1 + (l.length - (i + 1)) = l.length by omega, fsL_succ, if_pos h] at hp
  obtain ⟨t, ht⟩ := hp
  have e : lkL m n l = ((fsL m n l i).map fun r => on (wnL m n l r l.length)) ++ on (wnL m n l i l.length) :: (t.map fun r => on (wnL m n l r l.length)) := by
    rw [lkL_eq, ← ht]
    simp
  have h1 : (fsL m n l i).length < (lkL m n l).length := by rw [e]; simp
  have h2 : (lkL m n l)[(fsL m n l i).length]'h1 = on (wnL m n l i l.length) := by
    simp only [e]
    rw [List.getElem_append_right (by simp)]
    simp
  refine ⟨h1, by rw [← lx_get h1]; exact h2, by rw [← h2]; exact List.getElem_mem h1, ?_⟩
  rw [List.take_succ_eq_append_getElem h1, h2]
theorem fsL_end : (fsL m n l l.length).length = (lkL m n l).length := by rw [lkL_eq]; simp
/-- The reference's names. -/
theorem name_iff (ok : Ok l m n) {L : List Int} (h : LI m n l L) (hs : ∀ i k, i < l.length → k < l.length → Stb m L i k) {k : Nat} (hk : k < l.length) (r : Nat) : gl L k = (r : Int) ↔ wetP m n l k ∧ lak m n l k = r := by
  by_cases c : wetP m n l k
  · rw [lak_eq ok h hs c]
    constructor
    · intro e; exact ⟨c, by omega⟩
    · rintro ⟨-, e⟩; omega
  · rw [h.dry k hk c]
    constructor
    · intro e; omega
    · rintro ⟨e, -⟩; exact absurd e c
variable (m n l)
/-- The deepest and all of some cells. -/
def dX (lk : List Int) : Int := dpX m n l lk lk.length
def dT (lk : List Int) : Int := dpT m n l lk lk.length
theorem dX_nil : dX m n l [] = 0 := rfl
theorem dT_nil : dT m n l [] = 0 := rfl
theorem dX_snoc (lk : List Int) (c : Nat) : dX m n l (lk ++ [(c : Int)]) = max (dX m n l lk) (gl (dpK m n l l.length) c) := by unfold dX dpX; rw [List.take_length, List.take_length, List.foldl_append]; rfl
theorem dT_snoc (lk : List Int) (c : Nat) : dT m n l (lk ++ [(c : Int)]) = dT m n l lk + gl (dpK m n l l.length) c := by unfold dT dpT; rw [List.take_length, List.take_length, List.foldl_append]; rfl
theorem dXT_bd (ok : Ok l m n) {r j : Nat} (hj : j ≤ l.length) : (0 ≤ dX m n l (on (wnL m n l r j)) ∧ dX m n l (on (wnL m n l r j)) ≤ 2097152) ∧ 0 ≤ dT m n l (on (wnL m n l r j)) ∧ dT m n l (on (wnL m n l r j)) ≤ 2097152 * 20000 := by
  have h := dpXT_bd ok (wnL_in (r := r) hj) (on (wnL m n l r j)).length (Nat.le_refl _)
  have h2 : (on (wnL m n l r j)).length ≤ 20000 := by
    have := wnL_len m n l r j
    have := ok.len_le
    unfold on
    rw [List.length_map]
    omega
  unfold dX dT
  omega
end
end Go.Proofs.YtddnebgnohlchaaGreatDoor
namespace Go.Proofs.YtddnebgnohlchaaGreatDoor
open Go.RowKit
attribute [local go_sem ↓] Go.wp_at_zero Go.wp_at_succ

/-- A list of whole numbers that the law is handed. -/
def IArg (w : World) (v : Value) : Prop := ∃ sd b o cap l, v = .slice sd (List.length l) cap ∧ ISl w sd b o cap l ∧ (¬ l.length = 0 → sd = some ⟨b, o, none⟩ ∧ Rs w b o cap l)
end Go.Proofs.YtddnebgnohlchaaGreatDoor
