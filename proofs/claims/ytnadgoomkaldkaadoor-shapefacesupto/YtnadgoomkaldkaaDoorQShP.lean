/-
  Rings turned around, begun elsewhere, moved: their areas, and where a point is. No Go text is named here.
-/
import Derived.Test.YtnadgoomkaldkaaDoorQShE
namespace Go.Proofs.YtnadgoomkaldkaaDoor
open Go.RowKit

theorem sum_perm {a b : List Int} (h : a.Perm b) : a.sum = b.sum := by
  induction h with
  | nil => rfl
  | cons x _ ih => simp [ih]
  | swap x y l => simp; omega
  | trans _ _ h1 h2 => exact h1.trans h2
theorem eg_map {l : List Sp} (h : 1 ≤ l.length) : eg l = (List.range l.length).map fun i => (sx l i, sx l ((i + 1) % l.length)) := by
  obtain ⟨m, hm⟩ : ∃ m, l.length = m + 1 := ⟨l.length - 1, by omega⟩
  unfold eg pk
  rw [hm, List.range_succ, List.map_append, Nat.add_sub_cancel]
  congr 1
  · refine List.map_congr_left fun i hi => ?_
    rw [List.mem_range] at hi
    rw [Nat.mod_eq_of_lt (by omega)]
  · simp
theorem rot_one {α : Type} (n : Nat) (f : Nat → α) : ((List.range n).map fun i => f ((i + 1) % n)).Perm ((List.range n).map f) := by
  cases n with
  | zero => simp
  | succ m =>
    have e1 : ((List.range (m + 1)).map fun i => f ((i + 1) % (m + 1))) = ((List.range m).map fun i => f (i + 1)) ++ [f 0] := by
      rw [List.range_succ, List.map_append]
      congr 1
      · refine List.map_congr_left fun i hi => ?_
        rw [List.mem_range] at hi
        rw [Nat.mod_eq_of_lt (by omega)]
      · simp
    have e2 : (List.range (m + 1)).map f = f 0 :: ((List.range m).map fun i => f (i + 1)) := by
      rw [List.range_succ_eq_map, List.map_cons, List.map_map]
      rfl
    rw [e1, e2]
    exact List.perm_append_singleton _ _
theorem rot_perm {α : Type} (n : Nat) : ∀ (k : Nat) (f : Nat → α), ((List.range n).map fun i => f ((i + k) % n)).Perm ((List.range n).map f)
  | 0, f => by
    have : ((List.range n).map fun i => f ((i + 0) % n)) = (List.range n).map f := by
      refine List.map_congr_left fun i hi => ?_
      rw [List.mem_range] at hi
      rw [Nat.add_zero, Nat.mod_eq_of_lt hi]
    rw [this]
  | k + 1, f => by
    have h1 := rot_one n (fun j => f ((j + k) % n))
    have e : ((List.range n).map fun i => f (((i + 1) % n + k) % n)) = (List.range n).map fun i => f ((i + (k + 1)) % n) := by
      refine List.map_congr_left fun i _ => ?_
      rw [Nat.mod_add_mod, show i + 1 + k = i + (k + 1) by omega]
    rw [e] at h1
    exact h1.trans (rot_perm n k f)
theorem sw_perm {a b : List Pc} (h : a.Perm b) : sw a = sw b := sum_perm (h.map cr)
/-- How many pieces lie to the east. -/
theorem sdP_cnt (L : List Pc) (s : Sp) : sdP L s = if L.countP (fun e => decide (esP e s)) % 2 = 1 then 1 else -1 := by
  have key : ∀ (L : List Pc) (z : Int), L.foldl (fun z e => if esP e s then -z else z) z = if L.countP (fun e => decide (esP e s)) % 2 = 1 then -z else z := by
    intro L
    induction L with
    | nil => intro z; simp
    | cons e L ih =>
      intro z
      rw [List.foldl_cons, ih, List.countP_cons]
      by_cases c : esP e s
      · simp only [c, if_true, decide_true]
        by_cases d : L.countP (fun e => decide (esP e s)) % 2 = 1
        · rw [if_pos d, if_neg (by omega)]; omega
        · rw [if_neg d, if_pos (by omega)]
      · simp [c]
  unfold sdP
  rw [key]
  simp
theorem whP_perm {a b : List Pc} (h : a.Perm b) (s : Sp) : whP a s = whP b s := by
  have e1 : (∃ e ∈ a, hsP e s) ↔ ∃ e ∈ b, hsP e s := ⟨fun ⟨e, he, k⟩ => ⟨e, h.mem_iff.1 he, k⟩, fun ⟨e, he, k⟩ => ⟨e, h.mem_iff.2 he, k⟩⟩
  have e2 : sdP a s = sdP b s := by rw [sdP_cnt, sdP_cnt, h.countP_eq]
  unfold whP
  by_cases c : ∃ e ∈ a, hsP e s
  · rw [if_pos c, if_pos (e1.1 c)]
  · rw [if_neg c, if_neg (fun k => c (e1.2 k)), e2]
/-- What changes pieces and a point, but not how they lie. -/
theorem whP_map {L : List Pc} {f : Pc → Pc} {s t : Sp} (h1 : ∀ e, hsP (f e) t ↔ hsP e s) (h2 : ∀ e, esP (f e) t ↔ esP e s) : whP (L.map f) t = whP L s := by
  have e1 : (∃ e ∈ L.map f, hsP e t) ↔ ∃ e ∈ L, hsP e s := by
    constructor
    · rintro ⟨e, he, k⟩
      obtain ⟨e', he', rfl⟩ := List.mem_map.1 he
      exact ⟨e', he', (h1 e').1 k⟩
    · rintro ⟨e, he, k⟩
      exact ⟨f e, List.mem_map.2 ⟨e, he, rfl⟩, (h1 e).2 k⟩
  have e2 : sdP (L.map f) t = sdP L s := by
    rw [sdP_cnt, sdP_cnt, List.countP_map]
    have : ((fun e => decide (esP e t)) ∘ f) = fun e => decide (esP e s) := by funext e; exact decide_eq_decide.2 (h2 e)
    rw [this]
  unfold whP
  by_cases c : ∃ e ∈ L, hsP e s
  · rw [if_pos c, if_pos (e1.2 c)]
  · rw [if_neg c, if_neg (fun k => c (e1.1 k)), e2]
/-- A piece the other way round. -/
def tnP (p : Pc) : Pc := (p.2, p.1)
theorem tn_turn (a b s : Sp) : tn b a s = - tn a b s := by unfold tn; grind
theorem hsP_turn (p : Pc) (s : Sp) : hsP (tnP p) s ↔ hsP p s := by
  unfold hsP tnP nrP
  dsimp only
  rw [tn_turn]
  constructor <;> rintro ⟨h1, h2⟩ <;> exact ⟨by omega, by omega⟩
theorem esP_turn (p : Pc) (s : Sp) : esP (tnP p) s ↔ esP p s := by
  by_cases c : p.2.2 < p.1.2
  · have e1 : lwE (tnP p) = lwE p := by unfold lwE tnP; dsimp only; rw [if_pos c, if_neg (by omega)]
    have e2 : upE (tnP p) = upE p := by unfold upE tnP; dsimp only; rw [if_pos c, if_neg (by omega)]
    unfold esP
    rw [e1, e2]
  · by_cases d : p.1.2 < p.2.2
    · have e1 : lwE (tnP p) = lwE p := by unfold lwE tnP; dsimp only; rw [if_neg c, if_pos d]
      have e2 : upE (tnP p) = upE p := by unfold upE tnP; dsimp only; rw [if_neg c, if_pos d]
      unfold esP
      rw [e1, e2]
    · have e1 : lwE p = p.1 := by unfold lwE; rw [if_neg c]
      have e2 : upE p = p.2 := by unfold upE; rw [if_neg c]
      have e3 : lwE (tnP p) = p.2 := by unfold lwE tnP; dsimp only; rw [if_neg d]
      have e4 : upE (tnP p) = p.1 := by unfold upE tnP; dsimp only; rw [if_neg d]
      unfold esP
      rw [e1, e2, e3, e4]
      constructor <;> rintro ⟨⟨h1, h2⟩, _⟩ <;> omega
theorem sw_turn : ∀ L : List Pc, sw (L.map tnP) = - sw L
  | [] => by simp [sw]
  | p :: L => by
    have ih := sw_turn L
    have e1 : sw (p :: L) = cr p + sw L := by simp [sw]
    have e2 : sw ((p :: L).map tnP) = cr (tnP p) + sw (L.map tnP) := by simp [sw]
    have e3 : cr (tnP p) = - cr p := by unfold cr tnP; dsimp only; grind
    rw [e1, e2, e3, ih]
    omega
/-- A point, a piece, moved. -/
def mv (d p : Sp) : Sp := (p.1 + d.1, p.2 + d.2)
def mvP (d : Sp) (p : Pc) : Pc := (mv d p.1, mv d p.2)
theorem tn_mv (d a b c : Sp) : tn (mv d a) (mv d b) (mv d c) = tn a b c := by unfold tn mv; dsimp only; grind
theorem hsP_mv (d : Sp) (p : Pc) (s : Sp) : hsP (mvP d p) (mv d s) ↔ hsP p s := by
  unfold hsP mvP
  dsimp only
  rw [tn_mv]
  unfold nrP mv
  dsimp only
  constructor <;> rintro ⟨h1, h2⟩ <;> exact ⟨h1, by omega⟩
theorem esP_mv (d : Sp) (p : Pc) (s : Sp) : esP (mvP d p) (mv d s) ↔ esP p s := by
  have e1 : lwE (mvP d p) = mv d (lwE p) := by
    unfold lwE mvP
    by_cases c : p.2.2 < p.1.2
    · rw [if_pos c, if_pos (by unfold mv; dsimp only; omega)]
    · rw [if_neg c, if_neg (by unfold mv; dsimp only; omega)]
  have e2 : upE (mvP d p) = mv d (upE p) := by
    unfold upE mvP
    by_cases c : p.2.2 < p.1.2
    · rw [if_pos c, if_pos (by unfold mv; dsimp only; omega)]
    · rw [if_neg c, if_neg (by unfold mv; dsimp only; omega)]
  unfold esP
  rw [e1, e2, tn_mv]
  unfold mv
  dsimp only
  constructor <;> rintro ⟨⟨h1, h2⟩, h3⟩ <;> exact ⟨⟨by omega, by omega⟩, h3⟩
theorem sw_mv (d : Sp) : ∀ L : List Pc, sw (L.map (mvP d)) = sw L + d.1 * ((L.map fun e => e.2.2).sum - (L.map fun e => e.1.2).sum) + d.2 * ((L.map fun e => e.1.1).sum - (L.map fun e => e.2.1).sum)
  | [] => by simp [sw]
  | p :: L => by
    have ih := sw_mv d L
    have e1 : sw (p :: L) = cr p + sw L := by simp [sw]
    have e2 : sw ((p :: L).map (mvP d)) = cr (mvP d p) + sw (L.map (mvP d)) := by simp [sw]
    have e3 : cr (mvP d p) = cr p + d.1 * (p.2.2 - p.1.2) + d.2 * (p.1.1 - p.2.1) := by unfold cr mvP mv; dsimp only; grind
    rw [e1, e2, e3, ih]
    simp only [List.map_cons, List.sum_cons]
    grind
/-- The edge that begins at the j-th point. -/
def ed (l : List Sp) (j : Nat) : Pc := (sx l j, sx l ((j + 1) % l.length))
theorem eg_ed {l : List Sp} (h : 1 ≤ l.length) : eg l = (List.range l.length).map (ed l) := eg_map h
theorem eg_flat {l : List Sp} (h : 1 ≤ l.length) (f : Sp → Int) : ((eg l).map fun e => f e.2).sum = ((eg l).map fun e => f e.1).sum := by
  rw [eg_ed h, List.map_map, List.map_map]
  exact sum_perm (rot_one l.length (fun j => f (sx l j)))
def rvL (l : List Sp) : List Sp := (List.range l.length).map fun i => sx l (l.length - 1 - i)
def mvL (d : Sp) (k : Nat) (l : List Sp) : List Sp := (List.range l.length).map fun i => mv d (sx l ((i + k) % l.length))
theorem rvL_len (l : List Sp) : (rvL l).length = l.length := by simp [rvL]
theorem mvL_len (d : Sp) (k : Nat) (l : List Sp) : (mvL d k l).length = l.length := by simp [mvL]
theorem rvL_at {l : List Sp} {i : Nat} (h : i < l.length) : sx (rvL l) i = sx l (l.length - 1 - i) := by
  have : i < (rvL l).length := by rw [rvL_len]; exact h
  rw [← sx_get this]; simp [rvL]
theorem mvL_at {d : Sp} {k : Nat} {l : List Sp} {i : Nat} (h : i < l.length) : sx (mvL d k l) i = mv d (sx l ((i + k) % l.length)) := by
  have : i < (mvL d k l).length := by rw [mvL_len]; exact h
  rw [← sx_get this]; simp [mvL]
theorem eg_rv {l : List Sp} (h : 1 ≤ l.length) : (eg (rvL l)).Perm ((eg l).map tnP) := by
  have hn : (rvL l).length = l.length := rvL_len l
  rw [eg_ed (by omega), eg_ed h, hn, List.map_map]
  have e : (List.range l.length).map (ed (rvL l)) = (List.range l.length).reverse.map fun i => tnP (ed l ((i + (l.length - 1)) % l.length)) := by
    apply List.ext_getElem
    · simp
    · intro i h1 h2
      have hi : i < l.length := by simpa using h1
      simp only [List.getElem_map, List.getElem_range, List.getElem_reverse, List.length_range]
      unfold ed tnP
      dsimp only
      rw [hn, rvL_at hi, rvL_at (Nat.mod_lt _ (by omega))]
      by_cases c : i + 1 = l.length
      · have a1 : l.length - 1 - i = 0 := by omega
        rw [a1, c, Nat.mod_self, Nat.zero_add, Nat.sub_zero, Nat.mod_eq_of_lt (show l.length - 1 < l.length by omega), show l.length - 1 + 1 = l.length by omega, Nat.mod_self]
      · have a1 : (i + 1) % l.length = i + 1 := Nat.mod_eq_of_lt (by omega)
        have a2 : (l.length - 1 - i + (l.length - 1)) % l.length = l.length - 1 - (i + 1) := by
          rw [show l.length - 1 - i + (l.length - 1) = (l.length - 1 - (i + 1)) + l.length by omega, Nat.add_mod_right]
          exact Nat.mod_eq_of_lt (by omega)
        rw [a1, a2, show l.length - 1 - (i + 1) + 1 = l.length - 1 - i by omega, Nat.mod_eq_of_lt (show l.length - 1 - i < l.length by omega)]
  rw [e]
  exact ((List.reverse_perm _).map _).trans (rot_perm l.length (l.length - 1) (fun j => tnP (ed l j)))
theorem eg_mv {l : List Sp} (h : 1 ≤ l.length) (d : Sp) (k : Nat) : (eg (mvL d k l)).Perm ((eg l).map (mvP d)) := by
  have hn : (mvL d k l).length = l.length := mvL_len d k l
  rw [eg_ed (by omega), eg_ed h, hn, List.map_map]
  have e : (List.range l.length).map (ed (mvL d k l)) = (List.range l.length).map fun i => mvP d (ed l ((i + k) % l.length)) := by
    refine List.map_congr_left fun i hi => ?_
    rw [List.mem_range] at hi
    unfold ed mvP
    dsimp only
    rw [hn, mvL_at hi, mvL_at (Nat.mod_lt _ (by omega)), Nat.mod_add_mod, Nat.mod_add_mod, show i + 1 + k = i + k + 1 by omega]
  rw [e]
  exact rot_perm l.length k (fun j => mvP d (ed l j))
theorem sw_rv {l : List Sp} (h : 1 ≤ l.length) : sw (eg (rvL l)) = - sw (eg l) := by rw [sw_perm (eg_rv h), sw_turn]
theorem sw_mvL {l : List Sp} (h : 1 ≤ l.length) (d : Sp) (k : Nat) : sw (eg (mvL d k l)) = sw (eg l) := by
  rw [sw_perm (eg_mv h d k), sw_mv, eg_flat h (fun p => p.2), eg_flat h (fun p => p.1)]
  simp
theorem wh_rv {l : List Sp} (h : 1 ≤ l.length) (s : Sp) : whP (eg (rvL l)) s = whP (eg l) s := by
  rw [whP_perm (eg_rv h), whP_map (fun e => hsP_turn e s) (fun e => esP_turn e s)]
theorem wh_mvL {l : List Sp} (h : 1 ≤ l.length) (d : Sp) (k : Nat) (s : Sp) : whP (eg (mvL d k l)) (mv d s) = whP (eg l) s := by
  rw [whP_perm (eg_mv h d k), whP_map (fun e => hsP_mv d e s) (fun e => esP_mv d e s)]
theorem rcd_rv {l : List Sp} (h : rcd l = 0) : rcd (rvL l) = 0 := by
  obtain ⟨h4, h3, hs, hne⟩ := rcd_ok h
  unfold rcd
  rw [if_neg (by rw [rvL_len]; omega), if_pos]
  refine ⟨by rw [rvL_len]; exact h3, fun i hi => ?_, ?_⟩
  · rw [rvL_len] at hi
    rw [rvL_at hi]
    refine ⟨(hs _ (by omega)).1, fun h0 => ?_⟩
    rw [rvL_at (by omega)]
    have := (hs (l.length - 1 - (i - 1)) (by omega)).2 (by omega)
    rw [show l.length - 1 - (i - 1) - 1 = l.length - 1 - i by omega] at this
    exact fun e => this e.symm
  · rw [rvL_len, rvL_at (by omega), rvL_at (by omega), Nat.sub_zero, Nat.sub_self]
    exact fun e => hne e.symm
end Go.Proofs.YtnadgoomkaldkaaDoor
