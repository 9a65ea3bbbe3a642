/-
  shape.counted: how often each point comes.
-/
import Derived.Test.YtnadgoomkaldkaaDoorQSrE
import Derived.Maps.OwnSet
import Derived.Maps.OwnOps
import Derived.WideKeyEntry
import Derived.DeepKeys4
import Derived.MapViews
import Derived.OpenShut
import Derived.Lib.SmallJoins
namespace Go.Proofs.YtnadgoomkaldkaaDoor
open Go.RowKit Go.Maps Go.ChangeShapes Go.WideShapes Go.ChangeAt Go.Joins
attribute [local go_sem ↓] Go.wp_at_zero Go.wp_at_succ

theorem spotLaw : WideMaps.KeyLaw Tryd.prog 52 := deep_law_laid (by kernel_rfl) (m := 8) (by decide) (of_decide_eq_true (by kernel_rfl)) (by kernel_rfl) (by kernel_rfl)
theorem spotKeyed : Keyed Tryd.prog 52 := Keyed.of_law spotLaw
theorem cellsSpK : Tryd.prog.cellsOf 52 = 2 := by kernel_rfl
theorem ok_wf {x : Int} (h : okC x) : (Lit.int .i64 x).wf = true := by
  have e1 : IntKind.i64.min = -9223372036854775808 := by decide +kernel
  have e2 : IntKind.i64.max = 9223372036854775807 := by decide +kernel
  unfold okC at h
  simp only [Lit.wf, Bool.and_eq_true, decide_eq_true_eq]
  rw [e1, e2]
  omega
/-- A point as a key. -/
noncomputable def kL (p : Sp) : Lit := (keyOf Tryd.prog 52 (sv p)).getD (.bool false)
theorem spot_key {p : Sp} (h : okS p) : keyOf Tryd.prog 52 (sv p) = some (kL p) := by
  have ht : DataW.Trod (H := Unit) (fun _ => ()) Tryd.prog default 0 (fun _ => true) true 52 (.agg #[.int .i64 p.1, .int .i64 p.2]) (.agg [.lit (.int .i64 p.1), .lit (.int .i64 p.2)]) [] :=
    shut_agg2 (y0 := (.lit (.int .i64 p.1), [])) (y1 := (.lit (.int .i64 p.2), [])) Tryd.underlying52 (by kernel_rfl) cellsSpK ⟨1, by simp [DataW.trod, Tryd.underlying3, ok_wf h.1]⟩ ⟨1, by simp [DataW.trod, Tryd.underlying3, ok_wf h.2]⟩
  obtain ⟨hk, _⟩ := keyOf_asKey (by kernel_rfl) (by kernel_rfl) (by simp [Value.formed, Tryd.underlying52, cellsSpK]) ht
  unfold kL
  rw [hk]
  rfl
theorem kL_inj {p q : Sp} (hp : okS p) (hq : okS q) (h : kL p = kL q) : p = q := by
  have h1 := spot_key hp
  have h2 := spot_key hq
  rw [h] at h1
  have e := spotLaw.inj h1 h2
  simp only [Value.agg.injEq, Array.mk.injEq, List.cons.injEq, Value.int.injEq, and_true, true_and] at e
  exact Prod.ext e.1 e.2
set_option maxRecDepth 100000 in
theorem kL_key {p : Sp} (hp : okS p) : WideAt.IsKeyLit (kL p) := by
  have h := spot_key hp
  generalize kL p = k at h
  generalize sv p = v at h
  exact spotKeyed.key h
/-- The points, each once. -/
def ddL (L : List Sp) : List Sp := L.foldl (fun acc p => if p ∈ acc then acc else acc ++ [p]) []
theorem ddL_snoc (L : List Sp) (p : Sp) : ddL (L ++ [p]) = if p ∈ ddL L then ddL L else ddL L ++ [p] := by unfold ddL; rw [List.foldl_append]; rfl
theorem snoc_ind {P : List Sp → Prop} (h0 : P []) (h1 : ∀ L p, P L → P (L ++ [p])) (L : List Sp) : P L := by
  have : ∀ n (L : List Sp), L.length = n → P L := by
    intro n
    induction n with
    | zero => intro L h; obtain rfl := List.length_eq_zero_iff.1 h; exact h0
    | succ n ih =>
      intro L h
      have hne : L ≠ [] := by intro e; rw [e] at h; simp at h
      rw [← List.dropLast_concat_getLast hne]
      exact h1 _ _ (ih _ (by simp; omega))
  exact this _ L rfl
theorem ddL_mem (p : Sp) (L : List Sp) : p ∈ ddL L ↔ p ∈ L := by
  induction L using snoc_ind with
  | h0 => simp [ddL]
  | h1 L q ih =>
    rw [ddL_snoc]
    split
    · rename_i h
      rw [ih, List.mem_append, List.mem_singleton]
      constructor
      · exact fun hx => .inl hx
      · rintro (hx | rfl)
        · exact hx
        · exact ih.1 h
    · rw [List.mem_append, List.mem_append, ih]
theorem ddL_len (L : List Sp) : (ddL L).length ≤ L.length := by
  induction L using snoc_ind with
  | h0 => simp [ddL]
  | h1 L q ih =>
    rw [ddL_snoc, List.length_append]
    split
    · simp; omega
    · simp; exact ih
theorem ddL_nodup (L : List Sp) : (ddL L).length = L.length ↔ L.Nodup := by
  induction L using snoc_ind with
  | h0 => simp [ddL]
  | h1 L q ih =>
    have hl := ddL_len L
    rw [ddL_snoc, List.nodup_append]
    by_cases h : q ∈ ddL L
    · rw [if_pos h]
      simp only [List.length_append, List.length_singleton]
      constructor
      · intro e; omega
      · rintro ⟨_, _, h3⟩
        exact absurd rfl (h3 q ((ddL_mem q L).1 h) q (by simp))
    · rw [if_neg h]
      simp only [List.length_append, List.length_singleton]
      constructor
      · intro e
        refine ⟨ih.1 (by omega), by simp, fun a ha b hb => ?_⟩
        rw [List.mem_singleton] at hb
        subst hb
        rintro rfl
        exact h ((ddL_mem a L).2 ha)
      · rintro ⟨h1, _, _⟩
        rw [ih.2 h1]
/-- What the map holds, when these points have come. -/
structure CD (D : DataW Unit) (L : List Sp) : Prop where
  tidy : Tidy D
  has : ∀ p, okS p → Maps.has D (kL p) = decide (p ∈ L)
  cnt : ∀ p, okS p → D.atKey (kL p) (.lit (.int .i64 0)) = .lit (.int .i64 (L.count p : Int))
  size : Maps.size D = (ddL L).length
theorem CD.nil : CD (.map []) [] := ⟨tidy_empty, fun _p _ => rfl, fun _p _ => rfl, rfl⟩
set_option maxRecDepth 100000 in
theorem CD.step {D : DataW Unit} {L : List Sp} {p : Sp} (h : CD D L) (hp : okS p) : CD (D.put (kL p) (.lit (.int .i64 ((L.count p : Int) + 1)))) (L ++ [p]) := by
  have ht : Tidy (D.put (kL p) (.lit (.int .i64 ((L.count p : Int) + 1)))) := by
    have hk := kL_key hp
    generalize kL p = k at hk ⊢
    exact h.tidy.put hk _
  refine ⟨ht, fun q hq => ?_, fun q hq => ?_, ?_⟩
  · by_cases e : q = p
    · subst e
      rw [has_put_same h.tidy.isMap (kL_key hq)]
      simp
    · rw [has_put_other (fun hh => e (kL_inj hq hp hh)), h.has q hq]
      simp [e]
  · by_cases e : q = p
    · subst e
      rw [atKey_put_same h.tidy.isMap (kL_key hq)]
      simp
    · rw [atKey_put_other (fun hh => e (kL_inj hq hp hh)), h.cnt q hq]
      have : (L ++ [p]).count q = L.count q := by
        rw [List.count_append]
        have : [p].count q = 0 := List.count_eq_zero.2 (by simpa using e)
        omega
      rw [this]
  · rw [size_put h.tidy, h.has p hp, h.size, ddL_snoc]
    by_cases c : p ∈ L
    · rw [if_pos (decide_eq_true c), if_pos ((ddL_mem p L).2 c)]
    · rw [if_neg (by simp [c]), if_neg (fun hh => c ((ddL_mem p L).1 hh))]
      simp
theorem undMp : Tryd.prog.underlying 85 = some (.map 52 3) := by kernel_rfl
theorem zeroI (w : World) : (zeroValue 3).run Tryd.prog w = .ok (.int .i64 0) w := by kernel_rfl
abbrev OM (w : World) (M n : Nat) (D : DataW Unit) : Prop := w.ownsMap Tryd.prog 52 (plainElem Tryd.prog 3) M n D
/-- m[p]++. -/
theorem cnt_step {w : World} {M n : Nat} {D : DataW Unit} {L : List Sp} {p : Sp} (hown : OM w M n D) (hcd : CD D L) (hp : okS p) (hn : n < maxLen) (hc : (L.count p : Int) + 1 ≤ 9223372036854775807) :
    ∃ (c st : Int) (v0 : Value) (w1 w2 : World), c = (L.count p : Int) ∧ (Instr.lookup 85 (.map (some M)) (sv p) false).run Tryd.prog w = .ok (.int .i64 c) w ∧ (Instr.mapEntry 85 (.map (some M)) (sv p)).run Tryd.prog w = .ok (.tuple #[v0, .int .i64 st]) w1 ∧ (Instr.lookup 85 (.map (some M)) (sv p) false).run Tryd.prog w1 = .ok (.int .i64 c) w1 ∧
      (Instr.entryStore 85 (.map (some M)) (.int .i64 st) (.int .i64 (c + 1))).run Tryd.prog w1 = .ok () w2 ∧ OM w2 M (n + 1) (D.put (kL p) (.lit (.int .i64 (c + 1)))) ∧ w.grownBy w1 (some M) ∧ w.grownBy w2 (some M) := by
  have hkey := spot_key hp
  obtain ⟨c, hrun, hat, hwc⟩ := hown.lookup_int spotKeyed undMp (by kernel_rfl) (zeroI w) hkey
  rw [hcd.cnt p hp] at hat
  have hcc : c = (L.count p : Int) := by simpa using hat.symm
  have hwf : (Lit.int .i64 (c + 1)).wf = true := by
    have e1 : IntKind.i64.min = -9223372036854775808 := by decide +kernel
    have e2 : IntKind.i64.max = 9223372036854775807 := by decide +kernel
    simp only [Lit.wf, Bool.and_eq_true, decide_eq_true_eq]
    rw [e1, e2, hcc]
    omega
  obtain ⟨w', hup, hown', hgrow⟩ := hown.update spotKeyed undMp hn hkey (plainElem_int (H := Unit) (e := 3) (by kernel_rfl) hwf)
  obtain ⟨es, clock, hb, F, hs, hD⟩ := id hown
  obtain ⟨v0, st, es1, clock1, hE, hcase, hS⟩ := WideElems.entry_then_store spotLaw undMp zeroI hb F hkey
  have hb1 : (ChangeMaps.setBlock w M (.map es1 clock1)).heap[M]? = some (.map es1 clock1) := ChangeMaps.heap_setBlock_same hb _
  obtain ⟨es', clock', hSt, hUp⟩ := hS _ (.int .i64 (c + 1)) hb1
  rw [hup] at hUp
  have hw' : w' = ChangeMaps.setBlock w M (.map es' clock') := by simpa using hUp
  have hg : ∀ o, w.grownBy (ChangeMaps.setBlock w M o) (some M) := fun o => ⟨rfl, rfl, rfl, by simp [ChangeMaps.setBlock], fun i _ hi => ChangeMaps.heap_setBlock_other hb _ (fun e => hi (by rw [e]))⟩
  have hss : ∀ o o', ChangeMaps.setBlock (ChangeMaps.setBlock w M o) M o' = ChangeMaps.setBlock w M o' := fun o o' => by simp [ChangeMaps.setBlock]
  rw [hss, ← hw'] at hSt
  have hl1 : (Instr.lookup 85 (.map (some M)) (sv p) false).run Tryd.prog (ChangeMaps.setBlock w M (.map es1 clock1)) = .ok (.int .i64 c) (ChangeMaps.setBlock w M (.map es1 clock1)) := by
    rcases spotLaw.find w hkey es.toList F.keys with ⟨h1, h2⟩ | ⟨j, e0, h1, h2, h3⟩
    · have hE2 : (Instr.mapEntry 85 (.map (some M)) (sv p)).run Tryd.prog w = .ok (.tuple #[.int .i64 0, goInt clock]) (ChangeMaps.setBlock w M (.map (es.push ⟨sv p, .int .i64 0, clock⟩) (clock + 1))) := by
        simp [Instr.mapEntry, run_underlying undMp, MapKept.run_getObj_map hb, spotLaw.check w false hkey, h1, MapKept.run_setObj_map _ hb, Result.andThen, ChangeMaps.setBlock]
      have h0 : c = 0 := by
        have : (Instr.lookup 85 (.map (some M)) (sv p) false).run Tryd.prog w = .ok (.int .i64 0) w := by
          simp [Instr.lookup, run_underlying undMp, MapKept.run_getObj_map hb, spotLaw.check w _ hkey, h1, Result.andThen]
        rw [hrun] at this
        simpa using this
      rw [hE] at hE2
      have hw : ChangeMaps.setBlock w M (.map es1 clock1) = ChangeMaps.setBlock w M (.map (es.push ⟨sv p, .int .i64 0, clock⟩) (clock + 1)) := by
        simp only [Result.ok.injEq] at hE2
        exact hE2.2
      rw [hw]
      have hb2 : (ChangeMaps.setBlock w M (.map (es.push ⟨sv p, .int .i64 0, clock⟩) (clock + 1))).heap[M]? = some (.map (es.push ⟨sv p, .int .i64 0, clock⟩) (clock + 1)) := ChangeMaps.heap_setBlock_same hb _
      rcases spotLaw.find (ChangeMaps.setBlock w M (.map (es.push ⟨sv p, .int .i64 0, clock⟩) (clock + 1))) hkey (es.push ⟨sv p, .int .i64 0, clock⟩).toList (by
          intro e he
          rw [Array.toList_push, List.mem_append, List.mem_singleton] at he
          rcases he with he | rfl
          · exact F.keys e he
          · exact ⟨_, hkey⟩) with ⟨_, g2⟩ | ⟨j, e1, g1, g2, g3⟩
      · exact absurd rfl (g2 ⟨sv p, .int .i64 0, clock⟩ (by rw [Array.toList_push]; simp))
      · have he := List.mem_of_getElem? g2
        rw [Array.toList_push, List.mem_append, List.mem_singleton] at he
        rcases he with he | rfl
        · exact absurd g3 (h2 e1 he)
        · rw [h0]
          rw [Array.toList_push] at g1
          simp only [Instr.lookup]
          simp [run_underlying undMp, MapKept.run_getObj_map hb2, spotLaw.check _ _ hkey, g1, Result.andThen]
    · have hj : es[j]? = some e0 := by simpa using h2
      have hsame : es.modify j (fun e => { e with key := sv p }) = es := by
        apply Array.ext'
        rw [Array.toList_modify, ChangeMaps.modify_eq_set _ _ _ _ h2]
        have : ({ e0 with key := sv p } : MapEntry) = e0 := by rw [← h3]
        rw [this]
        exact WideElems.set_self _ _ _ h2
      have hE2 : (Instr.mapEntry 85 (.map (some M)) (sv p)).run Tryd.prog w = .ok (.tuple #[e0.val, goInt e0.born]) (ChangeMaps.setBlock w M (.map es clock)) := by
        simp [Instr.mapEntry, run_underlying undMp, MapKept.run_getObj_map hb, spotLaw.check w false hkey, h1, hj, h3, spotLaw.stays w hkey, hsame, MapKept.run_setObj_map _ hb, Result.andThen, ChangeMaps.setBlock]
      rw [hE] at hE2
      have hw : ChangeMaps.setBlock w M (.map es1 clock1) = ChangeMaps.setBlock w M (.map es clock) := by
        simp only [Result.ok.injEq] at hE2
        exact hE2.2
      have hid : ChangeMaps.setBlock w M (.map es clock) = w := by
        unfold ChangeMaps.setBlock
        have : w.heap.setIfInBounds M (.map es clock) = w.heap := by
          apply Array.ext'
          rw [Array.toList_setIfInBounds]
          exact WideElems.set_self _ _ _ (by simpa using hb)
        rw [this]
      rw [hw, hid]
      exact hrun
  exact ⟨c, st, v0, _, w', hcc, hrun, hE, hl1, hSt, hown', hg _, hgrow⟩
/-- A slice of slices of points that is read. -/
def lx (Ls : List (List Sp)) (i : Nat) : List Sp := Ls.getD i []
structure LLs (w : World) (ad : Option Addr) (b o cap : Nat) (Ls : List (List Sp)) : Prop where
  row : ∀ i, i < Ls.length → (∃ ad' b' o' cap', w.cell? ⟨b, o + i, none⟩ = some (.slice ad' (lx Ls i).length cap') ∧ SSl w ad' b' o' cap' (lx Ls i)) ∧ b < w.heap.size
  ix : ∀ k : Nat, k < Ls.length → ∀ w, (Instr.indexAt 30 (.slice ad Ls.length cap) (.int .i64 k)).run Tryd.prog w = .ok (.pointer (some ⟨b, o + k, none⟩)) w
theorem LLs.below {W w' : World} {ad : Option Addr} {b o cap : Nat} {Ls : List (List Sp)} (h : LLs W ad b o cap Ls) (hB : Below W.heap.size W w') : LLs w' ad b o cap Ls :=
  ⟨fun i hi => by
    obtain ⟨⟨ad', b', o', cap', h1, h2⟩, h3⟩ := h.row i hi
    exact ⟨⟨ad', b', o', cap', (hB.cell (p := ⟨b, o + i, none⟩) h3).trans h1, h2.below hB⟩, Nat.lt_of_lt_of_le h3 hB.size⟩, h.ix⟩
theorem lindex (b o n cap k : Nat) (hk : k < n) (w : World) : (Instr.indexAt 30 (.slice (some ⟨b, o, none⟩) n cap) (.int .i64 k)).run Tryd.prog w = .ok (.pointer (some ⟨b, o + k, none⟩)) w := by
  have hu : Tryd.prog.underlying 30 = some (.slice (Tryd.prog.elem 30)) := by kernel_rfl
  refine (run_indexAt_slice (P := Tryd.prog) (w := w) 30 ⟨b, o, none⟩ n cap .i64 (k : Int) hu).trans ?_
  rw [if_pos ⟨by omega, by omega⟩]
  have hs : (sizeOf (Tryd.prog.elem 30)).run Tryd.prog w = .ok 1 w := by kernel_rfl
  rw [hs]
  simp [Addr.add]
  try (intro h; omega)
theorem LLs.one {W : World} {B : Nat} {ad : Option Addr} {b o cap : Nat} {l : List Sp} (h : At W B [.slice ad l.length cap]) (hs : SSl W ad b o cap l) : LLs W (some ⟨B, 0, none⟩) B 0 1 [l] :=
  ⟨fun i hi => by
    obtain rfl : i = 0 := by simp at hi; exact hi
    exact ⟨⟨ad, b, o, cap, h.c1, hs⟩, h.2⟩, fun k hk w => lindex B 0 _ 1 k hk w⟩
end Go.Proofs.YtnadgoomkaldkaaDoor
