/-
  Rows of whole numbers that a call makes; grid.multiples.
-/
import Derived.Test.YthpbkomchdgneaaDoorQGlB
import Derived.Deep.LoopGhost
namespace Go.Proofs.YthpbkomchdgneaaDoor
open Go.RowKit

theorem info_parts {e : TypeId} {z : Value} {s b : Nat} (h : (Tryd.prog.info? e).map (fun i => (i.zero, i.size, i.bytes)) = some (some z, s, b)) : ∃ i, Tryd.prog.info? e = some i ∧ i.zero = some z ∧ i.size = s ∧ i.bytes = b := by
  obtain ⟨i, h1, h2⟩ := Option.map_eq_some_iff.1 h
  simp only [Prod.mk.injEq] at h2
  exact ⟨i, h1, h2.1, h2.2.1, h2.2.2⟩
theorem infoI : (Tryd.prog.info? 3).map (fun i => (i.zero, i.size, i.bytes)) = some (some (.int .i64 0), 1, 8) := by kernel_rfl
theorem undI : Tryd.prog.underlying 44 = some (.slice 3) := by kernel_rfl
theorem news1 {w : World} {ad : Addr} {x : Value} {j : Nat} {u : Value} (hj : ([x] : List Value)[j]? = some u) (h : w.cell? (ad.add 0) = some x) : w.cell? (ad.add j) = some u := by
  match j with
  | 0 => simp at hj; subst hj; exact h
  | j + 1 => simp at hj
/-- The numbers as values; a slice that holds them. -/
abbrev ir (l : List Int) : List Value := l.map (Value.int .i64)
theorem ir_snoc (l : List Int) (d : Int) : ir l ++ [Value.int .i64 d] = ir (l ++ [d]) := by simp [ir]
def RowI (w : World) (v : Value) (l : List Int) : Prop := (v = .slice none 0 0 ∧ l = []) ∨ ∃ b cap, v = .slice (some ⟨b, 0, none⟩) l.length cap ∧ l.length ≤ cap ∧ cap ≤ maxLen ∧ (∀ i, (h : i < l.length) → w.cell? ⟨b, i, none⟩ = some (.int .i64 l[i])) ∧ b < w.heap.size
theorem RowI.below {W w' : World} {v : Value} {l : List Int} (hB : Below W.heap.size W w') (h : RowI W v l) : RowI w' v l := by
  rcases h with h | ⟨b, cap, h1, h2, h3, h4, h5⟩
  · exact .inl h
  · exact .inr ⟨b, cap, h1, h2, h3, fun i hi => (hB.cell (p := ⟨b, i, none⟩) h5).trans (h4 i hi), Nat.lt_of_lt_of_le h5 hB.size⟩
theorem own_ri {w : World} {base : Nat} {v : Value} {n : Nat} {l : List Int} (h : w.ownsRow base 3 1 v n (ir l)) : RowI w v l ∧ n = l.length := by
  have hn : n = l.length := by have := h.1; simp [ir] at this; omega
  subst hn
  refine ⟨?_, rfl⟩
  obtain ⟨h1, h | ⟨g, cap, cur, hv, hb, hg, hc, hm, hs, ht⟩⟩ := h
  · obtain ⟨rfl, h0⟩ := h
    exact .inl ⟨rfl, List.eq_nil_of_length_eq_zero h0⟩
  · refine .inr ⟨g, cap, hv, hc, hm, ?_, ?_⟩
    · intro i hi
      have e : cur.toList[i]? = some (.int .i64 l[i]) := by
        have : (cur.toList.take (l.length * 1))[i]? = (ir l)[i]? := by rw [ht]
        rw [List.getElem?_take] at this
        rw [if_pos (by omega)] at this
        rw [this]
        simp [ir, hi]
      simp [World.cell?, hg]
      simpa using e
    · rcases Nat.lt_or_ge g w.heap.size with c | c
      · exact c
      · rw [Array.getElem?_eq_none c] at hg; cases hg
/-- The first multiple, the last one; so many multiples of a step. -/
def fiI (low s : Int) : Int := -((-low) / s)
def laI (high s : Int) : Int := high / s
def mulL (f s : Int) (n : Nat) : List Int := (List.range n).map fun (i : Nat) => (f + (i : Int)) * s
theorem mulL_len (f s : Int) (n : Nat) : (mulL f s n).length = n := by simp [mulL]
theorem mulL_snoc (f s : Int) (n : Nat) : mulL f s n ++ [(f + (n : Int)) * s] = mulL f s (n + 1) := by simp [mulL, List.range_succ]
theorem la_iff {high s : Int} (hs : 1 ≤ s) (x : Int) : x ≤ laI high s ↔ x * s ≤ high := Int.le_ediv_iff_mul_le (by omega)
theorem fi_iff {low s : Int} (hs : 1 ≤ s) (x : Int) : fiI low s ≤ x ↔ low ≤ x * s := by
  have h := Int.le_ediv_iff_mul_le (c := s) (a := -x) (b := -low) (by omega)
  rw [Int.neg_mul] at h
  unfold fiI
  omega
theorem div_bd {n s : Int} (hs : 1 ≤ s) (h1 : -16777216 ≤ n) (h2 : n ≤ 16777216) : -16777216 ≤ n / s ∧ n / s ≤ 16777216 := by
  constructor
  · rw [Int.le_ediv_iff_mul_le (by omega)]
    have : (-16777216) * s ≤ (-16777216) * 1 := Int.mul_le_mul_of_nonpos_left (by omega) (by omega)
    omega
  · have h := (Int.le_ediv_iff_mul_le (c := s) (a := n / s) (b := n) (by omega)).1 (Int.le_refl _)
    rcases Int.lt_or_le (n / s) 0 with c | c
    · omega
    · have : n / s * 1 ≤ n / s * s := Int.mul_le_mul_of_nonneg_left hs c
      omega
def few (low high s : Int) : Bool := decide (laI high s - fiI low s < 4000)
def linL (low high s : Int) : List Int := mulL (fiI low s) s (laI high s - fiI low s + 1).toNat
set_option maxRecDepth 4000 in
set_option maxHeartbeats 4000000 in
theorem multiples_few (low high s : Int) (hl1 : -16777216 ≤ low) (hl2 : low ≤ 16777216) (hh1 : -16777216 ≤ high) (hh2 : high ≤ 16777216) (hs : 1 ≤ s) (hs2 : s ≤ 9223372036854775807) (hf : few low high s = true) (w : World) : Calls Tryd.prog 26 #[.int .i64 low, .int .i64 high, .int .i64 s] w fun e w' => ∃ v, e = .returned (.tuple #[v, .bool true]) ∧ RowI w' v (linL low high s) ∧ Gr w w' := by
  have e1 : IntKind.i64.wrap (-low) = -low := by simp [IntKind.wrap, IntKind.signed, IntKind.bits]; omega
  have HF1 := hidb (fun w => floor_any (-low) s (by omega) (by omega) hs hs2 w)
  have HF2 := hidb (fun w => floor_any high s (by omega) (by omega) hs hs2 w)
  have b1 := div_bd hs (show -16777216 ≤ -low by omega) (show -low ≤ 16777216 by omega)
  have b2 := div_bd hs hh1 hh2
  have HLA := hidb (fun x => la_iff (high := high) hs x)
  have HFI := hidb (fun x => fi_iff (low := low) hs x)
  have hfew : laI high s - fiI low s < 4000 := by unfold few at hf; simpa using hf
  unfold linL
  rw [show high / s = laI high s from rfl] at HF2 b2
  have e2 : IntKind.i64.wrap (-((-low) / s)) = fiI low s := by unfold fiI; simp [IntKind.wrap, IntKind.signed, IntKind.bits]; omega
  have b3 : -16777216 ≤ fiI low s ∧ fiI low s ≤ 16777216 := by unfold fiI; omega
  generalize (-low) / s = nl at HF1 e2
  generalize fiI low s = f at HFI hfew e2 b3 ⊢
  generalize laI high s = l at HLA HF2 hfew b2 ⊢
  have e3 : IntKind.i64.wrap (l - f) = l - f := by simp [IntKind.wrap, IntKind.signed, IntKind.bits]; omega
  have n1 : ¬ 4000 ≤ l - f := by omega
  obtain ⟨i0, hi, hz0, hz1, hz2⟩ := info_parts infoI
  clear b1 hf hs hs2
  go_enter Tryd.func26, Tryd.ntmps26
  go_wp2_with fail
  refine (HF1.out _).mono ?_
  rintro e w1 ⟨rfl, rfl⟩
  go_wp2_with fail
  refine (HF2.out _).mono ?_
  rintro e w2 ⟨rfl, rfl⟩
  go_wp2
  clear e1 e2 e3 n1
  go_loopw [10, 11] (fun v t wr => ∃ (i : Nat) (x : Int), x = f + (i : Int) ∧ i ≤ 4000 ∧ (x ≤ l + 1 ∨ i = 0) ∧ t = .int .i64 x ∧ wr.ownsRow w2.heap.size 3 1 v i (ir (mulL f s i)) ∧ Below w2.heap.size w2 wr) (fun _ t _ => (l + 1 - intOf t).toNat)
  case atStart => exact ⟨0, f, by simp, by omega, .inr rfl, rfl, by simpa [mulL] using World.ownsRow_nil w2 _ _ _, Below.refl _ _⟩
  case round =>
    obtain ⟨i, x, hx, hi4, hxl, rfl, hown, hB⟩ := hrel
    by_cases h1 : x ≤ l
    · have m1 := (HLA.out x).1 h1
      have m2 := (HFI.out x).1 (by omega)
      have e4 : IntKind.i64.wrap (x * s) = x * s := by simp [IntKind.wrap, IntKind.signed, IntKind.bits]; omega
      have e5 : IntKind.i64.wrap (x + 1) = x + 1 := by simp [IntKind.wrap, IntKind.signed, IntKind.bits]; omega
      have HX := hidb hx
      have HM : Hid (x * s = (f + (i : Int)) * s) := by rw [← hx]; exact rfl
      have hlt : i < 4000 := by omega
      clear m1 m2 hx
      go_wp2_with (at_builtin; refine wpList_append_own _ rfl _ _ 44 rfl w2.heap.size 3 i0 (.int .i64 0) 1 8 undI hi hz0 hz1 hz2 rfl (by decide) _ _ _ rfl (hown.alloc _) ⟨wr.heap.size, 0, none⟩ 1 1 [.int .i64 (x * s)] rfl rfl ?c1 ?c2 ?c3 ?c4 ?c5 ?_)
      case c1 => intro j u hj; exact news1 hj (by simp [go_sem, Addr.add])
      case c2 => intro u hu; simp at hu; subst hu; rfl
      case c3 => unfold maxLen; omega
      case c4 => omega
      case c5 => have := hB.size; simp; omega
      intro v' w3 hown' hgrow _
      have hB2 : Below w2.heap.size w2 w3 := (hB.alloc hB.size _).grown hgrow (by have := hB.size; simp; omega) (fun k hk => (hown.lt k hk).1)
      rw [ir_snoc, HM.out, mulL_snoc] at hown'
      clear hgrow hown hB
      go_wp2
      go_roundw
      case rel => exact ⟨i + 1, x + 1, by have := HX.out; omega, by omega, .inl (by omega), rfl, hown', hB2⟩
      case measure => simp [intOf]; omega
    · have HE : Hid ((l - f + 1).toNat = i) := by
        show _ = _
        omega
      obtain ⟨hri, _⟩ := own_ri hown
      clear hx hxl hown
      go_wp2
      go_ret2
      exact ⟨_, rfl, by rw [HE.out]; exact hri, hB⟩
end Go.Proofs.YthpbkomchdgneaaDoor
