/-
  Whole numbers from 0 on by digits to the base of a million, the low ones first. No Go text is named here.; Whole numbers of any size in memory; mercatorref1.trimmed.; Rows of digits that a call makes; mercatorref1.BigOf.; mercatorref1.BigAdd.; mercatorref1.BigSub.; mercatorref1.BigCmp.; mercatorref1.BigPart, mercatorref1.BigGcd.; mercatorref1.BigGcd, mercatorref1.BigInt.; mercatorref1.BigMul.
-/
import Derived.Test.YtecmkjefoppbiaaDoorProg
import Derived.Test.YtecmkjefoppbiaaDoorQJ13
import Derived.WalkKit
import Derived.WalkLawsBesides
import Derived.WalkSmall
import Derived.Outline
import Derived.Deep.QuietTactic
import Derived.BigQuiet
import Derived.Deep.CutRange
import Derived.Deep.LoopGhost
namespace Go.Proofs.YtecmkjefoppbiaaDoor.BG

/-- What a row of digits stands for. -/
def dv : List Nat → Nat
  | [] => 0
  | d :: l => d + 1000000 * dv l
/-- The digits of a number, without noughts at their end. -/
def dn (n : Nat) : List Nat := if _h : n = 0 then [] else (n % 1000000) :: dn (n / 1000000)
termination_by n
decreasing_by omega
theorem dn_zero : dn 0 = [] := by unfold dn; simp
theorem dn_pos {n : Nat} (h : n ≠ 0) : dn n = (n % 1000000) :: dn (n / 1000000) := by rw [dn]; simp [h]
theorem dv_dn (n : Nat) : dv (dn n) = n := by
  induction n using Nat.strongRecOn with
  | _ n ih =>
    by_cases h : n = 0
    · subst h; rw [dn_zero]; rfl
    · rw [dn_pos h]
      show n % 1000000 + 1000000 * dv (dn (n / 1000000)) = n
      rw [ih (n / 1000000) (by omega)]
      omega
/-- Digits below a million. -/
def Dg (l : List Nat) : Prop := ∀ d ∈ l, d < 1000000
theorem dn_dg (n : Nat) : Dg (dn n) := by
  induction n using Nat.strongRecOn with
  | _ n ih =>
    by_cases h : n = 0
    · subst h; rw [dn_zero]; intro d hd; cases hd
    · rw [dn_pos h]
      intro d hd
      rcases List.mem_cons.1 hd with rfl | hd
      · exact Nat.mod_lt _ (by decide)
      · exact ih (n / 1000000) (by omega) d hd
theorem dv_append (l m : List Nat) : dv (l ++ m) = dv l + 1000000 ^ l.length * dv m := by
  induction l with
  | nil => simp [dv]
  | cons d l ih =>
    simp only [List.cons_append, dv, ih, List.length_cons, Nat.pow_succ]
    rw [Nat.mul_add, Nat.add_assoc, ← Nat.mul_assoc, Nat.mul_comm 1000000 (1000000 ^ l.length)]
theorem dv_snoc (l : List Nat) (d : Nat) : dv (l ++ [d]) = dv l + 1000000 ^ l.length * d := by
  rw [dv_append]; simp [dv]
theorem dv_lt {l : List Nat} (h : Dg l) : dv l < 1000000 ^ l.length := by
  induction l with
  | nil => simp [dv]
  | cons d l ih =>
    have h1 : d < 1000000 := h d (List.mem_cons_self ..)
    have h2 := ih (fun x hx => h x (List.mem_cons_of_mem _ hx))
    simp only [dv, List.length_cons, Nat.pow_succ]
    omega
theorem Dg.snoc {l : List Nat} {d : Nat} (h : Dg l) (hd : d < 1000000) : Dg (l ++ [d]) := by
  intro x hx
  rcases List.mem_append.1 hx with hx | hx
  · exact h x hx
  · rw [List.mem_singleton.1 hx]; exact hd
theorem Dg.take {l : List Nat} (h : Dg l) (k : Nat) : Dg (l.take k) := fun x hx => h x (List.mem_of_mem_take hx)
theorem Dg.get {l : List Nat} (h : Dg l) {i : Nat} (hi : i < l.length) : l[i] < 1000000 := h _ (List.getElem_mem hi)
/-- A row whose last digit is not a nought is its number's row. -/
theorem dn_dv {l : List Nat} (h : Dg l) (hl : l = [] ∨ ∃ m d, l = m ++ [d] ∧ d ≠ 0) : dn (dv l) = l := by
  induction l with
  | nil => exact dn_zero
  | cons d l ih =>
    have h1 : d < 1000000 := h d (List.mem_cons_self ..)
    have h2 : Dg l := fun x hx => h x (List.mem_cons_of_mem _ hx)
    have hl' : l = [] ∨ ∃ m e, l = m ++ [e] ∧ e ≠ 0 := by
      rcases hl with hl | ⟨m, e, hl, he⟩
      · cases hl
      · cases m with
        | nil => simp at hl; exact .inl hl.2
        | cons x m => simp at hl; exact .inr ⟨m, e, hl.2, he⟩
    have h0 : dv (d :: l) ≠ 0 := by
      rcases hl with hl | ⟨m, e, hl, he⟩
      · cases hl
      · rw [hl, dv_snoc]
        have : 0 < 1000000 ^ m.length * e := Nat.mul_pos (Nat.pow_pos (by decide)) (Nat.pos_of_ne_zero he)
        omega
    rw [dn_pos h0]
    have e1 : dv (d :: l) % 1000000 = d := by simp only [dv]; omega
    have e2 : dv (d :: l) / 1000000 = dv l := by simp only [dv]; omega
    rw [e1, e2, ih h2 hl']
/-- Noughts at the end stand for nothing. -/
theorem dv_zeros (l : List Nat) (k : Nat) (h : ∀ i, (hi : i < l.length) → k ≤ i → l[i] = 0) : dv (l.take k) = dv l := by
  induction l generalizing k with
  | nil => simp
  | cons d l ih =>
    cases k with
    | zero =>
      have hz : ∀ (m : List Nat), (∀ i, (hi : i < m.length) → m[i] = 0) → dv m = 0 := by
        intro m
        induction m with
        | nil => intro _; rfl
        | cons e m ihm =>
          intro hm
          have he := hm 0 (by simp)
          simp at he
          have := ihm (fun i hi => by have := hm (i + 1) (by simpa using hi); simpa using this)
          simp [dv, he, this]
      rw [List.take_zero, hz (d :: l) (fun i hi => h i hi (Nat.zero_le _))]
      rfl
    | succ k =>
      rw [List.take_succ_cons]
      simp only [dv]
      rw [ih k (fun i hi hk => by have := h (i + 1) (by simpa using hi) (by omega); simpa using this)]
/-- Cut off where only noughts follow and the last digit is none: the number's row. -/
theorem take_dn {l : List Nat} (h : Dg l) {k : Nat} (hk : k ≤ l.length) (hz : ∀ i, (hi : i < l.length) → k ≤ i → l[i] = 0) (hl : k = 0 ∨ ∃ hk' : k - 1 < l.length, l[k - 1] ≠ 0) : l.take k = dn (dv l) := by
  rw [← dv_zeros l k hz]
  refine (dn_dv (h.take k) ?_).symm
  rcases hl with rfl | ⟨hk', hd⟩
  · exact .inl (by simp)
  · rcases Nat.eq_zero_or_pos k with rfl | hp
    · exact .inl (by simp)
    · right
      refine ⟨l.take (k - 1), l[k - 1], ?_, hd⟩
      have e : k = (k - 1) + 1 := by omega
      conv => lhs; rw [e, List.take_succ_eq_append_getElem hk']
/-- The number's row is the beginning of any of its rows. -/
theorem dn_take {l : List Nat} (h : Dg l) : ∃ k, k ≤ l.length ∧ dn (dv l) = l.take k := by
  suffices H : ∀ k, k ≤ l.length → (∀ i, (hi : i < l.length) → k ≤ i → l[i] = 0) → ∃ k, k ≤ l.length ∧ dn (dv l) = l.take k from H l.length (Nat.le_refl _) (fun i hi hk => by omega)
  intro k
  induction k with
  | zero => intro hk hz; exact ⟨0, hk, (take_dn h hk hz (.inl rfl)).symm⟩
  | succ k ih =>
    intro hk hz
    by_cases c : l[k] = 0
    · refine ih (by omega) (fun i hi hki => ?_)
      rcases Nat.lt_or_eq_of_le hki with d | d
      · exact hz i hi d
      · subst d; exact c
    · exact ⟨k + 1, hk, (take_dn h hk hz (.inr ⟨by simp; omega, by simpa using c⟩)).symm⟩
theorem dn_len_le {n k : Nat} (h : n < 1000000 ^ k) : (dn n).length ≤ k := by
  induction k generalizing n with
  | zero => have : n = 0 := by simpa using h
            subst this; rw [dn_zero]; simp
  | succ k ih =>
    by_cases h0 : n = 0
    · subst h0; rw [dn_zero]; simp
    · rw [dn_pos h0, List.length_cons]
      have : n / 1000000 < 1000000 ^ k := by rw [Nat.pow_succ] at h; exact Nat.div_lt_of_lt_mul (by rw [Nat.mul_comm]; exact h)
      have := ih this
      omega
theorem dn_len_lt {n : Nat} (h : n ≠ 0) : 1000000 ^ ((dn n).length - 1) ≤ n := by
  induction n using Nat.strongRecOn with
  | _ n ih =>
    rw [dn_pos h, List.length_cons, Nat.add_sub_cancel]
    by_cases c : n / 1000000 = 0
    · rw [c, dn_zero]; simp; omega
    · have := ih (n / 1000000) (by omega) c
      have hl : (dn (n / 1000000)).length = ((dn (n / 1000000)).length - 1) + 1 := by
        rw [dn_pos c, List.length_cons]; omega
      rw [hl, Nat.pow_succ]
      have : 1000000 ^ ((dn (n / 1000000)).length - 1) * 1000000 ≤ n / 1000000 * 1000000 := Nat.mul_le_mul_right _ this
      omega
theorem dn_len_mono {m n : Nat} (h : m ≤ n) : (dn m).length ≤ (dn n).length := by
  refine dn_len_le ?_
  have h1 := dv_lt (dn_dg n)
  rw [dv_dn] at h1
  omega
theorem dn_empty {n : Nat} : (dn n).length = 0 ↔ n = 0 := by
  constructor
  · intro h
    by_cases c : n = 0
    · exact c
    · rw [dn_pos c] at h; simp at h
  · intro h; subst h; rw [dn_zero]; rfl
/-- A digit of two rows that are alike above it decides. -/
theorem dv_cmp {l m : List Nat} (hl : Dg l) (_hm : Dg m) {i : Nat} (h1 : i < l.length) (h2 : i < m.length) (he : l.drop (i + 1) = m.drop (i + 1)) (h : l[i] < m[i]) : dv l < dv m := by
  have split : ∀ (r : List Nat) (hi : i < r.length), dv r = dv (r.take i) + 1000000 ^ i * (r[i] + 1000000 * dv (r.drop (i + 1))) := by
    intro r hi
    have e : r = r.take i ++ (r[i] :: r.drop (i + 1)) := by rw [← List.drop_eq_getElem_cons hi, List.take_append_drop]
    have := congrArg dv e
    rw [dv_append] at this
    rw [this, List.length_take, Nat.min_eq_left (Nat.le_of_lt hi)]
    rfl
  rw [split l h1, split m h2, he]
  have b1 : dv (l.take i) < 1000000 ^ i := by have := dv_lt (hl.take i); rwa [List.length_take, Nat.min_eq_left (Nat.le_of_lt h1)] at this
  generalize dv (m.drop (i + 1)) = D
  generalize dv (m.take i) = T
  have : 1000000 ^ i * (l[i] + 1000000 * D) + 1000000 ^ i ≤ 1000000 ^ i * (m[i] + 1000000 * D) := by
    rw [← Nat.mul_succ]; exact Nat.mul_le_mul_left _ (by omega)
  omega
end Go.Proofs.YtecmkjefoppbiaaDoor.BG
namespace Go.Proofs.YtecmkjefoppbiaaDoor
open Go.RowKit BG

/-- The digits lie from the head of the block on. -/
def Row (w : World) (b : Nat) (l : List Nat) : Prop := (∀ i, (h : i < l.length) → w.cell? ⟨b, i, none⟩ = some (.int .i64 ((l[i] : Nat) : Int))) ∧ b < w.heap.size
theorem Row.below {W w' : World} {b : Nat} {l : List Nat} (h : Row W b l) (hB : Below W.heap.size W w') : Row w' b l :=
  ⟨fun i hi => (hB.cell (p := ⟨b, i, none⟩) h.2).trans (h.1 i hi), Nat.lt_of_lt_of_le h.2 hB.size⟩
theorem Row.take {w : World} {b : Nat} {l : List Nat} (h : Row w b l) (k : Nat) : Row w b (l.take k) :=
  ⟨fun i hi => by rw [h.1 i (by rw [List.length_take] at hi; omega)]; simp, h.2⟩
/-- A slice that holds the digits. -/
def Bg (w : World) (v : Value) (l : List Nat) : Prop := (v = .slice none 0 0 ∧ l = []) ∨ ∃ b cap, v = .slice (some ⟨b, 0, none⟩) l.length cap ∧ l.length ≤ cap ∧ cap ≤ maxLen ∧ Row w b l
theorem Bg.below {W w' : World} {v : Value} {l : List Nat} (h : Bg W v l) (hB : Below W.heap.size W w') : Bg w' v l := by
  rcases h with h | ⟨b, cap, h1, h2, h3, h4⟩
  · exact .inl h
  · exact .inr ⟨b, cap, h1, h2, h3, h4.below hB⟩

end Go.Proofs.YtecmkjefoppbiaaDoor
namespace Go.Proofs.YtecmkjefoppbiaaDoor
open Go.RowKit BG

/-- The digits as values. -/
abbrev vs (l : List Nat) : List Value := l.map fun d => Value.int .i64 ((d : Nat) : Int)
theorem infoI : (Tryd.prog.info? 3).map (fun i => (i.zero, i.size, i.bytes)) = some (some (.int .i64 0), 1, 8) := by kernel_rfl
theorem vs_snoc (l : List Nat) (d : Nat) : vs l ++ [Value.int .i64 ((d : Nat) : Int)] = vs (l ++ [d]) := by simp [vs]
/-- A row of the call's own, read. -/
theorem own_bg {w : World} {base : Nat} {v : Value} {n : Nat} {l : List Nat} (h : w.ownsRow base 3 1 v n (vs l)) : Bg w v l ∧ n = l.length ∧ (v = .slice none 0 0 ∨ ∃ b cap, v = .slice (some ⟨b, 0, none⟩) l.length cap ∧ base ≤ b) := by
  have hn : n = l.length := by have := h.1; simp [vs] at this; omega
  subst hn
  obtain ⟨h1, h | ⟨g, cap, cur, hv, hb, hg, hc, hm, hs, ht⟩⟩ := h
  · obtain ⟨rfl, h0⟩ := h
    exact ⟨.inl ⟨rfl, List.eq_nil_of_length_eq_zero h0⟩, rfl, .inl rfl⟩
  · refine ⟨.inr ⟨g, cap, hv, hc, hm, ?_, ?_⟩, rfl, .inr ⟨g, cap, hv, hb⟩⟩
    · intro i hi
      have e : cur.toList[i]? = some (.int .i64 ((l[i] : Nat) : Int)) := by
        have : (cur.toList.take (l.length * 1))[i]? = (vs l)[i]? := by rw [ht]
        rw [List.getElem?_take] at this
        rw [if_pos (by omega)] at this
        rw [this]
        simp [vs, hi]
      have hlt : g < w.heap.size := by
        rcases Nat.lt_or_ge g w.heap.size with c | c
        · exact c
        · rw [Array.getElem?_eq_none c] at hg; cases hg
      simp [World.cell?, hg]
      simpa using e
    · rcases Nat.lt_or_ge g w.heap.size with c | c
      · exact c
      · rw [Array.getElem?_eq_none c] at hg; cases hg
theorem news1 {w : World} {ad : Addr} {x : Value} {j : Nat} {u : Value} (hj : ([x] : List Value)[j]? = some u) (h : w.cell? (ad.add 0) = some x) : w.cell? (ad.add j) = some u := by
  rcases j with _ | j
  · simp at hj; rw [← hj]; exact h
  · simp at hj
theorem own_below {W w w' : World} {v : Value} {n : Nat} {l : List Value} (hB : Below W.heap.size W w) (h : w.ownsRow W.heap.size 3 1 v n l) (hg : (w.alloc (.cells #[.int .i64 0] 3)).grownBy w' v.ownBlock) : Below W.heap.size W w' :=
  (hB.alloc hB.size _).grown hg (by have := hB.size; simp; omega) (fun k hk => (h.lt k hk).1)
end Go.Proofs.YtecmkjefoppbiaaDoor
namespace Go.Proofs.YtecmkjefoppbiaaDoor
open Go.RowKit BG

theorem take_dv {l : List Nat} (i : Nat) : dv (l.take (i + 1)) = dv (l.take i) + 1000000 ^ i * l.getD i 0 := by
  by_cases h : i < l.length
  · rw [List.take_succ_eq_append_getElem h, dv_snoc, List.length_take, Nat.min_eq_left (Nat.le_of_lt h)]
    simp [List.getD, h]
  · rw [List.take_of_length_le (by omega), List.take_of_length_le (by omega)]
    simp [List.getD, Nat.not_lt.1 h]
/-- A round of adding. -/
theorem add_round {a b o : List Nat} {i c : Nat} (hi : o.length = i) (h : dv o + 1000000 ^ i * c = dv (a.take i) + dv (b.take i)) : dv (o ++ [(c + a.getD i 0 + b.getD i 0) % 1000000]) + 1000000 ^ (i + 1) * ((c + a.getD i 0 + b.getD i 0) / 1000000) = dv (a.take (i + 1)) + dv (b.take (i + 1)) := by
  rw [take_dv, take_dv, dv_snoc, hi]
  generalize a.getD i 0 = x
  generalize b.getD i 0 = y
  generalize dv (a.take i) = A at *
  generalize dv (b.take i) = B at *
  generalize dv o = O at *
  have e : 1000000 ^ i * ((c + x + y) % 1000000) + 1000000 ^ (i + 1) * ((c + x + y) / 1000000) = 1000000 ^ i * (c + x + y) := by
    rw [Nat.pow_succ, Nat.mul_assoc, ← Nat.mul_add]; congr 1; omega
  rw [Nat.mul_add, Nat.mul_add] at e
  omega
theorem add_end {a b o : List Nat} {i : Nat} (ha : a.length ≤ i) (hb : b.length ≤ i) (h : dv o + 1000000 ^ i * 0 = dv (a.take i) + dv (b.take i)) : dv o = dv a + dv b := by
  rw [List.take_of_length_le ha, List.take_of_length_le hb] at h; omega
end Go.Proofs.YtecmkjefoppbiaaDoor
namespace Go.Proofs.YtecmkjefoppbiaaDoor
open Go.RowKit BG

/-- A round of taking off: nothing borrowed, something borrowed. -/
theorem sub_round0 {a b o : List Nat} {i c d : Nat} (hi : o.length = i) (hd : d + c + b.getD i 0 = a.getD i 0) (h : dv o + dv (b.take i) = dv (a.take i) + 1000000 ^ i * c) : dv (o ++ [d]) + dv (b.take (i + 1)) = dv (a.take (i + 1)) + 1000000 ^ (i + 1) * 0 := by
  rw [take_dv, take_dv, dv_snoc, hi, ← hd, Nat.mul_add, Nat.mul_add]
  omega
theorem sub_round1 {a b o : List Nat} {i c d : Nat} (hi : o.length = i) (hd : d + c + b.getD i 0 = a.getD i 0 + 1000000) (h : dv o + dv (b.take i) = dv (a.take i) + 1000000 ^ i * c) : dv (o ++ [d]) + dv (b.take (i + 1)) = dv (a.take (i + 1)) + 1000000 ^ (i + 1) * 1 := by
  rw [take_dv, take_dv, dv_snoc, hi, Nat.pow_succ]
  have e := congrArg (1000000 ^ i * ·) hd
  simp only [Nat.mul_add] at e
  omega
theorem sub_end {a b o : List Nat} {c : Nat} (hD : Dg o) (hl : o.length = a.length) (hb : b.length ≤ a.length) (hab : dv b ≤ dv a) (h : dv o + dv (b.take a.length) = dv (a.take a.length) + 1000000 ^ a.length * c) : dv o = dv a - dv b := by
  rw [List.take_of_length_le hb, List.take_of_length_le (Nat.le_refl _)] at h
  have h1 := dv_lt hD
  rw [hl] at h1
  rcases Nat.eq_zero_or_pos c with rfl | hc
  · omega
  · have : 1000000 ^ a.length * 1 ≤ 1000000 ^ a.length * c := Nat.mul_le_mul_left _ hc
    omega
end Go.Proofs.YtecmkjefoppbiaaDoor
namespace Go.Proofs.YtecmkjefoppbiaaDoor
open Go.RowKit BG

/-- -1, 0, 1. -/
def cm (m n : Nat) : Int := if m < n then -1 else if n < m then 1 else 0
theorem below_dn {W w : World} {n : Nat} (h : Below W.heap.size W w) : Below W.heap.size W (w.drewN n) := ⟨h.1, h.2, h.3, h.4, h.5⟩
theorem drop_step {a b : List Nat} {j : Nat} (h1 : j < a.length) (h2 : j < b.length) (he : a.drop (j + 1) = b.drop (j + 1)) (h : a[j] = b[j]) : a.drop j = b.drop j := by
  rw [List.drop_eq_getElem_cons h1, List.drop_eq_getElem_cons h2, he, h]
/-- Canonical rows: the longer one is the greater. -/
theorem len_lt {m n : Nat} (h : (dn m).length < (dn n).length) : m < n := by
  rcases Nat.lt_or_ge m n with c | c
  · exact c
  · have := dn_len_mono c; omega
end Go.Proofs.YtecmkjefoppbiaaDoor
namespace Go.Proofs.YtecmkjefoppbiaaDoor
open Go.RowKit BG

/-- How great the numbers are that are spoken of. -/
def lid : Nat := 1000000 ^ 100
theorem lid_len {n : Nat} (h : n ≤ 8 * lid) : (dn n).length ≤ 400 := by
  refine Nat.le_trans (dn_len_le (k := 101) ?_) (by decide)
  unfold lid at h
  rw [Nat.pow_succ]
  have : 0 < 1000000 ^ 100 := Nat.pow_pos (by decide)
  omega
theorem btw {a b c : World} (h : Below a.heap.size a b) (k : Below b.heap.size b c) : Below a.heap.size a c := h.trans (k.mono h.size)
theorem pow_step {a b k : Nat} (h : a < b * 2 ^ (k + 1)) : a < (b + b) * 2 ^ k := by
  have e : b * 2 ^ (k + 1) = (b + b) * 2 ^ k := by rw [Nat.pow_succ, ← Nat.two_mul, Nat.mul_comm (2 ^ k) 2, ← Nat.mul_assoc, Nat.mul_comm b 2]
  omega
theorem part_low {a b : Nat} (hb : 0 < b) (h : a % (b + b) < b) : a / b = a / (b + b) + a / (b + b) ∧ a % b = a % (b + b) := by
  have e := Nat.div_add_mod a (b + b)
  have e2 : a = b * (a / (b + b) + a / (b + b)) + a % (b + b) := by
    rw [Nat.add_mul] at e; rw [Nat.mul_add]; omega
  have h1 := Nat.div_mod_unique hb (a := a) (c := a % (b + b)) (d := a / (b + b) + a / (b + b))
  have := h1.2 ⟨by omega, h⟩
  exact ⟨this.1, this.2⟩
theorem part_high {a b : Nat} (hb : 0 < b) (h : b ≤ a % (b + b)) : a / b = a / (b + b) + a / (b + b) + 1 ∧ a % b = a % (b + b) - b := by
  have e := Nat.div_add_mod a (b + b)
  have hl := Nat.mod_lt a (show 0 < b + b by omega)
  have e2 : a = b * (a / (b + b) + a / (b + b) + 1) + (a % (b + b) - b) := by
    rw [Nat.add_mul] at e; rw [Nat.mul_add, Nat.mul_add]; omega
  have h1 := Nat.div_mod_unique hb (a := a) (c := a % (b + b) - b) (d := a / (b + b) + a / (b + b) + 1)
  have := h1.2 ⟨by omega, by omega⟩
  exact ⟨this.1, this.2⟩
theorem cm_lt {m n : Nat} (h : m < n) : cm m n = -1 := by unfold cm; rw [if_pos h]
theorem cm_ge {m n : Nat} (h : n ≤ m) : ¬ cm m n < 0 := by unfold cm; rw [if_neg (by omega)]; split <;> decide
end Go.Proofs.YtecmkjefoppbiaaDoor
namespace Go.Proofs.YtecmkjefoppbiaaDoor
open Go.RowKit BG

theorem Bg.form {w : World} {v : Value} {l : List Nat} (h : Bg w v l) : ∃ ad cap, v = .slice ad l.length cap := by
  rcases h with ⟨rfl, rfl⟩ | ⟨b, cap, rfl, _⟩
  · exact ⟨none, 0, rfl⟩
  · exact ⟨_, cap, rfl⟩
theorem gcd_step {m g : Nat} : Nat.gcd g (m % g) = Nat.gcd m g := by rw [Nat.gcd_comm g (m % g), ← Nat.gcd_rec, Nat.gcd_comm]
theorem dv_drop {l : List Nat} {j : Nat} (h : j < l.length) : dv (l.drop j) = l[j] + 1000000 * dv (l.drop (j + 1)) := by
  rw [List.drop_eq_getElem_cons h]; rfl
theorem dv_drop_le (l : List Nat) (j : Nat) : 1000000 ^ j * dv (l.drop j) ≤ dv l := by
  by_cases h : j ≤ l.length
  · have := dv_append (l.take j) (l.drop j)
    rw [List.take_append_drop, List.length_take, Nat.min_eq_left h] at this
    omega
  · rw [List.drop_of_length_le (by omega)]; simp [dv]
end Go.Proofs.YtecmkjefoppbiaaDoor
namespace Go.Proofs.YtecmkjefoppbiaaDoor
open Go.RowKit BG

theorem dv_set {l : List Nat} {j d : Nat} (h : j < l.length) : dv (l.set j d) + 1000000 ^ j * l[j] = dv l + 1000000 ^ j * d := by
  induction l generalizing j with
  | nil => simp at h
  | cons x l ih =>
    cases j with
    | zero => simp [dv]; omega
    | succ j =>
      have hj : j < l.length := by simpa using h
      have := ih hj
      simp only [List.set_cons_succ, dv, List.getElem_cons_succ, Nat.pow_succ]
      have e1 : 1000000 ^ j * 1000000 * l[j] = 1000000 * (1000000 ^ j * l[j]) := by rw [Nat.mul_comm (1000000 ^ j) 1000000, Nat.mul_assoc]
      have e2 : 1000000 ^ j * 1000000 * d = 1000000 * (1000000 ^ j * d) := by rw [Nat.mul_comm (1000000 ^ j) 1000000, Nat.mul_assoc]
      rw [e1, e2]
      omega
theorem dg_set {l : List Nat} {j d : Nat} (h : Dg l) (hd : d < 1000000) : Dg (l.set j d) := by
  intro x hx
  rcases List.mem_or_eq_of_mem_set hx with hx | rfl
  · exact h x hx
  · exact hd
theorem vs_set (l : List Nat) (j d : Nat) : (vs l).set j (.int .i64 ((d : Nat) : Int)) = vs (l.set j d) := by simp [vs, List.map_set]
theorem dv_replicate (n : Nat) : dv (List.replicate n 0) = 0 := by
  induction n with
  | zero => rfl
  | succ n ih => rw [List.replicate_succ]; simp [dv, ih]
/-- What is true of the row between two rounds, and within one. -/
structure MO (a b o : List Nat) (i : Nat) : Prop where
  len : o.length = a.length + b.length
  dg : Dg o
  sum : dv o = dv (a.take i) * dv b
  zero : ∀ j, (h : j < o.length) → i + b.length ≤ j → o[j] = 0
structure MI (a b o : List Nat) (i k c : Nat) (x : Nat) : Prop where
  len : o.length = a.length + b.length
  dg : Dg o
  sum : dv o + 1000000 ^ (i + k) * c = dv (a.take i) * dv b + 1000000 ^ i * (x * dv (b.take k))
  zero : ∀ j, (h : j < o.length) → i + b.length ≤ j → o[j] = 0
theorem mi_start {a b o : List Nat} {i x : Nat} (h : MO a b o i) : MI a b o i 0 0 x := ⟨h.len, h.dg, by rw [h.sum]; simp [dv], h.zero⟩
theorem mi_step {a b o : List Nat} {i k c x y : Nat} (h : MI a b o i k c x) (hk : k < b.length) (hy : b[k] = y) (hj : i + k < o.length) : MI a b (o.set (i + k) ((c + o[i + k] + x * y) % 1000000)) i (k + 1) ((c + o[i + k] + x * y) / 1000000) x := by
  refine ⟨by simpa using h.len, dg_set h.dg (Nat.mod_lt _ (by decide)), ?_, ?_⟩
  · have e1 := dv_set (l := o) (j := i + k) (d := (c + o[i + k] + x * y) % 1000000) hj
    have e2 := h.sum
    have e3 : dv (b.take (k + 1)) = dv (b.take k) + 1000000 ^ k * y := by
      rw [take_dv]; congr 2; simp [List.getD, hk, hy]
    rw [e3, Nat.mul_add, Nat.mul_add]
    have e4 : 1000000 ^ i * (x * (1000000 ^ k * y)) = 1000000 ^ (i + k) * (x * y) := by
      rw [Nat.pow_add, Nat.mul_left_comm x, ← Nat.mul_assoc (1000000 ^ i)]
    rw [e4]
    generalize o[i + k] = z at *
    have e5 : 1000000 ^ (i + k) * ((c + z + x * y) % 1000000) + 1000000 ^ (i + (k + 1)) * ((c + z + x * y) / 1000000) = 1000000 ^ (i + k) * (c + z + x * y) := by
      rw [← Nat.add_assoc, Nat.pow_succ, Nat.mul_assoc, ← Nat.mul_add]; congr 1; omega
    rw [Nat.mul_add, Nat.mul_add] at e5
    omega
  · intro j hj' hjb
    have hjo : j < o.length := by simpa using hj'
    rw [List.getElem_set_ne (by omega)]
    exact h.zero j hjo hjb
theorem mi_end {a b o : List Nat} {i c x : Nat} (h : MI a b o i b.length c x) (hi : i < a.length) (hx : a[i] = x) (hc : c < 1000000) (hj : i + b.length < o.length) : MO a b (o.set (i + b.length) c) (i + 1) := by
  refine ⟨by simpa using h.len, dg_set h.dg hc, ?_, ?_⟩
  · have e1 := dv_set (l := o) (j := i + b.length) (d := c) hj
    have e2 := h.sum
    rw [h.zero _ hj (Nat.le_refl _)] at e1
    rw [List.take_of_length_le (Nat.le_refl _)] at e2
    have e3 : dv (a.take (i + 1)) = dv (a.take i) + 1000000 ^ i * x := by
      rw [take_dv]; congr 2; simp [List.getD, hi, hx]
    rw [e3, Nat.add_mul, Nat.mul_assoc]
    omega
  · intro j hj' hjb
    have hjo : j < o.length := by simpa using hj'
    rw [List.getElem_set_ne (by omega)]
    exact h.zero j hjo (by omega)
theorem mul_le_p {x y : Nat} (hx : x < 1000000) (hy : y < 1000000) : x * y ≤ 999998000001 := by
  have : x * y ≤ 999999 * 999999 := Nat.mul_le_mul (by omega) (by omega)
  omega
end Go.Proofs.YtecmkjefoppbiaaDoor
