/-
  What a pool holds: cells that are joined by cells not above a height; how much fits up to there. No Go text of its own.; A pool, as far as it has been looked at: no Go text of its own.
-/
import Derived.Test.YtddnebgnohlchaaGreatDoorQJ13
namespace Go.Proofs.YtddnebgnohlchaaGreatDoor
open Go.RowKit

/-- How much fits on these cells up to a height. -/
def vol (l : List Int) (h : Int) (S : List Nat) : Int := (S.map fun k => h - gl l k).sum
theorem vol_nil (l : List Int) (h : Int) : vol l h [] = 0 := rfl
theorem vol_cons (l : List Int) (h : Int) (k : Nat) (S : List Nat) : vol l h (k :: S) = (h - gl l k) + vol l h S := by simp [vol]
theorem vol_snoc (l : List Int) (h : Int) (k : Nat) (S : List Nat) : vol l h (S ++ [k]) = vol l h S + (h - gl l k) := by
  induction S with
  | nil => simp [vol]
  | cons a S ih => rw [List.cons_append, vol_cons, vol_cons, ih]; omega
theorem vol_perm {l : List Int} {h : Int} {S T : List Nat} (p : S.Perm T) : vol l h S = vol l h T := by
  induction p with
  | nil => rfl
  | cons x _ ih => rw [vol_cons, vol_cons, ih]
  | swap x y l => rw [vol_cons, vol_cons, vol_cons, vol_cons]; omega
  | trans _ _ i1 i2 => exact i1.trans i2
theorem vol_nn {l : List Int} {h : Int} : ∀ {S : List Nat}, (∀ k ∈ S, gl l k ≤ h) → 0 ≤ vol l h S
  | [], _ => by simp [vol]
  | k :: S, hS => by
    rw [vol_cons]
    have := hS k (by simp)
    have := vol_nn (l := l) (h := h) (S := S) (fun x hx => hS x (by simp [hx]))
    omega
theorem vol_up {l : List Int} {h h' : Int} (hh : h ≤ h') : ∀ (S : List Nat), vol l h S ≤ vol l h' S
  | [] => by simp [vol]
  | k :: S => by
    rw [vol_cons, vol_cons]
    have := vol_up (l := l) hh S
    omega
/-- No list of different ones of these cells holds more. -/
theorem vol_sub {l : List Int} {h : Int} : ∀ {S T : List Nat}, S.Nodup → (∀ k ∈ S, k ∈ T) → (∀ k ∈ T, gl l k ≤ h) → vol l h S ≤ vol l h T
  | [], T, _, _, hT => by rw [vol_nil]; exact vol_nn hT
  | a :: S, T, hd, hs, hT => by
    have ha := hs a (by simp)
    have hp := List.perm_cons_erase ha
    rw [vol_perm hp, vol_cons, vol_cons]
    obtain ⟨h1, h2⟩ := List.nodup_cons.1 hd
    have := vol_sub (l := l) (h := h) (S := S) (T := T.erase a) h2 (fun k hk => (List.mem_erase_of_ne (fun e => h1 (by rw [← e]; exact hk))).2 (hs k (by simp [hk]))) (fun k hk => hT k (List.mem_of_mem_erase hk))
    omega
section
variable (m n : Nat) (l : List Int)
/-- The water does not rise above a height: it gets out, or there is room for all of it up to there. -/
def Stp (c : Nat) (water h : Int) : Prop := (∃ r, Rch m l h c r ∧ rim m n r) ∨ ∃ S : List Nat, S.Nodup ∧ (∀ k ∈ S, Rch m l h c k) ∧ water ≤ vol l h S
variable {m n l}
theorem Rch.mono {h h' : Int} {c k : Nat} (hh : h ≤ h') (r : Rch m l h c k) : Rch m l h' c k := by
  induction r with
  | here a b => exact .here (by omega) b
  | on _ a b d ih => exact .on ih a (by omega) d
theorem Rch.le {h : Int} {c k : Nat} (r : Rch m l h c k) : gl l k ≤ h ∧ k < l.length := by
  cases r with
  | here a b => exact ⟨a, b⟩
  | on _ a b _ => exact ⟨b, a⟩
theorem Rch.base {h : Int} {c k : Nat} (r : Rch m l h c k) : gl l c ≤ h ∧ c < l.length := by
  induction r with
  | here a b => exact ⟨a, b⟩
  | on _ _ _ _ ih => exact ih
theorem Stp.mono {c : Nat} {water h h' : Int} (hh : h ≤ h') (s : Stp m n l c water h) : Stp m n l c water h' := by
  rcases s with ⟨r, h1, h2⟩ | ⟨S, h1, h2, h3⟩
  · exact .inl ⟨r, h1.mono hh, h2⟩
  · exact .inr ⟨S, h1, fun k hk => (h2 k hk).mono hh, Int.le_trans h3 (vol_up hh S)⟩
/-- All cells that are joined, each once. -/
structure Pool (m n : Nat) (l : List Int) (c : Nat) (water h : Int) (S : List Nat) : Prop where
  nd : S.Nodup
  all : ∀ k, k ∈ S ↔ Rch m l h c k
  rim : ∀ k ∈ S, ¬ rim m n k
  low : vol l h S < water
theorem Pool.not {c : Nat} {water h : Int} {S : List Nat} (p : Pool m n l c water h S) : ¬ Stp m n l c water h := by
  rintro (⟨r, h1, h2⟩ | ⟨T, h1, h2, h3⟩)
  · exact p.rim r ((p.all r).2 h1) h2
  · have := vol_sub (l := l) (h := h) h1 (fun k hk => (p.all k).2 (h2 k hk)) (fun k hk => ((p.all k).1 hk).le.1)
    have := p.low
    omega
/-- Where no cell is above the height, the rim is reached. -/
theorem stp_top {c : Nat} {h : Int} (hm : 1 ≤ m) (hl : l.length = m * n) (hh : ∀ k, gl l k ≤ h) (hc : c < l.length) (water : Int) : Stp m n l c water h := by
  suffices H : ∀ x k, k % m = x → Rch m l h c k → ∃ r, Rch m l h c r ∧ rim m n r from .inl (H _ c rfl (.here (hh c) hc))
  intro x
  induction x with
  | zero =>
    intro k hk hr
    exact ⟨k, hr, .inl hk⟩
  | succ x ih =>
    intro k hk hr
    have hkl := hr.le.2
    have hd := Nat.div_add_mod k m
    have h1 : (k - 1) % m = x ∧ (k - 1) / m = k / m := by
      have hx : x < m := by have := Nat.mod_lt k (show 0 < m by omega); omega
      have : k - 1 = m * (k / m) + x := by omega
      rw [this]
      exact ⟨by rw [Nat.mul_add_mod, Nat.mod_eq_of_lt hx], by rw [Nat.mul_add_div (by omega), Nat.div_eq_of_lt hx, Nat.add_zero]⟩
    refine ih (k - 1) h1.1 (.on hr (by omega) (hh _) ⟨by omega, ?_, ?_⟩)
    · rw [hk, h1.1]; omega
    · rw [h1.2]; omega
end
end Go.Proofs.YtddnebgnohlchaaGreatDoor
namespace Go.Proofs.YtddnebgnohlchaaGreatDoor
open Go.RowKit

/-- The i-th one of the cells. -/
def ox (O : List Nat) (i : Nat) : Nat := O.getD i 0
theorem ox_mem {O : List Nat} {i : Nat} (h : i < O.length) : ox O i ∈ O := by unfold ox; simp [h]
theorem ox_app {O : List Nat} {i : Nat} (h : i < O.length) (y : Nat) : ox (O ++ [y]) i = ox O i := by unfold ox; simp [List.getElem?_append_left h]
theorem ox_of {O : List Nat} {x : Nat} (h : x ∈ O) : ∃ i, i < O.length ∧ ox O i = x := by
  obtain ⟨i, hi, e⟩ := List.getElem_of_mem h
  exact ⟨i, hi, by unfold ox; simp [hi, e]⟩
theorem take_ox {O : List Nat} {i : Nat} (h : i < O.length) : O.take (i + 1) = O.take i ++ [ox O i] := by
  rw [List.take_succ_eq_append_getElem h]; unfold ox; simp [h]
section
variable {m n : Nat} {l : List Int} {c : Nat} {h : Int} {k j : Nat} {O : List Nat}
/-- So far k cells were looked at, and of the next one j directions. -/
structure PI (m n : Nat) (l : List Int) (c : Nat) (h : Int) (k j : Nat) (O : List Nat) : Prop where
  nd : O.Nodup
  ok : ∀ x ∈ O, Rch m l h c x
  base : c ∈ O
  done : ∀ i d, i < O.length → d < 8 → (i < k ∨ i = k ∧ d < j) → ∃ y, nbO m n (ox O i) d = some y ∧ (gl l y ≤ h → y ∈ O)
theorem PI.start (h1 : gl l c ≤ h) (h2 : c < l.length) : PI m n l c h 0 0 [c] :=
  ⟨by simp, fun x hx => by rw [List.mem_singleton.1 hx]; exact .here h1 h2, by simp, fun i d hi hd hh => by omega⟩
theorem PI.lt (p : PI m n l c h k j O) : ∀ x ∈ O, x < l.length := fun x hx => (p.ok x hx).le.2
theorem PI.len (p : PI m n l c h k j O) : 1 ≤ O.length ∧ O.length ≤ l.length := ⟨List.length_pos_of_mem p.base, nodup_len p.nd p.lt⟩
theorem PI.next (p : PI m n l c h k 8 O) : PI m n l c h (k + 1) 0 O :=
  ⟨p.nd, p.ok, p.base, fun i d hi hd hh => p.done i d hi hd (by omega)⟩
theorem PI.same (p : PI m n l c h k j O) {y : Nat} (hn : nbO m n (ox O k) j = some y) (hy : gl l y ≤ h → y ∈ O) : PI m n l c h k (j + 1) O :=
  ⟨p.nd, p.ok, p.base, fun i d hi hd hh => by
    by_cases e : i = k ∧ d = j
    · rw [e.1, e.2]; exact ⟨y, hn, hy⟩
    · exact p.done i d hi hd (by omega)⟩
theorem PI.more (p : PI m n l c h k j O) (hl : l.length = m * n) (hk : k < O.length) (hj : j < 8) {y : Nat} (hn : nbO m n (ox O k) j = some y) (hy : gl l y ≤ h) (hno : ¬ y ∈ O) : PI m n l c h k (j + 1) (O ++ [y]) := by
  have ht := nb_tch hj hn
  refine ⟨List.nodup_append.2 ⟨p.nd, by simp, fun a ha b hb e => hno ?_⟩, fun x hx => ?_, List.mem_append.2 (.inl p.base), fun i d hi hd hh => ?_⟩
  · rw [List.mem_singleton.1 hb] at e; rw [← e]; exact ha
  · rcases List.mem_append.1 hx with hx | hx
    · exact p.ok x hx
    · rw [List.mem_singleton.1 hx]
      exact .on (p.ok _ (ox_mem hk)) (by rw [hl]; exact ht.2.1) hy (tch_symm ht.1)
  · have hiO : i < O.length := by omega
    rw [ox_app hiO]
    by_cases e : i = k ∧ d = j
    · rw [e.1, e.2]; exact ⟨y, hn, fun _ => by simp⟩
    · obtain ⟨z, hz, hm⟩ := p.done i d hiO hd (by omega)
      exact ⟨z, hz, fun hle => List.mem_append.2 (.inl (hm hle))⟩
theorem PI.fin (p : PI m n l c h O.length 0 O) (hm : 1 ≤ m) (hl : l.length = m * n) {water : Int} (hw : vol l h O < water) : Pool m n l c water h O := by
  refine ⟨p.nd, fun x => ⟨p.ok x, fun hx => ?_⟩, fun x hx hr => ?_, hw⟩
  · induction hx with
    | here _ _ => exact p.base
    | @on a b _ hb hh ht ih =>
      obtain ⟨i, hi, e⟩ := ox_of ih
      obtain ⟨h1, h2⟩ := tch_nb (n := n) hm (tch_symm ht) (by omega)
      obtain ⟨y, hy, hin⟩ := p.done i _ hi h1 (.inl hi)
      rw [e, h2] at hy
      have e2 := Option.some.inj hy
      rw [← e2] at hin
      exact hin hh
  · obtain ⟨i, hi, e⟩ := ox_of hx
    obtain ⟨d, hd, hn⟩ := (rim_iff (by have := p.lt x hx; omega)).1 hr
    obtain ⟨y, hy, -⟩ := p.done i d hi hd (.inl hi)
    rw [e, hn] at hy
    cases hy
theorem PI.out (p : PI m n l c h k j O) (hl : l.length = m * n) (hk : k < O.length) (hj : j < 8) (hn : nbO m n (ox O k) j = none) (water : Int) : Stp m n l c water h :=
  .inl ⟨_, p.ok _ (ox_mem hk), (rim_iff (by have := p.lt _ (ox_mem hk); omega)).2 ⟨j, hj, hn⟩⟩
theorem PI.full (p : PI m n l c h k j O) {water : Int} {i : Nat} (hw : water ≤ vol l h (O.take i)) : Stp m n l c water h :=
  .inr ⟨O.take i, p.nd.sublist (List.take_sublist _ _), fun x hx => p.ok x (List.mem_of_mem_take hx), hw⟩
end
end Go.Proofs.YtddnebgnohlchaaGreatDoor
