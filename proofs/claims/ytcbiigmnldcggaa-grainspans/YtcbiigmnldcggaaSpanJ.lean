/-
  What the ends of two spans give: grain.endsOf.
-/
import Derived.Test.YtcbiigmnldcggaaSpanT
namespace Go.Proofs.Ytcbiigmnldcggaa
open Go.RowKit FB
attribute [local go_sem] run_store_float

/-- What the ends give; none where it can't be done. -/
def ends (h : Int) (a b c d : Nat) : Option (List Nat) :=
  if h = 43 then some [FA a c, FA b d]
  else if h = 45 then some [FS a d, FS b c]
  else if h = 42 then some [FM a c, FM a d, FM b c, FM b d]
  else if h = 47 then (if key c ≤ 0 ∧ 0 ≤ key d then none else some [FD a c, FD a d, FD b c, FD b d])
  else none
theorem fa_ok {x y : Nat} (hx : Num x) (hy : Num y) : Ieee.double.add x y = some (FA x y) ∧ NN (FA x y) := by
  obtain ⟨r, h, n⟩ := add_nn hx hy
  have : FA x y = r := by unfold FA; rw [h]; rfl
  rw [this]; exact ⟨h, n⟩
theorem fs_ok {x y : Nat} (hx : Num x) (hy : Num y) : Ieee.double.sub x y = some (FS x y) ∧ NN (FS x y) := by
  obtain ⟨r, h, n⟩ := sub_nn hx hy
  have : FS x y = r := by unfold FS; rw [h]; rfl
  rw [this]; exact ⟨h, n⟩
theorem fm_ok {x y : Nat} (hx : Num x) (hy : Num y) : Ieee.double.mul x y = some (FM x y) ∧ NN (FM x y) := by
  obtain ⟨r, h, n⟩ := mul_nn hx hy
  have : FM x y = r := by unfold FM; rw [h]; rfl
  rw [this]; exact ⟨h, n⟩
theorem fd_ok {x y : Nat} (hx : Num x) (hy : Num y) (h0 : key y ≠ 0) : Ieee.double.div x y = some (FD x y) ∧ NN (FD x y) := by
  obtain ⟨r, h, n⟩ := div_nn hx hy h0
  have : FD x y = r := by unfold FD; rw [h]; rfl
  rw [this]; exact ⟨h, n⟩
theorem sp_num {a b : Nat} (h : spB a b = true) : Num a ∧ Num b ∧ key a ≤ key b := by
  unfold spB at h
  simp only [Bool.and_eq_true, decide_eq_true_eq] at h
  exact ⟨finV_num.1 h.1.1, finV_num.1 h.1.2, h.2⟩
theorem ends_nn {h : Int} {a b c d : Nat} {l : List Nat} (h1 : spB a b = true) (h2 : spB c d = true) (he : ends h a b c d = some l) : (∀ x ∈ l, NN x) ∧ 0 < l.length ∧ l.length ≤ 4 := by
  obtain ⟨na, nb, _⟩ := sp_num h1
  obtain ⟨nc, nd, hcd⟩ := sp_num h2
  unfold ends at he
  split at he
  · injection he with he; subst he
    simp [(fa_ok na nc).2, (fa_ok nb nd).2]
  · split at he
    · injection he with he; subst he
      simp [(fs_ok na nd).2, (fs_ok nb nc).2]
    · split at he
      · injection he with he; subst he
        simp [(fm_ok na nc).2, (fm_ok na nd).2, (fm_ok nb nc).2, (fm_ok nb nd).2]
      · split at he
        · split at he
          · cases he
          · rename_i hz
            injection he with he; subst he
            have c0 : key c ≠ 0 := by omega
            have d0 : key d ≠ 0 := by omega
            simp [(fd_ok na nc c0).2, (fd_ok na nd d0).2, (fd_ok nb nc c0).2, (fd_ok nb nd d0).2]
        · cases he

/-- A new row of these words. -/
def Rowed (w w' : World) (e : Ending) (l : List Nat) : Prop := ∃ b, w.heap.size ≤ b ∧ b < w'.heap.size ∧ Lies w' b l ∧ e = .returned (.slice (some ⟨b, 0, none⟩) l.length l.length)
theorem lies2 {w : World} {b p q : Nat} (h : w.cell? ⟨b, 0, none⟩ = some (.float .f64 p) ∧ w.cell? ⟨b, 1, none⟩ = some (.float .f64 q)) : Lies w b [p, q] := by
  intro i hi
  rcases i with _ | _ | i
  · exact h.1
  · exact h.2
  · exfalso; simp at hi; omega
theorem lies4 {w : World} {b p q r s : Nat} (h : w.cell? ⟨b, 0, none⟩ = some (.float .f64 p) ∧ w.cell? ⟨b, 1, none⟩ = some (.float .f64 q) ∧ w.cell? ⟨b, 2, none⟩ = some (.float .f64 r) ∧ w.cell? ⟨b, 3, none⟩ = some (.float .f64 s)) : Lies w b [p, q, r, s] := by
  intro i hi
  rcases i with _ | _ | _ | _ | i
  · exact h.1
  · exact h.2.1
  · exact h.2.2.1
  · exact h.2.2.2
  · exfalso; simp at hi; omega
set_option maxHeartbeats 1000000 in
theorem ends_add (a b c d p q : Nat) (hp : Ieee.double.add a c = some p) (hq : Ieee.double.add b d = some q) (w : World) : Calls Try.prog 18 #[.agg #[.float .f64 a, .float .f64 b], .agg #[.float .f64 c, .float .f64 d], .int .u8 43] w fun e w' => Rowed w w' e [p, q] ∧ Below w.heap.size w w' := by
  have h1 := fun w => hadd hp w
  have h2 := fun w => hadd hq w
  clear hp hq
  go_enter Try.func18, Try.ntmps18
  go_wp2
  go_ret
  exact ⟨⟨w.heap.size + 2, by omega, by simp, lies2 (by simp [go_sem]), rfl⟩, (((Below.refl _ _).alloc (Nat.le_refl _) _).alloc (by simp) _).alloc (by simp; omega) _⟩
set_option maxHeartbeats 1000000 in
theorem ends_sub (a b c d p q : Nat) (hp : Ieee.double.sub a d = some p) (hq : Ieee.double.sub b c = some q) (w : World) : Calls Try.prog 18 #[.agg #[.float .f64 a, .float .f64 b], .agg #[.float .f64 c, .float .f64 d], .int .u8 45] w fun e w' => Rowed w w' e [p, q] ∧ Below w.heap.size w w' := by
  have h1 := fun w => hsub hp w
  have h2 := fun w => hsub hq w
  clear hp hq
  go_enter Try.func18, Try.ntmps18
  go_wp2
  go_ret
  exact ⟨⟨w.heap.size + 2, by omega, by simp, lies2 (by simp [go_sem]), rfl⟩, (((Below.refl _ _).alloc (Nat.le_refl _) _).alloc (by simp) _).alloc (by simp; omega) _⟩
set_option maxHeartbeats 1000000 in
theorem ends_mul (a b c d p q r s : Nat) (hp : Ieee.double.mul a c = some p) (hq : Ieee.double.mul a d = some q) (hr : Ieee.double.mul b c = some r) (hs : Ieee.double.mul b d = some s) (w : World) : Calls Try.prog 18 #[.agg #[.float .f64 a, .float .f64 b], .agg #[.float .f64 c, .float .f64 d], .int .u8 42] w fun e w' => Rowed w w' e [p, q, r, s] ∧ Below w.heap.size w w' := by
  have h1 := fun w => hmul hp w
  have h2 := fun w => hmul hq w
  have h3 := fun w => hmul hr w
  have h4 := fun w => hmul hs w
  clear hp hq hr hs
  go_enter Try.func18, Try.ntmps18
  go_wp2
  go_ret
  exact ⟨⟨w.heap.size + 2, by omega, by simp, lies4 (by simp [go_sem]), rfl⟩, (((Below.refl _ _).alloc (Nat.le_refl _) _).alloc (by simp) _).alloc (by simp; omega) _⟩
set_option maxHeartbeats 1000000 in
theorem ends_quo (a b c d p q r s : Nat) (hc : W64 c) (hd : W64 d) (hz : (spB c d && leB c 0 && leB 0 d) = false) (hp : Ieee.double.div a c = some p) (hq : Ieee.double.div a d = some q) (hr : Ieee.double.div b c = some r) (hs : Ieee.double.div b d = some s) (w : World) : Calls Try.prog 18 #[.agg #[.float .f64 a, .float .f64 b], .agg #[.float .f64 c, .float .f64 d], .int .u8 47] w fun e w' => Rowed w w' e [p, q, r, s] ∧ Below w.heap.size w w' := by
  have h1 := fun w => hquo hp w
  have h2 := fun w => hquo hq w
  have h3 := fun w => hquo hr w
  have h4 := fun w => hquo hs w
  have HH := hid (fun w => has_any c d 0 hc hd w)
  rw [hz] at HH
  clear hp hq hr hs hz
  go_enter Try.func18, Try.ntmps18
  go_wp2_with fail
  refine (HH.out _).mono ?_
  rintro e w1 ⟨rfl, hB⟩
  obtain ⟨hc', hf⟩ := bcell hB
  go_wp2
  go_ret
  have hz := hB.size
  simp at hz
  exact ⟨⟨w1.heap.size, by omega, by simp, lies4 (by simp [go_sem]), rfl⟩, (bt (((Below.refl _ _).alloc (Nat.le_refl _) _).alloc (by simp) _) hB).alloc (by omega) _⟩
theorem ends_quo_no (a b c d : Nat) (hc : W64 c) (hd : W64 d) (hz : (spB c d && leB c 0 && leB 0 d) = true) (w : World) : Calls Try.prog 18 #[.agg #[.float .f64 a, .float .f64 b], .agg #[.float .f64 c, .float .f64 d], .int .u8 47] w fun e w' => e = .returned (.slice none 0 0) ∧ Below w.heap.size w w' := by
  have HH := hid (fun w => has_any c d 0 hc hd w)
  rw [hz] at HH
  clear hz
  go_enter Try.func18, Try.ntmps18
  go_wp2_with fail
  refine (HH.out _).mono ?_
  rintro e w1 ⟨rfl, hB⟩
  obtain ⟨hc', hf⟩ := bcell hB
  go_wp2
  go_ret
  exact ⟨rfl, bt (((Below.refl _ _).alloc (Nat.le_refl _) _).alloc (by simp) _) hB⟩
theorem ends_other (h : Int) (a b c d : Nat) (h1 : ¬ h = 43) (h2 : ¬ h = 45) (h3 : ¬ h = 42) (h4 : ¬ h = 47) (w : World) : Calls Try.prog 18 #[.agg #[.float .f64 a, .float .f64 b], .agg #[.float .f64 c, .float .f64 d], .int .u8 h] w fun e w' => e = .returned (.slice none 0 0) ∧ Below w.heap.size w w' := by
  go_enter Try.func18, Try.ntmps18
  go_wp2
  go_ret
  exact ⟨rfl, (((Below.refl _ _).alloc (Nat.le_refl _) _).alloc (by simp) _)⟩

theorem hz_of {c d : Nat} (h : spB c d = true) (hc : W64 c) (hd : W64 d) : (spB c d && leB c 0 && leB 0 d) = decide (key c ≤ 0 ∧ 0 ≤ key d) := by
  obtain ⟨nc, nd, _⟩ := sp_num h
  have e1 := k_leq (num_nn hc nc).1 nn_zero.1
  have e2 := k_leq nn_zero.1 (num_nn hd nd).1
  unfold leB
  rw [h, e1, e2, nn_zero.2]
  by_cases c1 : key c ≤ 0 <;> by_cases c2 : 0 ≤ key d <;> simp [c1, c2]
theorem ends_some (h : Int) (a b c d : Nat) (l : List Nat) (hc : W64 c) (hd : W64 d) (h1 : spB a b = true) (h2 : spB c d = true) (he : ends h a b c d = some l) (w : World) : Calls Try.prog 18 #[.agg #[.float .f64 a, .float .f64 b], .agg #[.float .f64 c, .float .f64 d], .int .u8 h] w fun e w' => Rowed w w' e l ∧ Below w.heap.size w w' := by
  have hz := hz_of h2 hc hd
  obtain ⟨na, nb, _⟩ := sp_num h1
  obtain ⟨nc, nd, hcd⟩ := sp_num h2
  unfold ends at he
  split at he
  · rename_i hh; subst hh; injection he with he; subst he
    exact ends_add _ _ _ _ _ _ (fa_ok na nc).1 (fa_ok nb nd).1 w
  · split at he
    · rename_i hh; subst hh; injection he with he; subst he
      exact ends_sub _ _ _ _ _ _ (fs_ok na nd).1 (fs_ok nb nc).1 w
    · split at he
      · rename_i hh; subst hh; injection he with he; subst he
        exact ends_mul _ _ _ _ _ _ _ _ (fm_ok na nc).1 (fm_ok na nd).1 (fm_ok nb nc).1 (fm_ok nb nd).1 w
      · split at he
        · rename_i hh; subst hh
          split at he
          · cases he
          · rename_i hk
            injection he with he; subst he
            have c0 : key c ≠ 0 := by omega
            have d0 : key d ≠ 0 := by omega
            rw [decide_eq_false hk] at hz
            exact ends_quo _ _ _ _ _ _ _ _ hc hd hz (fd_ok na nc c0).1 (fd_ok na nd d0).1 (fd_ok nb nc c0).1 (fd_ok nb nd d0).1 w
        · cases he
theorem ends_none (h : Int) (a b c d : Nat) (hc : W64 c) (hd : W64 d) (h2 : spB c d = true) (he : ends h a b c d = none) (w : World) : Calls Try.prog 18 #[.agg #[.float .f64 a, .float .f64 b], .agg #[.float .f64 c, .float .f64 d], .int .u8 h] w fun e w' => e = .returned (.slice none 0 0) ∧ Below w.heap.size w w' := by
  have hz := hz_of h2 hc hd
  unfold ends at he
  split at he
  · cases he
  · split at he
    · cases he
    · split at he
      · cases he
      · split at he
        · rename_i hh; subst hh
          split at he
          · rename_i hk
            rw [decide_eq_true hk] at hz
            exact ends_quo_no _ _ _ _ hc hd hz w
          · cases he
        · exact ends_other h a b c d (by assumption) (by assumption) (by assumption) (by assumption) w
end Go.Proofs.Ytcbiigmnldcggaa
