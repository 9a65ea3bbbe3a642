/-
  sight.Stops: its fractions, pure; what lies in memory.
-/
import Derived.Test.YtpdiefmmenfpaaaDoorQSsF
import Derived.Test.YtpdiefmmenfpaaaDoorQSiH
import Derived.RangeFuncBox
import Derived.OwnWalkIn
import Derived.Maps.AppendAt
namespace Go.Proofs.YtpdiefmmenfpaaaDoor
open Go.RowKit Go.Shelf

/-- A stop's part of the way, in its lowest terms. -/
def lowP (p : Nat × Nat) : Int × Int := (ndN ((p.1 : Int), p.2), ndD ((p.1 : Int), p.2))
theorem low_rf {p : Nat × Nat} (h : 1 ≤ p.1 ∧ p.1 < p.2 ∧ p.2 ≤ 254) : 1 ≤ (lowP p).1 ∧ (lowP p).1 < (lowP p).2 ∧ (lowP p).2 ≤ 254 ∧ Int.gcd (lowP p).1 (lowP p).2 = 1 := by
  obtain ⟨k, n⟩ := p
  simp only at h
  unfold lowP ndN ndD rn rd
  simp only [Int.natAbs_natCast]
  have hg : 0 < Nat.gcd k n := Nat.gcd_pos_of_pos_left _ (by omega)
  have hco : Nat.gcd (k / Nat.gcd k n) (n / Nat.gcd k n) = 1 := Nat.gcd_div_gcd_div_gcd_of_pos_left (by omega)
  obtain ⟨a, ha⟩ := Nat.gcd_dvd_left k n
  obtain ⟨c, hc⟩ := Nat.gcd_dvd_right k n
  generalize Nat.gcd k n = g at *
  have e1 : k / g = a := by rw [ha]; exact Nat.mul_div_cancel_left _ hg
  have e2 : n / g = c := by rw [hc]; exact Nat.mul_div_cancel_left _ hg
  rw [e1, e2] at hco ⊢
  have hac : a < c := by
    refine Nat.lt_of_mul_lt_mul_left (a := g) ?_
    omega
  have ha0 : a ≠ 0 := fun e => by rw [e] at ha; omega
  have hcn : c ≤ n := by rw [hc]; exact Nat.le_mul_of_pos_left c hg
  exact ⟨by omega, by omega, by omega, by rw [Int.gcd_natCast_natCast]; exact hco⟩
/-- A stop's part as one that is sorted. -/
def rfP (p : Nat × Nat) : RF := if h : 1 ≤ p.1 ∧ p.1 < p.2 ∧ p.2 ≤ 254 then ⟨lowP p, low_rf h⟩ else default
theorem rfP_val {p : Nat × Nat} (h : 1 ≤ p.1 ∧ p.1 < p.2 ∧ p.2 ≤ 254) : (rfP p).1 = lowP p := by unfold rfP; rw [dif_pos h]
/-- The fractions of the stops, sorted, each once. -/
def stF (ps : List (Nat × Nat)) : List (Int × Int) := dfK (fsAt (srt (ps.map rfP))) ps.length
def fr (L : List RF) : List Value := L.flatMap encF
theorem fr_snoc (L : List RF) (x : RF) : fr L ++ encF x = fr (L ++ [x]) := by simp [fr]
theorem fr_get : ∀ (q : List RF) (k : Nat) (_hk : k < q.length) (j : Nat), j < 2 → (fr q)[k * 2 + j]? = (encF (q.getD k default))[j]?
  | s :: q, 0, _, j, hj => by
    match j, hj with
    | 0, _ => rfl
    | 1, _ => rfl
  | s :: q, k + 1, hk, j, hj => by
    have ih := fr_get q k (by simp at hk; omega) j hj
    rw [show (k + 1) * 2 + j = (k * 2 + j) + 2 by omega]
    exact ih
theorem infoF : (Tryd.prog.info? 28).map (fun i => (i.zero, i.size, i.bytes)) = some (some (.agg #[.int .i64 0, .int .i64 0]), 2, 16) := by kernel_rfl
theorem own_fb {W : World} {base g cap : Nat} {L : List RF} (h : W.ownsRow base 28 2 (.slice (some ⟨g, 0, none⟩) L.length cap) L.length (fr L)) : FB2 W g L.length (fsAt L) := by
  refine ⟨fun i hi => ⟨⟨?_, ?_⟩, h.frozenAt _, h.frozenAt _⟩, (h.lt g rfl).2⟩
  · rw [h.cellAt (i * 2) (by omega)]
    exact fr_get L i hi 0 (by omega)
  · rw [h.cellAt (i * 2 + 1) (by omega)]
    exact fr_get L i hi 1 (by omega)
theorem boxed_below {W W' : World} {B t : Nat} {v : Value} (h : Boxed W B t v) (hB : Below W.heap.size W W') : Boxed W' B t v := (hB.block B h.lt).trans h
theorem own_belowF {W w' : World} {base e : Nat} {v : Value} {n : Nat} {xs : List Value} (hB : Below W.heap.size W w') (h : W.ownsRow base e 2 v n xs) : w'.ownsRow base e 2 v n xs :=
  h.kept (row := none) ⟨hB.os, hB.tape, hB.output, hB.size, fun i hi _ => hB.block i hi⟩ (by
    cases v.ownBlock with
    | none => exact .inl rfl
    | some _ => exact .inr (by simp))
end Go.Proofs.YtpdiefmmenfpaaaDoor
