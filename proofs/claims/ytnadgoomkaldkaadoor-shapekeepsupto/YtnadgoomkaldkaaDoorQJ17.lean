/-
  The circular order of arrows: one of them is turned, and no other lies on its road.; An arrow out of a node whose piece gives way to the third side of its triangle: which arrows could lie on its road.; A point goes: at each node the ways stand in the same order around.; A point goes: the ways follow each other as before, the rounds are the same.
-/
import Derived.Test.YtnadgoomkaldkaaDoorQJ8
import Derived.Test.YtnadgoomkaldkaaDoorQJ7
import Derived.Test.YtnadgoomkaldkaaDoorQJ6
namespace Go.Proofs.YtnadgoomkaldkaaDoor
open Go.RowKit

theorem xp_flip (a b : Sp) : xp b a = -xp a b := by simp only [xp]; grind
theorem ip_flip (a b : Sp) : ip b a = ip a b := by simp only [ip]; grind
theorem sdr_flip {a b : Sp} (h : sdrP a b) : sdrP b a := ⟨by rw [xp_flip, h.1]; rfl, by rw [ip_flip]; exact h.2⟩
/-- What lies along a: measured against a third arrow. -/
theorem xp_along (a b c : Sp) : ip a a * xp b c = ip a b * xp a c - xp a b * ip a c := by simp only [xp, ip]; grind
/-- Opposite arrows see a third one on opposite sides. -/
theorem xp_opp {a b : Sp} (ha : ¬ a = (0, 0)) (h : xp a b = 0) (hi : ip a b ≤ 0) (c : Sp) : (xp a c < 0 → 0 ≤ xp b c) ∧ (0 < xp a c → xp b c ≤ 0) := by
  have e := xp_along a b c
  rw [h, Int.zero_mul, Int.sub_zero] at e
  have hp := ip_self ha
  constructor
  · intro hc
    have h1 : 0 ≤ ip a b * xp a c := Int.mul_nonneg_of_nonpos_of_nonpos hi (by omega)
    rw [← e] at h1
    exact Int.nonneg_of_mul_nonneg_right (a := ip a a) h1 hp
  · intro hc
    have h1 : ip a b * xp a c ≤ 0 := Int.mul_nonpos_of_nonpos_of_nonneg hi (by omega)
    rw [← e] at h1
    exact Classical.byContradiction fun k => by
      have := Int.mul_pos hp (show 0 < xp b c by omega)
      omega
theorem cy_two {f a b : Sp} (hf : ¬ f = (0, 0)) (ka : ¬ sdrP f a) (h : cyP f a b) (k : cyP a f b) : False := by
  unfold cyP at h k
  rw [xp_flip f a] at k
  have ho := fun (e : xp f a = 0) => xp_opp hf e (by unfold sdrP at ka; omega) b
  by_cases e : xp f a = 0
  · obtain ⟨o1, o2⟩ := ho e
    split at h <;> split at k <;> omega
  · split at h <;> split at k <;> omega
theorem cy_rot {f a b : Sp} (hf : ¬ f = (0, 0)) (ha : ¬ a = (0, 0)) (hb : ¬ b = (0, 0)) (ka : ¬ sdrP f a) (kb : ¬ sdrP f b) (kab : ¬ sdrP a b) (h : cyP f a b) : cyP a b f := by
  rcases cy_tot ha hb hf kab (fun e => ka (sdr_flip e)) (fun e => kb (sdr_flip e)) with k | k
  · exact k
  · exact (cy_two hf ka h k).elim
/-- An arrow that is met between a and a' lies in their narrow angle. -/
theorem cy_in {a a' b : Sp} (ha : ¬ a = (0, 0)) (k1 : ¬ sdrP a b) (h : xp a a' < 0) (hc : cyP a b a') : xp a b < 0 ∧ xp b a' < 0 := by
  unfold cyP at hc
  split at hc
  · by_cases e : xp a b = 0
    · have := (xp_opp ha e (by unfold sdrP at k1; omega) a').1 h
      omega
    · omega
  · omega
theorem sdr_sg {a a' : Sp} (ha : ¬ a = (0, 0)) (h : sdrP a a') (b : Sp) : (0 < xp a' b ↔ 0 < xp a b) ∧ (xp a' b < 0 ↔ xp a b < 0) := by
  obtain ⟨h1, h2⟩ := h
  have e := xp_along a a' b
  rw [h1, Int.zero_mul, Int.sub_zero] at e
  have hp := ip_self ha
  rcases Int.lt_trichotomy (xp a b) 0 with c | c | c
  · have h3 := Int.mul_neg_of_pos_of_neg h2 c
    rcases Int.lt_trichotomy (xp a' b) 0 with d | d | d
    · omega
    · rw [d, Int.mul_zero] at e; omega
    · have := Int.mul_pos hp d; omega
  · rw [c, Int.mul_zero] at e
    rcases Int.lt_trichotomy (xp a' b) 0 with d | d | d
    · have := Int.mul_neg_of_pos_of_neg hp d; omega
    · omega
    · have := Int.mul_pos hp d; omega
  · have h3 := Int.mul_pos h2 c
    rcases Int.lt_trichotomy (xp a' b) 0 with d | d | d
    · have := Int.mul_neg_of_pos_of_neg hp d; omega
    · rw [d, Int.mul_zero] at e; omega
    · omega
theorem cy_par {f a a' b : Sp} (ha : ¬ a = (0, 0)) (h : sdrP a a') (hc : cyP f a b) : cyP f a' b := by
  obtain ⟨s1, s2⟩ := sdr_sg ha h f
  obtain ⟨s3, s4⟩ := sdr_sg ha h b
  have e1 := xp_flip a f
  have e2 := xp_flip a' f
  unfold cyP at hc ⊢
  split at hc <;> split <;> omega
/-- x lies not on the road of an arrow that turns from a to a'. -/
structure ouC (a a' x : Sp) : Prop where
  z : ¬ x = (0, 0)
  s : ¬ sdrP a x
  t : ¬ sdrP a' x
  l : xp a a' < 0 → ¬ (xp a x < 0 ∧ xp x a' < 0)
  r : 0 < xp a a' → ¬ (xp a' x < 0 ∧ xp x a < 0)
theorem ouC.flip {a a' x : Sp} (h : ouC a a' x) : ouC a' a x := ⟨h.z, h.t, h.s, fun e => h.r (by have := xp_flip a a'; omega), fun e => h.l (by have := xp_flip a a'; omega)⟩
/-- Not turned to the opposite. -/
def tuC (a a' : Sp) : Prop := (¬ a = (0, 0) ∧ ¬ a' = (0, 0)) ∧ (sdrP a a' ∨ ¬ xp a a' = 0)
theorem tuC.flip {a a' : Sp} (h : tuC a a') : tuC a' a := ⟨⟨h.1.2, h.1.1⟩, h.2.imp sdr_flip fun e k => e (by rw [xp_flip] at k; omega)⟩
theorem cy_mv {f a a' b : Sp} (h : tuC a a') (hf : ouC a a' f) (hb : ouC a a' b) (kfb : ¬ sdrP f b) (hc : cyP f a b) : cyP f a' b := by
  obtain ⟨⟨za, za'⟩, hd⟩ := h
  by_cases hs : sdrP a a'
  · exact cy_par za hs hc
  have kfa : ¬ sdrP f a := fun e => hf.s (sdr_flip e)
  have kfa' : ¬ sdrP f a' := fun e => hf.t (sdr_flip e)
  have kba : ¬ sdrP b a := fun e => hb.s (sdr_flip e)
  have kba' : ¬ sdrP b a' := fun e => hb.t (sdr_flip e)
  have kbf : ¬ sdrP b f := fun e => kfb (sdr_flip e)
  rcases cy_tot hf.z za' hb.z kfa' kfb hb.t with k | k
  · exact k
  · have r1 := cy_rot hf.z za hb.z kfa kfb hb.s hc
    have r2 := cy_rot za hb.z hf.z hb.s hf.s kbf r1
    have r3 := cy_rot hf.z hb.z za' kfb kfa' kba' k
    have kaa : ¬ sdrP a' a := fun k => hs (sdr_flip k)
    have r4 := cy_trans hb.z za' za kba' kbf kba hf.z r3 r2
    have r5 := cy_rot hb.z za' za kba' kba kaa r4
    have r6 := cy_rot za' za hb.z kaa hb.t hb.s r5
    rcases Int.lt_trichotomy (xp a a') 0 with e | e | e
    · exact (hb.l e (cy_in za hb.s e r6)).elim
    · exact (hd.elim hs fun g => g e).elim
    · have q1 := cy_trans hf.z za za' kfa kfb kfa' hb.z hc k
      have q2 := cy_rot hf.z za za' kfa kfa' hs q1
      have q3 := cy_rot za za' hf.z hs hf.s hf.t q2
      exact (hf.r e (cy_in za' hf.t (by have := xp_flip a a'; omega) q3)).elim
end Go.Proofs.YtnadgoomkaldkaaDoor
namespace Go.Proofs.YtnadgoomkaldkaaDoor
open Go.RowKit

theorem xp_tn (o a b : Sp) : xp (dfS o a) (dfS o b) = tn o a b := by unfold xp dfS tn; grind
theorem mean_le {D v w a b : Int} (hv : 0 ≤ v) (hw : 0 ≤ w) (hs : v + w = D) : D * min a b ≤ v * a + w * b ∧ v * a + w * b ≤ D * max a b := by
  subst hs
  have h1 := Int.mul_le_mul_of_nonneg_left (show min a b ≤ a by omega) hv
  have h2 := Int.mul_le_mul_of_nonneg_left (show min a b ≤ b by omega) hw
  have h3 := Int.mul_le_mul_of_nonneg_left (show a ≤ max a b by omega) hv
  have h4 := Int.mul_le_mul_of_nonneg_left (show b ≤ max a b by omega) hw
  rw [Int.add_mul, Int.add_mul]
  omega
theorem le_of_mul {D x y : Int} (hD : 0 < D) (h : D * x ≤ D * y) : x ≤ y := Int.le_of_mul_le_mul_left h hD
/-- Pieces that cross are near. -/
theorem pt_nr {o s a b : Sp} (h1 : tn a b o < 0) (h2 : 0 < tn a b s) (h3 : 0 < tn o s a) (h4 : tn o s b < 0) : nrP (a, b) (o, s) := by
  have e1 : tn a b s + -tn a b o = tn o s a + -tn o s b := by unfold tn; grind
  have x1 : tn a b s * o.1 + -tn a b o * s.1 = -tn o s b * a.1 + tn o s a * b.1 := by unfold tn; grind
  have x2 : tn a b s * o.2 + -tn a b o * s.2 = -tn o s b * a.2 + tn o s a * b.2 := by unfold tn; grind
  obtain ⟨D, hD⟩ : ∃ D, D = tn a b s + -tn a b o := ⟨_, rfl⟩
  have hD0 : 0 < D := by omega
  have m1 := mean_le (a := o.1) (b := s.1) (show 0 ≤ tn a b s by omega) (show 0 ≤ -tn a b o by omega) hD.symm
  have m2 := mean_le (a := o.2) (b := s.2) (show 0 ≤ tn a b s by omega) (show 0 ≤ -tn a b o by omega) hD.symm
  have m3 := mean_le (a := a.1) (b := b.1) (show 0 ≤ -tn o s b by omega) (show 0 ≤ tn o s a by omega) (show -tn o s b + tn o s a = D by omega)
  have m4 := mean_le (a := a.2) (b := b.2) (show 0 ≤ -tn o s b by omega) (show 0 ≤ tn o s a by omega) (show -tn o s b + tn o s a = D by omega)
  rw [← x1] at m3
  rw [← x2] at m4
  exact ⟨⟨le_of_mul hD0 (Int.le_trans m1.1 m3.2), le_of_mul hD0 (Int.le_trans m3.1 m1.2)⟩, le_of_mul hD0 (Int.le_trans m2.1 m4.2), le_of_mul hD0 (Int.le_trans m4.1 m2.2)⟩
theorem min_rot (x y z : Int) : min (min y z) x = min (min x y) z := by omega
theorem max_rot (x y z : Int) : max (max y z) x = max (max x y) z := by omega
theorem in_rot {a b c s : Sp} : inP b c a s ↔ inP a b c s := by
  unfold inP bxP
  rw [min_rot (tn a b s) (tn b c s) (tn c a s), max_rot (tn a b s) (tn b c s) (tn c a s), min_rot a.1 b.1 c.1, max_rot a.1 b.1 c.1, min_rot a.2 b.2 c.2, max_rot a.2 b.2 c.2]
/-- A piece out of o between a and b, whose other end is not in the triangle, meets a's piece to b. -/
theorem cone_meet {o a b s : Sp} (h1 : xp (dfS o a) (dfS o b) < 0) (h2 : xp (dfS o a) (dfS o s) < 0) (h3 : xp (dfS o s) (dfS o b) < 0) (hn : ¬ inP o a b s) : mtP (a, b) (o, s) := by
  rw [xp_tn] at h1 h2 h3
  have f1 := tn_flip o b s
  have f2 : tn b o s = -tn o b s := tn_flip o b s
  have f3 : tn o b s = -tn o s b := by unfold tn; grind
  have f4 : tn o s a = -tn o a s := by unfold tn; grind
  have f5 : tn a b o = tn o a b := by unfold tn; grind
  have f6 : tn b a o = -tn a b o := tn_flip a b o
  have hp : 0 < tn a b s := by
    refine Classical.byContradiction fun hc => hn ?_
    have hr : inP b a o s := by
      rw [in_pos (show 0 < tn b a o by omega)]
      have g1 := tn_flip a b s
      have g2 := tn_flip o a s
      have g3 := tn_flip b o s
      refine ⟨by omega, by omega, by omega⟩
    exact in_rev.1 hr
  exact ⟨pt_nr (by omega) hp (by omega) (by omega), .inl ⟨.inl ⟨by dsimp only; omega, hp⟩, .inr ⟨by dsimp only; omega, by dsimp only; omega⟩⟩⟩
/-- Two sides of a corner that do not meet: the third side turns the first one, not to its opposite. -/
theorem tu_ok {o a b : Sp} (hoa : ¬ o = a) (_hab : ¬ a = b) (hob : ¬ o = b) (hm : ¬ mtP (o, a) (a, b)) : tuC (dfS o a) (dfS o b) := by
  have na : ¬ dfS o a = (0, 0) := fun e => hoa (by obtain ⟨e1, e2⟩ := Prod.mk.inj e; exact Prod.ext (by omega) (by omega))
  have nb : ¬ dfS o b = (0, 0) := fun e => hob (by obtain ⟨e1, e2⟩ := Prod.mk.inj e; exact Prod.ext (by omega) (by omega))
  refine ⟨⟨na, nb⟩, ?_⟩
  by_cases c : xp (dfS o a) (dfS o b) = 0
  · refine .inl ⟨c, Classical.byContradiction fun hi => hm ?_⟩
    have hne := ip_ne na nb c
    have c2 := c
    rw [xp_tn] at c2
    have e : (a.1 - o.1) * (-(b.2 - o.2)) = (a.2 - o.2) * (-(b.1 - o.1)) := by unfold tn at c2; grind
    have hp : 0 < (a.1 - o.1) * (-(b.1 - o.1)) + (a.2 - o.2) * (-(b.2 - o.2)) := by
      have : (a.1 - o.1) * (-(b.1 - o.1)) + (a.2 - o.2) * (-(b.2 - o.2)) = -ip (dfS o a) (dfS o b) := by unfold ip dfS; grind
      omega
    obtain ⟨q1, q2⟩ := same_sgn e hp
    have sgn : ∀ x y z : Int, 0 ≤ (x - z) * (-(y - z)) → min x y ≤ z ∧ z ≤ max x y := fun x y z h => by
      refine Classical.byContradiction fun k => ?_
      rcases Int.lt_or_le z (min x y) with m | m
      · have := Int.mul_pos (show 0 < x - z by omega) (show 0 < y - z by omega)
        rw [Int.mul_neg] at h; omega
      · have := Int.mul_pos_of_neg_of_neg (show x - z < 0 by omega) (show y - z < 0 by omega)
        rw [Int.mul_neg] at h; omega
    obtain ⟨s1, s2⟩ := sgn _ _ _ q1
    obtain ⟨s3, s4⟩ := sgn _ _ _ q2
    have hz : tn a b o = 0 := by rw [← c2]; unfold tn; grind
    refine ⟨by unfold nrP; dsimp only; omega, .inr (.inr (.inr (.inl ⟨⟨hoa, hob⟩, hz, by unfold nrP; dsimp only; omega⟩)))⟩
  · exact .inr c
theorem in_swap {o a b s : Sp} : inP o b a s ↔ inP o a b s := by rw [← in_rot, in_rev]
theorem out_ok {o a b s : Sp} (hz : ¬ o = s) (hs : ¬ sdrP (dfS o a) (dfS o s)) (ht : ¬ sdrP (dfS o b) (dfS o s)) (hn : s = a ∨ s = b ∨ ¬ inP o a b s) (hm : ¬ mtP (a, b) (o, s)) : ouC (dfS o a) (dfS o b) (dfS o s) := by
  have z0 : ∀ d : Sp, xp d d = 0 := fun d => by unfold xp; grind
  refine ⟨fun e => hz (by obtain ⟨e1, e2⟩ := Prod.mk.inj e; exact Prod.ext (by omega) (by omega)), hs, ht, fun h1 h2 => ?_, fun h1 h2 => ?_⟩
  · rcases hn with rfl | rfl | hn
    · have := z0 (dfS o s); omega
    · have := z0 (dfS o s); omega
    · exact hm (cone_meet h1 h2.1 h2.2 hn)
  · rcases hn with rfl | rfl | hn
    · have := z0 (dfS o s); omega
    · have := z0 (dfS o s); omega
    · exact hm (mt_flip (cone_meet (by have := xp_flip (dfS o a) (dfS o b); omega) h2.1 h2.2 (fun e => hn (in_swap.1 e))))
end Go.Proofs.YtnadgoomkaldkaaDoor
namespace Go.Proofs.YtnadgoomkaldkaaDoor
open Go.RowKit

/-- The way whose first piece another one takes the place of. -/
def chW (Ls : List (List Sp)) (i k u : Nat) : Prop := (u = 2 * i ∧ k = 1) ∨ (u = 2 * i + 1 ∧ k + 2 = (lx Ls i).length)
/-- Where such a way begins, and where its piece goes to then. -/
def chO (Ls : List (List Sp)) (i k u : Nat) : Sp := if u % 2 = 0 then sx (lx Ls i) (k - 1) else sx (lx Ls i) (k + 1)
def chT (Ls : List (List Sp)) (i k u : Nat) : Sp := if u % 2 = 0 then sx (lx Ls i) (k + 1) else sx (lx Ls i) (k - 1)
section
variable {Ls : List (List Sp)} {i k : Nat} (hi : i < Ls.length) (h0 : 0 < k) (hk : k + 1 < (lx Ls i).length)
include hi h0 hk
omit h0 hk in
theorem ou_far {u : Nat} (h : ¬ u / 2 = i) : ouP (woM Ls i k) u = ouP Ls u := by
  unfold ouP
  rw [lx_wo hi, if_neg h]
theorem ou_near {u : Nat} (hu : u / 2 = i) (h : ¬ chW Ls i k u) : ouP (woM Ls i k) u = ouP Ls u := by
  unfold ouP
  rw [lx_wo hi, if_pos hu, hu, er_len (by omega)]
  unfold chW at h
  split
  · rw [sx_er (by omega) (by omega), sx_er (by omega) (by omega), if_pos (by omega), if_pos (by omega)]
  · rw [sx_er (by omega) (by omega), sx_er (by omega) (by omega), if_neg (by omega), if_neg (by omega)]
    rw [show (lx Ls i).length - 1 - 1 + 1 = (lx Ls i).length - 1 by omega, show (lx Ls i).length - 1 - 2 + 1 = (lx Ls i).length - 2 by omega]
theorem ou_same {u : Nat} (h : ¬ chW Ls i k u) : ouP (woM Ls i k) u = ouP Ls u := by
  by_cases hu : u / 2 = i
  · exact ou_near hi h0 hk hu h
  · exact ou_far hi hu
theorem ou_ch {u : Nat} (h : chW Ls i k u) : ouP Ls u = (chO Ls i k u, sx (lx Ls i) k) ∧ ouP (woM Ls i k) u = (chO Ls i k u, chT Ls i k u) := by
  unfold ouP chO chT
  rcases h with ⟨rfl, rfl⟩ | ⟨rfl, h⟩
  · rw [if_pos (by omega), if_pos (by omega), if_pos (by omega), if_pos (by omega), lx_wo hi, if_pos (by omega), show 2 * i / 2 = i by omega, sx_er (by omega) (by omega), sx_er (by omega) (by omega), if_pos (by omega), if_neg (by omega)]
    exact ⟨rfl, rfl⟩
  · rw [if_neg (by omega), if_neg (by omega), if_neg (by omega), if_neg (by omega), lx_wo hi, if_pos (by omega), show (2 * i + 1) / 2 = i by omega, er_len (by omega), sx_er (by omega) (by omega), sx_er (by omega) (by omega), if_neg (by omega), if_pos (by omega)]
    rw [show (lx Ls i).length - 1 = k + 1 by omega, show (lx Ls i).length - 2 = k by omega, show k + 1 - 1 + 1 = k + 1 by omega, show k + 1 - 2 = k - 1 by omega]
    exact ⟨rfl, rfl⟩
theorem ou_at (u : Nat) : (ouP (woM Ls i k) u).1 = (ouP Ls u).1 := by
  by_cases c : chW Ls i k u
  · obtain ⟨e1, e2⟩ := ou_ch hi h0 hk c
    rw [e1, e2]
  · rw [ou_same hi h0 hk c]
theorem cn_same {u o : Nat} : cnW (woM Ls i k) u o ↔ cnW Ls u o := by
  unfold cnW
  rw [ou_at hi h0 hk, ou_at hi h0 hk]
variable (hc : mcd Ls = 0) (h4 : ¬ cl4 (lx Ls i)) (he : emP Ls (sx (lx Ls i) (k - 1)) (sx (lx Ls i) k) (sx (lx Ls i) (k + 1))) (hj : ¬ jnP Ls (sx (lx Ls i) (k - 1), sx (lx Ls i) (k + 1)))
include hc
omit hi h0 hk in
theorem tip_in {o : Nat} (ho : o < 2 * Ls.length) : ∃ m, m < (lx Ls (o / 2)).length ∧ (ouP Ls o).2 = sx (lx Ls (o / 2)) m := by
  have h2 := ((mcd_ok hc).2.2.1 (o / 2) (by omega)).1
  unfold ouP
  split
  · exact ⟨1, by omega, rfl⟩
  · exact ⟨(lx Ls (o / 2)).length - 2, by omega, rfl⟩
include h4 he hj
/-- The turned arrow, and any other one at its node. -/
theorem ch_out {z o : Nat} (hz : chW Ls i k z) (ho : o < 2 * Ls.length) (hne : o ≠ z) (hat : (ouP Ls o).1 = (ouP Ls z).1) : ¬ chW Ls i k o ∧ tuC (dfS (ouP Ls z).1 (ouP Ls z).2) (dfS (ouP Ls z).1 (ouP (woM Ls i k) z).2) ∧ ouC (dfS (ouP Ls z).1 (ouP Ls z).2) (dfS (ouP Ls z).1 (ouP (woM Ls i k) z).2) (dfS (ouP Ls z).1 (ouP Ls o).2) := by
  have hM := OkM.of hc
  have hM' := OkM.of (wo_right hc hi h0 hk h4 he hj)
  obtain ⟨n1, n2, n3, n4⟩ := wo_abc hc hi h0 hk
  obtain ⟨e1, e2⟩ := ou_ch hi h0 hk hz
  have hzl : z < 2 * Ls.length := by unfold chW at hz; omega
  have hno : ¬ chW Ls i k o := fun hco => by
    obtain ⟨f1, f2⟩ := ou_ch hi h0 hk hco
    rw [f1, e1] at hat
    unfold chO at hat
    unfold chW at hz hco
    rcases hz with ⟨rfl, -⟩ | ⟨rfl, -⟩ <;> rcases hco with ⟨rfl, -⟩ | ⟨rfl, -⟩
    · exact hne rfl
    · rw [if_neg (by omega), if_pos (by omega)] at hat; exact n4 hat.symm
    · rw [if_pos (by omega), if_neg (by omega)] at hat; exact n4 hat
    · exact hne rfl
  have a1 := wy_apart hM.a hM.t hzl ho (fun e => hne e.symm) hat.symm
  have a2 := wy_apart hM'.a hM'.t (by rw [wo_len]; exact hzl) (by rw [wo_len]; exact ho) (fun e => hne e.symm) (by rw [ou_at hi h0 hk, ou_at hi h0 hk]; exact hat.symm)
  rw [ou_same hi h0 hk hno, ou_at hi h0 hk] at a2
  have w1 := wy_ne (Ls := Ls) (a := o) (hM.a _ (by omega))
  obtain ⟨k1, k2⟩ := wy_pc (Ls := Ls) (a := o) (hM.a _ (by omega))
  obtain ⟨m, hm, hs⟩ := tip_in hc ho
  have hem := he (o / 2) (by omega) m hm
  rw [← hs] at hem
  rw [hat, e1] at w1 k2
  rw [e1, e2] at a2
  rw [e1] at a1
  rw [e1, e2]
  dsimp only at w1 k2 a1 a2 ⊢
  generalize (ouP Ls o).2 = s at *
  have hT := (ntg Ls).1 hM.t
  unfold chO chT at *
  rcases hz with ⟨rfl, hk1⟩ | ⟨rfl, hk1⟩
  · rw [if_pos (by omega)] at w1 k2 a1 a2 ⊢
    rw [if_pos (by omega)] at a2 ⊢
    refine ⟨hno, tu_ok n1 n2 n4 n3, out_ok w1 a1 a2 ?_ ?_⟩
    · rcases hem with h | h | h | h
      · exact absurd h.symm w1
      · exact .inl h
      · exact .inr (.inl h)
      · exact .inr (.inr h)
    · have := hT i hi k hk (o / 2) (by omega) (wyK Ls o) k1 (fun g1 g2 => by
        rw [← g1, ← g2] at k2
        unfold pcA at k2
        rcases k2 with e | e
        · exact n1 (Prod.mk.inj e).1.symm
        · exact n4 (Prod.mk.inj e).2.symm)
      rcases k2 with e | e
      · rw [e] at this; exact this
      · rw [e] at this; exact fun g => this (mt_flip2 g)
  · rw [if_neg (by omega)] at w1 k2 a1 a2 ⊢
    rw [if_neg (by omega)] at a2 ⊢
    refine ⟨hno, tu_ok (fun e => n2 e.symm) (fun e => n1 e.symm) (fun e => n4 e.symm) (fun g => n3 (mt_comm (mt_flip2 (mt_flip g)))), out_ok w1 a1 a2 ?_ ?_⟩
    · rcases hem with h | h | h | h
      · exact .inr (.inl h)
      · exact .inl h
      · exact absurd h.symm w1
      · exact .inr (.inr (fun g => h (in_rev.1 g)))
    · have := hT i hi (k - 1) (by omega) (o / 2) (by omega) (wyK Ls o) k1 (fun g1 g2 => by
        rw [← g1, ← g2] at k2
        unfold pcA at k2
        rw [show k - 1 + 1 = k by omega] at k2
        rcases k2 with e | e
        · exact n4 (Prod.mk.inj e).1
        · exact n2 (Prod.mk.inj e).2)
      rw [show pcA (lx Ls i) (k - 1) = (sx (lx Ls i) (k - 1), sx (lx Ls i) k) by unfold pcA; rw [show k - 1 + 1 = k by omega]] at this
      rcases k2 with e | e
      · rw [e] at this; exact fun g => this (mt_flip g)
      · rw [e] at this; exact fun g => this (mt_flip (mt_flip2 g))
end
end Go.Proofs.YtnadgoomkaldkaaDoor
namespace Go.Proofs.YtnadgoomkaldkaaDoor
open Go.RowKit

theorem cy_rotI {f a b : Sp} (hf : ¬ f = (0, 0)) (ha : ¬ a = (0, 0)) (hb : ¬ b = (0, 0)) (ka : ¬ sdrP f a) (kb : ¬ sdrP f b) (kab : ¬ sdrP a b) : cyP f a b ↔ cyP a b f :=
  ⟨cy_rot hf ha hb ka kb kab, fun h => cy_rot hb hf ha (fun e => kb (sdr_flip e)) (fun e => kab (sdr_flip e)) ka (cy_rot ha hb hf kab (fun e => ka (sdr_flip e)) (fun e => kb (sdr_flip e)) h)⟩
/-- The second of three is turned. -/
theorem cy_mv2 {f a a' b : Sp} (h : tuC a a') (hf : ouC a a' f) (hb : ouC a a' b) (k : ¬ sdrP f b) : cyP f a b ↔ cyP f a' b :=
  ⟨cy_mv h hf hb k, cy_mv h.flip hf.flip hb.flip k⟩
/-- The first one. -/
theorem cy_mv1 {f f' a b : Sp} (h : tuC f f') (ha : ouC f f' a) (hb : ouC f f' b) (k : ¬ sdrP a b) : cyP f a b ↔ cyP f' a b := by
  have k' : ¬ sdrP b a := fun e => k (sdr_flip e)
  rw [← cy_rotI hb.z h.1.1 ha.z (fun e => hb.s (sdr_flip e)) k' ha.s, ← cy_rotI hb.z h.1.2 ha.z (fun e => hb.t (sdr_flip e)) k' ha.t]
  exact cy_mv2 h hb ha k'
/-- The third one. -/
theorem cy_mv3 {f a b b' : Sp} (h : tuC b b') (hf : ouC b b' f) (ha : ouC b b' a) (k : ¬ sdrP f a) : cyP f a b ↔ cyP f a b' := by
  have k' : ¬ sdrP a f := fun e => k (sdr_flip e)
  rw [cy_rotI hf.z ha.z h.1.1 k (fun e => hf.s (sdr_flip e)) (fun e => ha.s (sdr_flip e)), cy_rotI hf.z ha.z h.1.2 k (fun e => hf.t (sdr_flip e)) (fun e => ha.t (sdr_flip e))]
  exact cy_mv2 h ha hf k'
section
variable {Ls : List (List Sp)} {i k : Nat} (hi : i < Ls.length) (h0 : 0 < k) (hk : k + 1 < (lx Ls i).length) (hc : mcd Ls = 0) (h4 : ¬ cl4 (lx Ls i)) (he : emP Ls (sx (lx Ls i) (k - 1)) (sx (lx Ls i) k) (sx (lx Ls i) (k + 1))) (hj : ¬ jnP Ls (sx (lx Ls i) (k - 1), sx (lx Ls i) (k + 1)))
include hi h0 hk hc h4 he hj
theorem sn_same {u a b : Nat} (hu : u < 2 * Ls.length) (ha : a < 2 * Ls.length) (hb : b < 2 * Ls.length) (ca : cnW Ls u a) (cb : cnW Ls u b) (hab : a ≠ b) : snW (woM Ls i k) u a b ↔ snW Ls u a b := by
  have hM := OkM.of hc
  have hX := wyX_lt hu
  unfold snW
  rw [sn_cy, sn_cy, ou_at hi h0 hk]
  have kab := hM.kk ha hb ca cb hab
  have kxa := hM.k hu ha ca
  have kxb := hM.k hu hb cb
  by_cases c1 : chW Ls i k (wyX u)
  · obtain ⟨d1, t, o1⟩ := ch_out hi h0 hk hc h4 he hj c1 ha ca.1 ca.2
    obtain ⟨d2, -, o2⟩ := ch_out hi h0 hk hc h4 he hj c1 hb cb.1 cb.2
    rw [ou_same hi h0 hk d1, ou_same hi h0 hk d2]
    exact (cy_mv1 t o1 o2 kab).symm
  · rw [ou_same hi h0 hk c1]
    by_cases c2 : chW Ls i k a
    · obtain ⟨d1, t, o1⟩ := ch_out hi h0 hk hc h4 he hj c2 hX ca.1.symm ca.2.symm
      obtain ⟨d2, -, o2⟩ := ch_out hi h0 hk hc h4 he hj c2 hb (fun e => hab e.symm) (cb.2.trans ca.2.symm)
      rw [ou_same hi h0 hk d2]
      rw [ca.2] at t o1 o2
      exact (cy_mv2 t o1 o2 kxb).symm
    · rw [ou_same hi h0 hk c2]
      by_cases c3 : chW Ls i k b
      · obtain ⟨d1, t, o1⟩ := ch_out hi h0 hk hc h4 he hj c3 hX cb.1.symm cb.2.symm
        obtain ⟨d2, -, o2⟩ := ch_out hi h0 hk hc h4 he hj c3 ha hab (ca.2.trans cb.2.symm)
        rw [cb.2] at t o1 o2
        exact (cy_mv3 t o1 o2 kxa).symm
      · rw [ou_same hi h0 hk c3]
theorem nx_same {u : Nat} (hu : u < 2 * Ls.length) : nxP (woM Ls i k) u = nxP Ls u := by
  have hM := OkM.of hc
  have hM' := OkM.of (wo_right hc hi h0 hk h4 he hj)
  have hu' : u < 2 * (woM Ls i k).length := by rw [wo_len]; exact hu
  rcases nx_spec (hM.trans hu) with ⟨h1, h2⟩ | ⟨h1, h2, h3⟩
  · rw [h1]
    exact hM'.none hu' (fun o ho co => h2 o (by rw [wo_len] at ho; exact ho) ((cn_same hi h0 hk).1 co))
  · refine hM'.only hu' (by rw [wo_len]; exact h1) ((cn_same hi h0 hk).2 h2) (fun o ho co hs => ?_)
    rw [wo_len] at ho
    have co := (cn_same hi h0 hk).1 co
    by_cases e : o = nxP Ls u
    · rw [e] at hs; exact snW_irr hs
    · exact h3 o ho co ((sn_same hi h0 hk hc h4 he hj hu ho h1 co h2 e).1 hs)
end
theorem goR_cg {Ls Ms : List (List Sp)} (h : ∀ u, u < 2 * Ls.length → nxP Ms u = nxP Ls u) : ∀ (f : Nat) (s : List Bool) (w : Nat), s.length = 2 * Ls.length → goR Ms f s w = goR Ls f s w
  | 0, s, w, _ => rfl
  | f + 1, s, w, hs => by
    unfold goR
    by_cases c : s.getD w true = true
    · rw [if_pos c, if_pos c]
    · have hw : w < s.length := Classical.byContradiction fun k => c (by simp [List.getD, List.getElem?_eq_none (show s.length ≤ w by omega)])
      rw [if_neg c, if_neg c, h w (by omega), goR_cg h f (s.set w true) (nxP Ls w) (by simpa using hs)]
theorem roF_cg {Ls Ms : List (List Sp)} (hl : Ms.length = Ls.length) (h : ∀ u, u < 2 * Ls.length → nxP Ms u = nxP Ls u) : ∀ q, roF Ms q = roF Ls q
  | 0 => by unfold roF; rw [hl]
  | q + 1 => by
    have e : remR Ms (roF Ls q).2 q = remR Ls (roF Ls q).2 q := goR_cg h _ _ _ (roF_len q)
    rw [roF, roF, roF_cg hl h q, e]
theorem roP_cg {Ls Ms : List (List Sp)} (hl : Ms.length = Ls.length) (h : ∀ u, u < 2 * Ls.length → nxP Ms u = nxP Ls u) : roP Ms = roP Ls := by
  unfold roP
  rw [hl, roF_cg hl h]
/-- What thinning keeps. -/
structure KpI (most : Int) (Ls : List (List Sp)) (s : ThS) : Prop where
  m : mcd s.L = 0
  n : s.L.length = Ls.length
  ro : roP s.L = roP Ls
  e : ∀ j, j < Ls.length → (lx s.L j).length ≤ (lx Ls j).length ∧ sx (lx s.L j) 0 = sx (lx Ls j) 0 ∧ sx (lx s.L j) ((lx s.L j).length - 1) = sx (lx Ls j) ((lx Ls j).length - 1)
  k0 : 0 < s.k
  st : s.f = false → Pth most ⟨s.L, 0, 1, false⟩ s
theorem KpI.step {most : Int} {Ls : List (List Sp)} {s t : ThS} (h : KpI most Ls s) (k : Stp most s t) : KpI most Ls t := by
  cases k with
  | @next L i k f a b => exact ⟨h.m, h.n, h.ro, h.e, Nat.one_pos, fun ef => by
      have : f = false := ef
      subst this
      exact .tail (h.st rfl) (.next a b)⟩
  | @drop L i k f a b c =>
    have h0 : 0 < k := h.k0
    have hm := fr_right h.m a h0 b c
    refine ⟨hm, (wo_len _ _ _).trans h.n, ?_, fun j hj => ?_, h0, fun ef => by cases ef⟩
    · exact (roP_cg (wo_len _ _ _) (fun u hu => nx_same a h0 b h.m c.2.1 c.2.2.1 c.2.2.2 hu)).trans h.ro
    · obtain ⟨e1, e2, e3⟩ := h.e j hj
      dsimp only at e1 e2 e3 ⊢
      rw [lx_wo a]
      split
      · rename_i ej
        subst ej
        rw [er_len (by omega), sx_er (by omega) (by omega), if_pos h0, sx_er (by omega) (by omega)]
        refine ⟨by omega, e2, ?_⟩
        rw [← e3, if_neg (by omega), show (lx L j).length - 1 - 1 + 1 = (lx L j).length - 1 by omega]
      · exact ⟨e1, e2, e3⟩
  | @keep L i k f a b c => exact ⟨h.m, h.n, h.ro, h.e, Nat.succ_pos _, fun ef => by
      have : f = false := ef
      subst this
      exact .tail (h.st rfl) (.keep a b c)⟩
  | @again L i k a => exact ⟨h.m, h.n, h.ro, h.e, Nat.one_pos, fun _ => .refl _⟩
theorem KpI.go {most : Int} {Ls : List (List Sp)} (hc : mcd Ls = 0) {s : ThS} (h : Pth most ⟨Ls, 0, 1, false⟩ s) : KpI most Ls s := by
  induction h with
  | refl => exact ⟨hc, rfl, rfl, fun j _ => ⟨Nat.le_refl _, rfl, rfl⟩, Nat.one_pos, fun _ => .refl _⟩
  | tail h1 h2 ih => exact ih.step h2
end Go.Proofs.YtnadgoomkaldkaaDoor
