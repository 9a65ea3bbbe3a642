/-
  Which way is the next one: the soonest of those that begin where a way ends.; Two pieces out of one point in one direction meet in more than it.; In a right map each two ways out of a node are told apart.; In a right map the next way is the soonest, and one to one.; The reference's search for the next way comes to the same one.; The rounds of a map's ways, as both sides go them.; A round comes back to its first way; its size is its points' area.
-/
import Derived.Test.YtnadgoomkaldkaaDoorQSfM
import Derived.Test.YtnadgoomkaldkaaDoorQSrP
import Derived.Test.YtnadgoomkaldkaaDoorQSfP
namespace Go.Proofs.YtnadgoomkaldkaaDoor
open Go.RowKit

theorem wyX_X (u : Nat) : wyX (wyX u) = u := by unfold wyX; split <;> split <;> omega
/-- Another way that begins where a way ends. -/
def cnW (Ls : List (List Sp)) (u o : Nat) : Prop := o ≠ wyX u ∧ (ouP Ls o).1 = (ouP Ls (wyX u)).1
/-- Is a way met sooner than another one, turning with the clock from the way back on? -/
def snW (Ls : List (List Sp)) (u a b : Nat) : Prop := snP (ouP Ls (wyX u)) (ouP Ls a).2 (ouP Ls b).2
theorem snW_asym {Ls : List (List Sp)} {u a b : Nat} (h : snW Ls u a b) (k : snW Ls u b a) : False := cy_asym ((sn_cy _ _ _).1 h) ((sn_cy _ _ _).1 k)
theorem snW_irr {Ls : List (List Sp)} {u a : Nat} (h : snW Ls u a a) : False := snW_asym h h
/-- What the search has come to behind j ways. -/
theorem nx_inv {Ls : List (List Sp)} {u n : Nat} (hT : ∀ a b c, a < n → b < n → c < n → cnW Ls u a → cnW Ls u b → cnW Ls u c → snW Ls u a b → snW Ls u b c → snW Ls u a c) : ∀ j, j ≤ n →
    ((nxF Ls u j).1 = wyX u ∧ (nxF Ls u j).2 = (ouP Ls (wyX u)).2 ∧ ∀ o, o < j → ¬ cnW Ls u o) ∨
    ((nxF Ls u j).1 < j ∧ cnW Ls u (nxF Ls u j).1 ∧ (nxF Ls u j).2 = (ouP Ls (nxF Ls u j).1).2 ∧ ∀ o, o < j → cnW Ls u o → ¬ snW Ls u o (nxF Ls u j).1) := by
  intro j
  induction j with
  | zero => intro _; exact .inl ⟨rfl, rfl, fun o h => by omega⟩
  | succ j ih =>
    intro hj
    have ih := ih (by omega)
    have e : nxF Ls u (j + 1) = nxS Ls u (nxF Ls u j) j := rfl
    obtain ⟨st, hst⟩ : ∃ z, z = nxF Ls u j := ⟨_, rfl⟩
    rw [← hst] at ih e
    rw [e]
    obtain ⟨bs, fs⟩ := st
    dsimp only at ih
    by_cases hc : j ≠ wyX u ∧ (ouP Ls j).1 = (ouP Ls (wyX u)).1 ∧ (bs = wyX u ∨ snP (ouP Ls (wyX u)) (ouP Ls j).2 fs)
    · have ee : nxS Ls u (bs, fs) j = (j, (ouP Ls j).2) := by unfold nxS; exact if_pos hc
      rw [ee]
      refine .inr ⟨Nat.lt_succ_self j, ⟨hc.1, hc.2.1⟩, rfl, fun o ho hco hs => ?_⟩
      rcases ih with ⟨h1, h2, h3⟩ | ⟨h1, h2, h3, h4⟩
      · rcases Nat.lt_or_ge o j with k | k
        · exact h3 o k hco
        · obtain rfl : o = j := by omega
          exact snW_irr hs
      · rcases Nat.lt_or_ge o j with k | k
        · have hj2 : snW Ls u j bs := by
            rcases hc.2.2 with c | c
            · exact absurd c h2.1
            · unfold snW; rw [← h3]; exact c
          exact h4 o k hco (hT o j bs (by omega) (by omega) (by omega) hco ⟨hc.1, hc.2.1⟩ h2 hs hj2)
        · obtain rfl : o = j := by omega
          exact snW_irr hs
    · have ee : nxS Ls u (bs, fs) j = (bs, fs) := by unfold nxS; exact if_neg hc
      rw [ee]
      dsimp only
      rcases ih with ⟨h1, h2, h3⟩ | ⟨h1, h2, h3, h4⟩
      · refine .inl ⟨h1, h2, fun o ho hco => ?_⟩
        rcases Nat.lt_or_ge o j with k | k
        · exact h3 o k hco
        · obtain rfl : o = j := by omega
          exact hc ⟨hco.1, hco.2, .inl h1⟩
      · refine .inr ⟨by omega, h2, h3, fun o ho hco hs => ?_⟩
        rcases Nat.lt_or_ge o j with k | k
        · exact h4 o k hco hs
        · obtain rfl : o = j := by omega
          exact hc ⟨hco.1, hco.2, .inr (by rw [h3]; exact hs)⟩
/-- The next way: the way back where no other one begins there; else the soonest. -/
theorem nx_spec {Ls : List (List Sp)} {u : Nat} (hT : ∀ a b c, a < 2 * Ls.length → b < 2 * Ls.length → c < 2 * Ls.length → cnW Ls u a → cnW Ls u b → cnW Ls u c → snW Ls u a b → snW Ls u b c → snW Ls u a c) :
    (nxP Ls u = wyX u ∧ ∀ o, o < 2 * Ls.length → ¬ cnW Ls u o) ∨ (nxP Ls u < 2 * Ls.length ∧ cnW Ls u (nxP Ls u) ∧ ∀ o, o < 2 * Ls.length → cnW Ls u o → ¬ snW Ls u o (nxP Ls u)) := by
  rcases nx_inv hT _ (Nat.le_refl _) with ⟨h1, -, h3⟩ | ⟨h1, h2, -, h4⟩
  · exact .inl ⟨h1, h3⟩
  · exact .inr ⟨h1, h2, h4⟩
/-- The next way begins where the way ends. -/
theorem nx_at {Ls : List (List Sp)} {u : Nat} (hT : ∀ a b c, a < 2 * Ls.length → b < 2 * Ls.length → c < 2 * Ls.length → cnW Ls u a → cnW Ls u b → cnW Ls u c → snW Ls u a b → snW Ls u b c → snW Ls u a c) : (ouP Ls (nxP Ls u)).1 = (ouP Ls (wyX u)).1 := by
  rcases nx_spec hT with ⟨h1, -⟩ | ⟨-, h2, -⟩
  · rw [h1]
  · exact h2.2
theorem nx_lt {Ls : List (List Sp)} {u : Nat} (hu : u < 2 * Ls.length) (hT : ∀ a b c, a < 2 * Ls.length → b < 2 * Ls.length → c < 2 * Ls.length → cnW Ls u a → cnW Ls u b → cnW Ls u c → snW Ls u a b → snW Ls u b c → snW Ls u a c) : nxP Ls u < 2 * Ls.length := by
  rcases nx_spec hT with ⟨h1, -⟩ | ⟨h1, -⟩
  · rw [h1]; exact wyX_lt hu
  · exact h1
/-- It is one to one, where each two ways out of a node are told apart: each comes sooner than the other one or the other way about. -/
theorem nx_one {Ls : List (List Sp)} (hT : ∀ u, u < 2 * Ls.length → ∀ a b c, a < 2 * Ls.length → b < 2 * Ls.length → c < 2 * Ls.length → cnW Ls u a → cnW Ls u b → cnW Ls u c → snW Ls u a b → snW Ls u b c → snW Ls u a c)
    (hW : ∀ u, u < 2 * Ls.length → ∀ a b, a < 2 * Ls.length → b < 2 * Ls.length → cnW Ls u a → cnW Ls u b → a ≠ b → snW Ls u a b ∨ snW Ls u b a)
    {u v : Nat} (hu : u < 2 * Ls.length) (hv : v < 2 * Ls.length) (h : nxP Ls u = nxP Ls v) : u = v := by
  by_cases e : u = v
  · exact e
  exfalso
  have hne : wyX u ≠ wyX v := fun c => e (by rw [← wyX_X u, c, wyX_X])
  have a1 := nx_at (hT u hu)
  have a2 := nx_at (hT v hv)
  have hat : (ouP Ls (wyX u)).1 = (ouP Ls (wyX v)).1 := by rw [← a1, h, a2]
  have c1 : cnW Ls u (wyX v) := ⟨hne.symm, hat.symm⟩
  have c2 : cnW Ls v (wyX u) := ⟨hne, hat⟩
  rcases nx_spec (hT u hu) with ⟨-, h2⟩ | ⟨h1, h2, h3⟩
  · exact h2 _ (wyX_lt hv) c1
  rcases nx_spec (hT v hv) with ⟨-, k2⟩ | ⟨k1, k2, k3⟩
  · exact k2 _ (wyX_lt hu) c2
  by_cases d : nxP Ls u = wyX v
  · exact k2.1 (by rw [← h, d])
  by_cases d2 : nxP Ls u = wyX u
  · exact h2.1 d2
  have s1 := (hW u hu _ _ h1 (wyX_lt hv) h2 c1 d).resolve_right (h3 _ (wyX_lt hv) c1)
  rw [← h] at k1 k2 k3
  have s2 := (hW v hv _ _ k1 (wyX_lt hu) k2 c2 d2).resolve_right (k3 _ (wyX_lt hu) c2)
  unfold snW at s1 s2
  have q1 := (sn_cy _ _ _).1 s1
  have q2 := (sn_cy _ _ _).1 s2
  rw [← hat] at q2
  exact cy_one q1 q2
end Go.Proofs.YtnadgoomkaldkaaDoor
namespace Go.Proofs.YtnadgoomkaldkaaDoor
open Go.RowKit

theorem same_sgn {x y u v : Int} (h : x * v = y * u) (hp : 0 < x * u + y * v) : 0 ≤ x * u ∧ 0 ≤ y * v := by
  have e : (x * u) * (y * v) = (y * u) * (y * u) := by rw [← h]; grind
  have hn := sq_nn (y * u)
  generalize x * u = A at *
  generalize y * v = B at *
  rw [← e] at hn
  constructor
  · by_cases c : A < 0
    · have := Int.mul_neg_of_neg_of_pos c (show 0 < B by omega); omega
    · omega
  · by_cases c : B < 0
    · have := Int.mul_neg_of_pos_of_neg (show 0 < A by omega) c; omega
    · omega
/-- Of two vectors in one direction the one lies in the other's box. -/
theorem box_or {x y u v : Nat} (h : x * v = y * u) : (x ≤ u ∧ y ≤ v) ∨ (u ≤ x ∧ v ≤ y) := by
  rcases Nat.lt_or_ge u x with c | c
  · refine .inr ⟨by omega, ?_⟩
    rcases Nat.lt_or_ge y v with d | d
    · exfalso
      have h1 : y * u ≤ y * x := Nat.mul_le_mul_left _ (by omega)
      have h2 : x * y < x * v := Nat.mul_lt_mul_of_pos_left d (by omega)
      rw [Nat.mul_comm x y] at h2
      omega
    · exact d
  · rcases Nat.lt_or_ge v y with d | d
    · rcases Nat.eq_or_lt_of_le c with e | e
      · exact .inr ⟨by omega, by omega⟩
      · exfalso
        have h1 : x * v ≤ u * v := Nat.mul_le_mul_right _ c
        have h2 : v * u < y * u := Nat.mul_lt_mul_of_pos_right d (by omega)
        rw [Nat.mul_comm v u] at h2
        omega
    · exact .inl ⟨c, d⟩
theorem in_one {x u : Int} (h : 0 ≤ x * u) (hl : x.natAbs ≤ u.natAbs) : min 0 u ≤ x ∧ x ≤ max 0 u := by
  by_cases c : 0 < x
  · by_cases d : u < 0
    · have := Int.mul_neg_of_pos_of_neg c d; omega
    · omega
  · by_cases c2 : x < 0
    · by_cases d : 0 < u
      · have := Int.mul_neg_of_neg_of_pos c2 d; omega
      · omega
    · omega
theorem sd_has {o a b : Sp} (h : sdrP (dfS o a) (dfS o b)) : hsP (o, b) a ∨ hsP (o, a) b := by
  obtain ⟨h1, h2⟩ := h
  unfold xp at h1
  unfold ip at h2
  unfold dfS at h1 h2
  dsimp only at h1 h2
  obtain ⟨x, hx⟩ : ∃ z, z = a.1 - o.1 := ⟨_, rfl⟩
  obtain ⟨y, hy⟩ : ∃ z, z = a.2 - o.2 := ⟨_, rfl⟩
  obtain ⟨u, hu⟩ : ∃ z, z = b.1 - o.1 := ⟨_, rfl⟩
  obtain ⟨v, hv⟩ : ∃ z, z = b.2 - o.2 := ⟨_, rfl⟩
  rw [← hx, ← hy, ← hu, ← hv] at h1 h2
  have he : x * v = y * u := by omega
  obtain ⟨s1, s2⟩ := same_sgn he h2
  have hb : x.natAbs * v.natAbs = y.natAbs * u.natAbs := by rw [← Int.natAbs_mul, he, Int.natAbs_mul]
  rcases box_or hb with ⟨k1, k2⟩ | ⟨k1, k2⟩
  · left
    have i1 := in_one s1 k1
    have i2 := in_one s2 k2
    refine ⟨?_, ?_⟩
    · unfold tn; dsimp only
      have e1 : a.1 = x + o.1 := by omega
      have e2 : a.2 = y + o.2 := by omega
      have e3 : b.1 = u + o.1 := by omega
      have e4 : b.2 = v + o.2 := by omega
      rw [e1, e2, e3, e4]
      grind
    · unfold nrP; dsimp only; omega
  · right
    have i1 := in_one (by rw [Int.mul_comm]; exact s1) k1
    have i2 := in_one (by rw [Int.mul_comm]; exact s2) k2
    refine ⟨?_, ?_⟩
    · unfold tn; dsimp only
      have e1 : a.1 = x + o.1 := by omega
      have e2 : a.2 = y + o.2 := by omega
      have e3 : b.1 = u + o.1 := by omega
      have e4 : b.2 = v + o.2 := by omega
      rw [e1, e2, e3, e4]
      grind
    · unfold nrP; dsimp only; omega
theorem hs_flip {x y s : Sp} (h : hsP (x, y) s) : hsP (y, x) s := by
  obtain ⟨h1, h2⟩ := h
  refine ⟨?_, ?_⟩
  · unfold tn at *; dsimp only at *; grind
  · unfold nrP at *; dsimp only at *; omega
/-- So they meet. -/
theorem sd_meet {p q : Pc} {o a b : Sp} (h : sdrP (dfS o a) (dfS o b)) (ha : ¬ o = a) (hb : ¬ o = b) (hp : p = (o, a) ∨ p = (a, o)) (hq : q = (o, b) ∨ q = (b, o)) : mtP p q := by
  by_cases e : a = b
  · subst e
    have hn : hsP p o := by rcases hp with rfl | rfl; exact hs_fst _ _; exact hs_snd _ _
    refine ⟨(hs_near hn (by rcases hq with rfl | rfl; exact .inl rfl; exact .inr rfl)).1, ?_⟩
    refine .inr (.inr (.inr (.inr (.inr ?_))))
    rcases hp with rfl | rfl <;> rcases hq with rfl | rfl
    · exact .inl rfl
    · exact .inr rfl
    · exact .inr rfl
    · exact .inl rfl
  · rcases sd_has h with k | k
    · have k2 : hsP q a := by rcases hq with rfl | rfl; exact k; exact hs_flip k
      have hl : hlP q a := ⟨by rcases hq with rfl | rfl; exact ⟨fun c => ha c.symm, e⟩; exact ⟨e, fun c => ha c.symm⟩, k2⟩
      rcases hp with rfl | rfl
      · exact ⟨(hs_near k2 (.inr rfl)).2, .inr (.inr (.inr (.inr (.inl hl))))⟩
      · exact ⟨(hs_near k2 (.inl rfl)).2, .inr (.inr (.inr (.inl hl)))⟩
    · have k2 : hsP p b := by rcases hp with rfl | rfl; exact k; exact hs_flip k
      have hl : hlP p b := ⟨by rcases hp with rfl | rfl; exact ⟨fun c => hb c.symm, fun c => e c.symm⟩; exact ⟨fun c => e c.symm, fun c => hb c.symm⟩, k2⟩
      rcases hq with rfl | rfl
      · exact ⟨(hs_near k2 (.inr rfl)).1, .inr (.inr (.inl hl))⟩
      · exact ⟨(hs_near k2 (.inl rfl)).1, .inr (.inl hl)⟩
end Go.Proofs.YtnadgoomkaldkaaDoor
namespace Go.Proofs.YtnadgoomkaldkaaDoor
open Go.RowKit

theorem ar_ne {l : List Sp} (h : arP l) {k : Nat} (hk : k + 1 < l.length) : ¬ sx l k = sx l (k + 1) := fun e => (h.2.1 (k + 1) (by omega)).2 (by omega) (by rw [Nat.add_sub_cancel]; exact e.symm)
/-- Which piece a way begins with. -/
def wyK (Ls : List (List Sp)) (a : Nat) : Nat := if a % 2 = 0 then 0 else (lx Ls (a / 2)).length - 2
theorem wy_ne {Ls : List (List Sp)} {a : Nat} (h : arP (lx Ls (a / 2))) : ¬ (ouP Ls a).1 = (ouP Ls a).2 := by
  have h2 := h.1
  unfold ouP
  split
  · exact ar_ne h (k := 0) (by omega)
  · intro e
    refine ar_ne h (k := (lx Ls (a / 2)).length - 2) (by omega) ?_
    rw [show (lx Ls (a / 2)).length - 2 + 1 = (lx Ls (a / 2)).length - 1 by omega]
    exact e.symm
theorem wy_pc {Ls : List (List Sp)} {a : Nat} (h : arP (lx Ls (a / 2))) : wyK Ls a + 1 < (lx Ls (a / 2)).length ∧ (pcA (lx Ls (a / 2)) (wyK Ls a) = ((ouP Ls a).1, (ouP Ls a).2) ∨ pcA (lx Ls (a / 2)) (wyK Ls a) = ((ouP Ls a).2, (ouP Ls a).1)) := by
  have h2 := h.1
  unfold wyK ouP pcA
  split
  · exact ⟨by omega, .inl rfl⟩
  · exact ⟨by omega, .inr (by rw [show (lx Ls (a / 2)).length - 2 + 1 = (lx Ls (a / 2)).length - 1 by omega])⟩
theorem wy_apart {Ls : List (List Sp)} (hA : ∀ i, i < Ls.length → arP (lx Ls i)) (hT : ¬ tgP (ppL Ls)) {a b : Nat} (ha : a < 2 * Ls.length) (hb : b < 2 * Ls.length) (hne : a ≠ b) (hat : (ouP Ls a).1 = (ouP Ls b).1) : ¬ sdrP (dfS (ouP Ls a).1 (ouP Ls a).2) (dfS (ouP Ls a).1 (ouP Ls b).2) := by
  intro hs
  have ia : a / 2 < Ls.length := by omega
  have ib : b / 2 < Ls.length := by omega
  have na := wy_ne (hA _ ia)
  have nb := wy_ne (hA _ ib)
  obtain ⟨ka, pa⟩ := wy_pc (hA _ ia)
  obtain ⟨kb, pb⟩ := wy_pc (hA _ ib)
  rw [← hat] at nb pb
  have m1 := sd_meet hs na nb pa pb
  have hs2 : sdrP (dfS (ouP Ls a).1 (ouP Ls b).2) (dfS (ouP Ls a).1 (ouP Ls a).2) := ⟨by have := hs.1; unfold xp at *; grind, by have := hs.2; unfold ip at *; grind⟩
  have m2 := sd_meet hs2 nb na pb pa
  by_cases e : a / 2 = b / 2 ∧ wyK Ls a = wyK Ls b
  · obtain ⟨e1, e2⟩ := e
    have l2 : (lx Ls (a / 2)).length = 2 := by
      have := (hA _ ia).1
      unfold wyK at e2
      rw [← e1] at e2
      by_cases c : a % 2 = 0
      · rw [if_pos c, if_neg (by omega)] at e2; omega
      · rw [if_neg c, if_pos (by omega)] at e2; omega
    unfold ouP at hat na
    rw [← e1, l2] at hat
    rw [l2] at na
    by_cases c : a % 2 = 0
    · rw [if_pos c, if_neg (by omega)] at hat
      rw [if_pos c] at na
      exact na hat
    · rw [if_neg c, if_pos (by omega)] at hat
      rw [if_neg c] at na
      exact na hat
  · refine hT ((tg_iff Ls).2 ?_)
    have ho : ahd (b / 2) (wyK Ls b) (a / 2) (wyK Ls a) ∨ ahd (a / 2) (wyK Ls a) (b / 2) (wyK Ls b) := by unfold ahd; omega
    rcases ho with o | o
    · exact ⟨_, ia, _, ka, _, ib, _, kb, o, m1⟩
    · exact ⟨_, ib, _, kb, _, ia, _, ka, o, m2⟩
end Go.Proofs.YtnadgoomkaldkaaDoor
namespace Go.Proofs.YtnadgoomkaldkaaDoor
open Go.RowKit

theorem df_ne {a b : Sp} (h : ¬ a = b) : ¬ dfS a b = (0, 0) := fun e => h (by
  unfold dfS at e
  obtain ⟨e1, e2⟩ := Prod.mk.inj e
  exact Prod.ext (by omega) (by omega))
structure OkM (Ls : List (List Sp)) : Prop where
  a : ∀ i, i < Ls.length → arP (lx Ls i)
  t : ¬ tgP (ppL Ls)
theorem OkM.of {Ls : List (List Sp)} (h : mcd Ls = 0) : OkM Ls := ⟨(mcd_ok h).2.2.1, (mcd_ok h).2.2.2.2⟩
section
variable {Ls : List (List Sp)} (hM : OkM Ls) {u : Nat} (hu : u < 2 * Ls.length)
include hM hu
omit hu in
theorem OkM.ne {a : Nat} (ha : a < 2 * Ls.length) (hc : cnW Ls u a) : ¬ dfS (ouP Ls (wyX u)).1 (ouP Ls a).2 = (0, 0) := by
  have h := wy_ne (Ls := Ls) (a := a) (hM.a _ (by omega))
  rw [hc.2] at h
  exact df_ne h
theorem OkM.f : ¬ dfS (ouP Ls (wyX u)).1 (ouP Ls (wyX u)).2 = (0, 0) := df_ne (wy_ne (hM.a _ (by have := wyX_lt hu; omega)))
theorem OkM.k {a : Nat} (ha : a < 2 * Ls.length) (hc : cnW Ls u a) : ¬ sdrP (dfS (ouP Ls (wyX u)).1 (ouP Ls (wyX u)).2) (dfS (ouP Ls (wyX u)).1 (ouP Ls a).2) :=
  wy_apart hM.a hM.t (wyX_lt hu) ha hc.1.symm hc.2.symm
omit hu in
theorem OkM.kk {a b : Nat} (ha : a < 2 * Ls.length) (hb : b < 2 * Ls.length) (hc : cnW Ls u a) (hd : cnW Ls u b) (hn : a ≠ b) : ¬ sdrP (dfS (ouP Ls (wyX u)).1 (ouP Ls a).2) (dfS (ouP Ls (wyX u)).1 (ouP Ls b).2) := by
  have := wy_apart hM.a hM.t ha hb hn (hc.2.trans hd.2.symm)
  rw [hc.2] at this
  exact this
theorem OkM.trans (a b c : Nat) (ha : a < 2 * Ls.length) (hb : b < 2 * Ls.length) (hc : c < 2 * Ls.length) (ca : cnW Ls u a) (cb : cnW Ls u b) (cc : cnW Ls u c) (h : snW Ls u a b) (k : snW Ls u b c) : snW Ls u a c :=
  (sn_cy _ _ _).2 (cy_trans (hM.f hu) (hM.ne ha ca) (hM.ne hc cc) (hM.k hu ha ca) (hM.k hu hb cb) (hM.k hu hc cc) (hM.ne hb cb) ((sn_cy _ _ _).1 h) ((sn_cy _ _ _).1 k))
theorem OkM.tot (a b : Nat) (ha : a < 2 * Ls.length) (hb : b < 2 * Ls.length) (ca : cnW Ls u a) (cb : cnW Ls u b) (hn : a ≠ b) : snW Ls u a b ∨ snW Ls u b a :=
  (cy_tot (hM.f hu) (hM.ne ha ca) (hM.ne hb cb) (hM.k hu ha ca) (hM.k hu hb cb) (hM.kk ha hb ca cb hn)).imp (sn_cy _ _ _).2 (sn_cy _ _ _).2
/-- What is soonest is the next way. -/
theorem OkM.only {n : Nat} (hn : n < 2 * Ls.length) (hc : cnW Ls u n) (h : ∀ o, o < 2 * Ls.length → cnW Ls u o → ¬ snW Ls u o n) : nxP Ls u = n := by
  rcases nx_spec (hM.trans hu) with ⟨-, h2⟩ | ⟨h1, h2, h3⟩
  · exact absurd hc (h2 n hn)
  · by_cases e : nxP Ls u = n
    · exact e
    · exfalso
      rcases hM.tot hu _ _ h1 hn h2 hc e with k | k
      · exact h _ h1 h2 k
      · exact h3 _ hn hc k
theorem OkM.none (h : ∀ o, o < 2 * Ls.length → ¬ cnW Ls u o) : nxP Ls u = wyX u := by
  rcases nx_spec (hM.trans hu) with ⟨h1, -⟩ | ⟨h1, h2, -⟩
  · exact h1
  · exact absurd h2 (h _ h1)
theorem OkM.lt : nxP Ls u < 2 * Ls.length := nx_lt hu (hM.trans hu)
theorem OkM.beg : (ouP Ls (nxP Ls u)).1 = (ouP Ls (wyX u)).1 := nx_at (hM.trans hu)
end
theorem OkM.one {Ls : List (List Sp)} (hM : OkM Ls) {u v : Nat} (hu : u < 2 * Ls.length) (hv : v < 2 * Ls.length) (h : nxP Ls u = nxP Ls v) : u = v :=
  nx_one (fun _ h => hM.trans h) (fun _ h => hM.tot h) hu hv h
end Go.Proofs.YtnadgoomkaldkaaDoor
namespace Go.Proofs.YtnadgoomkaldkaaDoor
open Go.RowKit

/-- The direction of the way back, and of a way out of the same node. -/
def drW (Ls : List (List Sp)) (u o : Nat) : Sp := dfS (ouP Ls (wyX u)).1 (ouP Ls o).2
def takes (Ls : List (List Sp)) (u : Nat) (bf : Option Nat) (o : Nat) : Prop := cnW Ls u o ∧ ∀ b, bf = some b → srP (drW Ls u (wyX u)) (drW Ls u o) (drW Ls u b)
open Classical in
noncomputable def nrS (Ls : List (List Sp)) (u : Nat) (bf : Option Nat) (o : Nat) : Option Nat := if takes Ls u bf o then some o else bf
/-- The reference looks at -1, 1, -2, 2, ..: at each pair the other way about. -/
noncomputable def nrF (Ls : List (List Sp)) (u : Nat) : Nat → Option Nat
  | 0 => none
  | q + 1 => nrS Ls u (nrF Ls u q) (wyX q)
section
variable {Ls : List (List Sp)} (hM : OkM Ls) {u : Nat} (hu : u < 2 * Ls.length)
include hM hu
theorem OkM.sr {a b : Nat} (ha : a < 2 * Ls.length) (hb : b < 2 * Ls.length) (ca : cnW Ls u a) (cb : cnW Ls u b) : srP (drW Ls u (wyX u)) (drW Ls u a) (drW Ls u b) ↔ snW Ls u a b :=
  (sr_cy (hM.f hu) (hM.ne ha ca) (hM.ne hb cb) (hM.k hu ha ca) (hM.k hu hb cb)).trans (sn_cy _ _ _).symm
end
end Go.Proofs.YtnadgoomkaldkaaDoor
namespace Go.Proofs.YtnadgoomkaldkaaDoor
open Go.RowKit

/-- A round from a way on, as long as its ways are new: the ways, and what is seen behind it. -/
noncomputable def goR (Ls : List (List Sp)) : Nat → List Bool → Nat → List Nat × List Bool
  | 0, s, _ => ([], s)
  | f + 1, s, w => if s.getD w true = true then ([], s) else (w :: (goR Ls f (s.set w true) (nxP Ls w)).1, (goR Ls f (s.set w true) (nxP Ls w)).2)
/-- How many ways are new. -/
def frR (s : List Bool) : Nat := s.count false
theorem frR_set : ∀ {s : List Bool} {w : Nat}, s.getD w true = false → frR (s.set w true) + 1 = frR s
  | [], w, h => by simp at h
  | b :: s, 0, h => by
    have hb : b = false := by simpa using h
    subst hb
    simp [frR]
  | b :: s, w + 1, h => by
    have h' : s.getD w true = false := by simpa using h
    have ih := frR_set h'
    unfold frR at *
    rw [List.set_cons_succ, List.count_cons, List.count_cons]
    omega
noncomputable def remR (Ls : List (List Sp)) (s : List Bool) (w : Nat) : List Nat × List Bool := goR Ls (frR s) s w
theorem rem_seen {Ls : List (List Sp)} {s : List Bool} {w : Nat} (h : s.getD w true = true) : remR Ls s w = ([], s) := by
  unfold remR
  cases frR s with
  | zero => rfl
  | succ f => unfold goR; rw [if_pos h]
theorem rem_step {Ls : List (List Sp)} {s : List Bool} {w : Nat} (h : s.getD w true = false) : remR Ls s w = (w :: (remR Ls (s.set w true) (nxP Ls w)).1, (remR Ls (s.set w true) (nxP Ls w)).2) := by
  unfold remR
  rw [← frR_set h]
  have hn : ¬ s.getD w true = true := by rw [h]; decide
  show goR Ls (frR (s.set w true) + 1) s w = _
  rw [goR, if_neg hn]
theorem goR_len {Ls : List (List Sp)} : ∀ (f : Nat) (s : List Bool) (w : Nat), (goR Ls f s w).2.length = s.length
  | 0, s, w => rfl
  | f + 1, s, w => by
    unfold goR
    split
    · rfl
    · show (goR Ls f (s.set w true) (nxP Ls w)).2.length = _
      rw [goR_len f]; simp
theorem rem_len {Ls : List (List Sp)} {s : List Bool} {w : Nat} : (remR Ls s w).2.length = s.length := goR_len _ _ _
/-- The rounds that begin at the first q ways, and what is seen behind them. -/
noncomputable def roF (Ls : List (List Sp)) : Nat → List (List Nat) × List Bool
  | 0 => ([], List.replicate (2 * Ls.length) false)
  | q + 1 => (if (remR Ls (roF Ls q).2 q).1 = [] then (roF Ls q).1 else (roF Ls q).1 ++ [(remR Ls (roF Ls q).2 q).1], (remR Ls (roF Ls q).2 q).2)
theorem roF_len {Ls : List (List Sp)} : ∀ q, (roF Ls q).2.length = 2 * Ls.length
  | 0 => by simp [roF]
  | q + 1 => by show (remR Ls (roF Ls q).2 q).2.length = _; rw [rem_len, roF_len q]
/-- All the rounds. -/
noncomputable def roP (Ls : List (List Sp)) : List (List Nat) := (roF Ls (2 * Ls.length)).1
end Go.Proofs.YtnadgoomkaldkaaDoor
namespace Go.Proofs.YtnadgoomkaldkaaDoor
open Go.RowKit

/-- A row of ways, each the next one of the way ahead of it, from c on, till the next one is e. -/
def ptR (Ls : List (List Sp)) : Nat → List Nat → Nat → Prop
  | c, [], e => c = e
  | c, u :: R, e => u = c ∧ u < 2 * Ls.length ∧ ptR Ls (nxP Ls u) R e
/-- What leads to a seen way is seen. -/
def clR (Ls : List (List Sp)) (s : List Bool) : Prop := ∀ w, w < 2 * Ls.length → s.getD (nxP Ls w) true = true → s.getD w true = true
structure midR (Ls : List (List Sp)) (s : List Bool) (c e : Nat) : Prop where
  len : s.length = 2 * Ls.length
  lt : c < 2 * Ls.length
  b : ∀ w, w < 2 * Ls.length → s.getD (nxP Ls w) true = true → s.getD w true = true ∨ nxP Ls w = e
  t : s.getD c true = true → c = e
  f : (c = e ∧ clR Ls s) ∨ ∃ p, p < 2 * Ls.length ∧ s.getD p true = true ∧ nxP Ls p = c
theorem set_getD {s : List Bool} {c w : Nat} (hc : c < s.length) : (s.set c true).getD w true = true ↔ s.getD w true = true ∨ w = c := by
  simp only [List.getD_eq_getElem?_getD, List.getElem?_set]
  by_cases e : c = w
  · subst e; simp [hc]
  · simp [e, Ne.symm e]
theorem midR.step {Ls : List (List Sp)} (hM : OkM Ls) {s : List Bool} {c e : Nat} (h : midR Ls s c e) (hn : s.getD c true = false) : midR Ls (s.set c true) (nxP Ls c) e := by
  have hc : c < s.length := by rw [h.len]; exact h.lt
  have nn : ¬ s.getD c true = true := by rw [hn]; decide
  refine ⟨by rw [List.length_set]; exact h.len, hM.lt h.lt, fun w hw hs => ?_, fun hs => ?_, .inr ⟨c, h.lt, (set_getD hc).2 (.inr rfl), rfl⟩⟩
  · rcases (set_getD hc).1 hs with k | k
    · exact (h.b w hw k).imp (fun z => (set_getD hc).2 (.inl z)) id
    · rcases h.f with ⟨k1, -⟩ | ⟨p, hp, k1, k2⟩
      · exact .inr (k.trans k1)
      · obtain rfl : w = p := hM.one hw hp (k.trans k2.symm)
        exact .inl ((set_getD hc).2 (.inl k1))
  · rcases (set_getD hc).1 hs with k | k
    · exact (h.b c h.lt k).elim (fun z => absurd z nn) id
    · rcases h.f with ⟨k1, -⟩ | ⟨p, hp, k1, k2⟩
      · exact k.trans k1
      · obtain rfl : c = p := hM.one h.lt hp (k.trans k2.symm)
        exact absurd k1 nn
theorem frR_le (s : List Bool) : frR s ≤ s.length := List.count_le_length
theorem midR.go {Ls : List (List Sp)} (hM : OkM Ls) {e : Nat} : ∀ (n : Nat) (s : List Bool) (c : Nat), frR s = n → midR Ls s c e → ptR Ls c (remR Ls s c).1 e ∧ clR Ls (remR Ls s c).2 ∧ (remR Ls s c).1.length + frR (remR Ls s c).2 = frR s := by
  intro n
  induction n with
  | zero =>
    intro s c hf h
    by_cases k : s.getD c true = true
    · rw [rem_seen k]
      refine ⟨h.t k, ?_, by simp⟩
      rcases h.f with ⟨-, h2⟩ | ⟨p, hp, k1, k2⟩
      · exact h2
      · intro w hw hs
        rcases h.b w hw hs with z | z
        · exact z
        · obtain rfl : w = p := hM.one hw hp (z.trans ((h.t k).symm.trans k2.symm))
          exact k1
    · have := frR_set (s := s) (w := c) (by simpa using k)
      omega
  | succ n ih =>
    intro s c hf h
    by_cases k : s.getD c true = true
    · rw [rem_seen k]
      refine ⟨h.t k, ?_, by simp⟩
      rcases h.f with ⟨-, h2⟩ | ⟨p, hp, k1, k2⟩
      · exact h2
      · intro w hw hs
        rcases h.b w hw hs with z | z
        · exact z
        · obtain rfl : w = p := hM.one hw hp (z.trans ((h.t k).symm.trans k2.symm))
          exact k1
    · have k' : s.getD c true = false := by simpa using k
      have hs := frR_set k'
      obtain ⟨i1, i2, i3⟩ := ih (s.set c true) (nxP Ls c) (by omega) (h.step hM k')
      rw [rem_step k']
      exact ⟨⟨rfl, h.lt, i1⟩, i2, by simp only [List.length_cons]; omega⟩
theorem clR.rem {Ls : List (List Sp)} (hM : OkM Ls) {s : List Bool} {c : Nat} (h : clR Ls s) (hl : s.length = 2 * Ls.length) (hc : c < 2 * Ls.length) : ptR Ls c (remR Ls s c).1 c ∧ clR Ls (remR Ls s c).2 ∧ (remR Ls s c).1.length + frR (remR Ls s c).2 = frR s := by
  refine midR.go hM _ s c rfl ⟨hl, hc, fun w hw hs => .inl (h w hw hs), fun _ => rfl, .inl ⟨rfl, h⟩⟩
/-- A round: not empty, from its first way on, and back to it. -/
structure RdR (Ls : List (List Sp)) (R : List Nat) : Prop where
  ne : R ≠ []
  len : R.length ≤ 2 * Ls.length
  p : ptR Ls (R.headD 0) R (R.headD 0)
theorem ptR.head {Ls : List (List Sp)} : ∀ {c : Nat} {R : List Nat} {e : Nat}, ptR Ls c R e → R ≠ [] → R.headD 0 = c
  | _, [], _, _, h => absurd rfl h
  | _, _ :: _, _, h, _ => h.1
theorem roF_all {Ls : List (List Sp)} (hM : OkM Ls) : ∀ q, q ≤ 2 * Ls.length → clR Ls (roF Ls q).2 ∧ (∀ R ∈ (roF Ls q).1, RdR Ls R) ∧ (roF Ls q).1.length ≤ q := by
  intro q
  induction q with
  | zero =>
    intro _
    refine ⟨fun w hw hs => ?_, fun R h => by simp [roF] at h, by simp [roF]⟩
    have hl := hM.lt hw
    simp [roF, List.getD_eq_getElem?_getD, hl] at hs
  | succ q ih =>
    intro hq
    obtain ⟨i1, i2, i3⟩ := ih (by omega)
    obtain ⟨k1, k2, k3⟩ := i1.rem hM (roF_len q) (c := q) (by omega)
    refine ⟨k2, fun R hR => ?_, ?_⟩
    · have e : (roF Ls (q + 1)).1 = if (remR Ls (roF Ls q).2 q).1 = [] then (roF Ls q).1 else (roF Ls q).1 ++ [(remR Ls (roF Ls q).2 q).1] := rfl
      rw [e] at hR
      split at hR
      · exact i2 R hR
      · rename_i hne
        rcases List.mem_append.1 hR with h | h
        · exact i2 R h
        · obtain rfl := List.mem_singleton.1 h
          have hh := k1.head hne
          refine ⟨hne, ?_, by rw [hh]; exact k1⟩
          have := frR_le (roF Ls q).2
          rw [roF_len q] at this
          omega
    · have e : (roF Ls (q + 1)).1 = if (remR Ls (roF Ls q).2 q).1 = [] then (roF Ls q).1 else (roF Ls q).1 ++ [(remR Ls (roF Ls q).2 q).1] := rfl
      rw [e]
      split
      · omega
      · simp; omega

/-- The points of a way, as it is gone. -/
def fuW (Ls : List (List Sp)) (u : Nat) : List Sp := if u % 2 = 0 then lx Ls (u / 2) else (lx Ls (u / 2)).reverse
/-- All but the last one. -/
def wpW (Ls : List (List Sp)) (u : Nat) : List Sp := (fuW Ls u).dropLast
def ptW (Ls : List (List Sp)) (R : List Nat) : List Sp := R.flatMap (wpW Ls)
def swW (Ls : List (List Sp)) (u : Nat) : Int := if u % 2 = 0 then sw (pcl (lx Ls (u / 2))) else -sw (pcl (lx Ls (u / 2)))
def szW (Ls : List (List Sp)) (R : List Nat) : Int := (R.map (swW Ls)).sum
/-- What an arrow sweeps along points. -/
def pth : List Sp → Int
  | a :: b :: t => cr (a, b) + pth (b :: t)
  | [_] => 0
  | [] => 0
theorem fu_len (Ls : List (List Sp)) (u : Nat) : (fuW Ls u).length = (lx Ls (u / 2)).length := by unfold fuW; split <;> simp
theorem wyX_half (u : Nat) : wyX u / 2 = u / 2 := by unfold wyX; split <;> omega
theorem wyX_mod (u : Nat) : wyX u % 2 = 0 ↔ ¬ u % 2 = 0 := by unfold wyX; split <;> omega
theorem wp_len (Ls : List (List Sp)) (u : Nat) : (wpW Ls u).length = (lx Ls (u / 2)).length - 1 := by unfold wpW; rw [List.length_dropLast, fu_len]
theorem ptR.lt {Ls : List (List Sp)} : ∀ {R : List Nat} {c e : Nat}, ptR Ls c R e → ∀ u ∈ R, u < 2 * Ls.length
  | [], _, _, _, u, h => by cases h
  | v :: R, c, e, h, u, hu => by
    rcases List.mem_cons.1 hu with k | k
    · rw [k]; exact h.2.1
    · exact h.2.2.lt u k
theorem RdR.two {Ls : List (List Sp)} (hM : OkM Ls) {R : List Nat} (h : RdR Ls R) : 2 ≤ (ptW Ls R).length := by
  obtain ⟨h1, -, h3⟩ := h
  match R, h1, h3 with
  | [u], _, h3 =>
    obtain ⟨-, h4, h5⟩ := h3
    have ha := hM.a (u / 2) (by omega)
    have h6 : nxP Ls u = u := h5
    have hb := hM.beg h4
    rw [h6] at hb
    have h7 := ha.2.2
    have h8 : sx (lx Ls (u / 2)) 0 = sx (lx Ls (u / 2)) ((lx Ls (u / 2)).length - 1) := by
      unfold ouP at hb
      rw [wyX_half] at hb
      by_cases c : u % 2 = 0
      · rw [if_pos c, if_neg (fun k => (wyX_mod u).1 k c)] at hb; exact hb
      · rw [if_neg c, if_pos ((wyX_mod u).2 c)] at hb; exact hb.symm
    have h9 := h7 h8
    have : ptW Ls [u] = wpW Ls u := by simp [ptW]
    rw [this, wp_len]
    omega
  | u :: v :: R, _, h3 =>
    obtain ⟨-, h4, -, h5, -⟩ := h3
    have ha := (hM.a (u / 2) (by omega)).1
    have hb := (hM.a (v / 2) (by omega)).1
    have : ptW Ls (u :: v :: R) = wpW Ls u ++ (wpW Ls v ++ ptW Ls R) := rfl
    rw [this, List.length_append, List.length_append, wp_len, wp_len]
    omega
end Go.Proofs.YtnadgoomkaldkaaDoor
