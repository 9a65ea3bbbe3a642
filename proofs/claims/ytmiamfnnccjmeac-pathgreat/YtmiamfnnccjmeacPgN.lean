/-
  The angle between two points on a ball: its words; nothings' signs and the points' order don't matter.
-/
import Derived.Test.YtmiamfnnccjmeacAngAny
import Derived.Test.YtmiamfnnccjmeacFltZ
namespace Go.Proofs.Ytmiamfnnccjmeac
open Go.RowKit FB

theorem sin_le (n : Int) (h0 : 0 ≤ n) (h1 : n < 360000000000) : Le 1136 (sinV n) ∧ Le 1136 (cosV n) := by
  have hs := s_le n h0 h1
  have hc : Le 1136 (cOf n) := (hor_ang n 0 h0 h1).mono (by decide)
  unfold sinV cosV
  refine ⟨?_, ?_⟩ <;> (repeat' split) <;> first | exact hs | exact hc | exact neg_le hs | exact neg_le hc
theorem uz_of {k x : Nat} (h : Le k x) (hk : k ≤ 2046) : SameZ (uz x) x ∧ Le k (uz x) := by
  unfold uz
  split
  · rename_i he
    refine ⟨.inr ⟨.inl rfl, ?_⟩, ⟨by decide, Nat.zero_le _⟩⟩
    have hn : NN x := ⟨h.1, Nat.le_trans h.2 (by omega)⟩
    have e := order_key hn (⟨by decide, by decide⟩ : NN 0)
    rw [he] at e
    have e2 : compare (key x) (key 0) = .eq := (Option.some.inj e).symm
    rw [Int.compare_eq_eq] at e2
    have k0 : key 0 = 0 := rfl
    rw [k0] at e2
    have := hn.1
    unfold key at e2
    split at e2 <;> omega
  · exact ⟨.inl rfl, h⟩
theorem angV_zz {y y' x x' : Nat} (h : SameZ y y') (k : SameZ x x') : angV y x = angV y' x' := by
  have f0 : ∀ u, Nz u → finV u = true ∧ isZ u = true ∧ isNeg u = false ∧ absB u = 0 := by
    intro u hu
    rcases hu with rfl | rfl
    · exact ⟨by decide +kernel, by decide +kernel, by decide +kernel, by decide +kernel⟩
    · exact ⟨by decide +kernel, by decide +kernel, by decide +kernel, by decide +kernel⟩
  have hy : finV y = finV y' ∧ isZ y = isZ y' ∧ isNeg y = isNeg y' ∧ absB y = absB y' := by
    rcases h with rfl | ⟨h1, h2⟩
    · exact ⟨rfl, rfl, rfl, rfl⟩
    · obtain ⟨a1, a2, a3, a4⟩ := f0 y h1
      obtain ⟨b1, b2, b3, b4⟩ := f0 y' h2
      rw [a1, a2, a3, a4, b1, b2, b3, b4]; exact ⟨rfl, rfl, rfl, rfl⟩
  have hx : finV x = finV x' ∧ isZ x = isZ x' ∧ isNeg x = isNeg x' ∧ absB x = absB x' := by
    rcases k with rfl | ⟨h1, h2⟩
    · exact ⟨rfl, rfl, rfl, rfl⟩
    · obtain ⟨a1, a2, a3, a4⟩ := f0 x h1
      obtain ⟨b1, b2, b3, b4⟩ := f0 x' h2
      rw [a1, a2, a3, a4, b1, b2, b3, b4]; exact ⟨rfl, rfl, rfl, rfl⟩
  unfold angV
  rw [hy.1, hy.2.1, hy.2.2.1, hy.2.2.2, hx.1, hx.2.1, hx.2.2.1, hx.2.2.2]

/-- A point's words, in size. -/
structure P3 (x y z : Nat) : Prop where
  x : Le 1251 x
  y : Le 1251 y
  z : Le 1251 z
/-- One coordinate of the vector that is upright on two others; the length of all three; the product. -/
def gC (a b c d : Nat) : Nat := FS (FM a b) (FM c d)
def gS (x1 y1 z1 x2 y2 z2 : Nat) : Nat := FA (FA (FM (gC y1 z2 z1 y2) (gC y1 z2 z1 y2)) (FM (gC z1 x2 x1 z2) (gC z1 x2 x1 z2))) (FM (gC x1 y2 y1 x2) (gC x1 y2 y1 x2))
def gL (x1 y1 z1 x2 y2 z2 : Nat) : Nat := (fsq (gS x1 y1 z1 x2 y2 z2)).getD 0
def gD (x1 y1 z1 x2 y2 z2 : Nat) : Nat := FA (FA (FM x1 x2) (FM y1 y2)) (FM z1 z2)
/-- The angle between them. -/
def gW (x1 y1 z1 x2 y2 z2 : Nat) : Int := (angV (gL x1 y1 z1 x2 y2 z2) (gD x1 y1 z1 x2 y2 z2)).1

theorem m_le' {a b : Nat} (ha : Le 1251 a) (hb : Le 1251 b) : Le 1481 (FM a b) := FM_le ha hb (by decide) (by decide) (by decide) (by decide) _ (by decide) (by decide) (by decide)
theorem c_le' {a b c d : Nat} (ha : Le 1251 a) (hb : Le 1251 b) (hc : Le 1251 c) (hd : Le 1251 d) : Le 1483 (gC a b c d) := FS_le (m_le' ha hb) (m_le' hc hd) (by decide) (by decide)
theorem q_le' {a : Nat} (ha : Le 1483 a) : Le 1945 (FM a a) := FM_le ha ha (by decide) (by decide) (by decide) (by decide) _ (by decide) (by decide) (by decide)
theorem FM_self_nn {x : Nat} (h : Num x) : 0 ≤ key (FM x x) := by
  obtain ⟨s, m, i, rx⟩ := h
  have e1 : FM x x = Ieee.double.nearest (s ^^ s) (m * m) (i + i) := by unfold FM Ieee.Format.mul; rw [rx]; rfl
  rw [e1, Bool.xor_self]; exact nearest_pos _ _
theorem key_pos_sign {x : Nat} {s : Bool} {m : Nat} {e : Int} (_hx : x < 18446744073709551616) (h : Ieee.double.read x = .number s m e) (hk : 0 ≤ key x) : s = false ∨ m = 0 := by
  obtain ⟨_, _, _, _, hs⟩ := num_bd h
  by_cases c : x < 9223372036854775808
  · left; rw [hs, Nat.div_eq_of_lt c]; rfl
  · right
    unfold key at hk
    rw [if_neg c] at hk
    rw [read_eq, if_pos (by omega)] at h
    injection h with _ h2 _
    omega
theorem FA_key_nn {x y : Nat} (lx : x < 18446744073709551616) (ly : y < 18446744073709551616) (hx : Num x) (hy : Num y) (kx : 0 ≤ key x) (ky : 0 ≤ key y) : 0 ≤ key (FA x y) := by
  obtain ⟨s, m, i, rx⟩ := hx
  obtain ⟨t, n, j, ry⟩ := hy
  have hT : 0 ≤ Ieee.signed s m (i - min i j).toNat + Ieee.signed t n (j - min i j).toNat := by
    have h1 : 0 ≤ Ieee.signed s m (i - min i j).toNat := by
      rcases key_pos_sign lx rx kx with rfl | rfl
      · rw [signed_false]; omega
      · rw [signed_zero]; omega
    have h2 : 0 ≤ Ieee.signed t n (j - min i j).toNat := by
      rcases key_pos_sign ly ry ky with rfl | rfl
      · rw [signed_false]; omega
      · rw [signed_zero]; omega
    omega
  rw [FA_near rx ry]
  unfold near3
  generalize Ieee.signed s m (i - min i j).toNat + Ieee.signed t n (j - min i j).toNat = T at hT
  by_cases c : T = 0
  · subst c
    rcases near_nz (if (0 : Int) = 0 then s && t else decide ((0 : Int) < 0)) (min i j) with h | h
    · show 0 ≤ key (Ieee.double.nearest _ 0 _); rw [h]; decide
    · show 0 ≤ key (Ieee.double.nearest _ 0 _); rw [h]; decide
  · rw [if_neg c, decide_eq_false (by omega)]; exact nearest_pos _ _

theorem gs_le {x1 y1 z1 x2 y2 z2 : Nat} (p : P3 x1 y1 z1) (q : P3 x2 y2 z2) : Le 1949 (gS x1 y1 z1 x2 y2 z2) ∧ Le 1947 (FA (FM (gC y1 z2 z1 y2) (gC y1 z2 z1 y2)) (FM (gC z1 x2 x1 z2) (gC z1 x2 x1 z2))) ∧ 0 ≤ key (gS x1 y1 z1 x2 y2 z2) := by
  have a1 := q_le' (c_le' p.y q.z p.z q.y)
  have a2 := q_le' (c_le' p.z q.x p.x q.z)
  have a3 := q_le' (c_le' p.x q.y p.y q.x)
  have a4 := FA_le a1 a2 (by decide) (by decide)
  have k1 := FM_self_nn ((c_le' p.y q.z p.z q.y).num (by decide) (by decide))
  have k2 := FM_self_nn ((c_le' p.z q.x p.x q.z).num (by decide) (by decide))
  have k3 := FM_self_nn ((c_le' p.x q.y p.y q.x).num (by decide) (by decide))
  have k4 := FA_key_nn a1.1 a2.1 (a1.num (by decide) (by decide)) (a2.num (by decide) (by decide)) k1 k2
  exact ⟨FA_le a4 (a3.mono (by decide)) (by decide) (by decide), a4, FA_key_nn a4.1 a3.1 (a4.num (by decide) (by decide)) (a3.num (by decide) (by decide)) k4 k3⟩
theorem gl_eq {x1 y1 z1 x2 y2 z2 : Nat} (p : P3 x1 y1 z1) (q : P3 x2 y2 z2) : fsq (gS x1 y1 z1 x2 y2 z2) = some (gL x1 y1 z1 x2 y2 z2) ∧ gL x1 y1 z1 x2 y2 z2 < 18446744073709551616 := by
  obtain ⟨h1, _, h3⟩ := gs_le p q
  obtain ⟨r, hr, hn, _⟩ := sqrt_nn (h1.num (by decide) (by decide)) h3 h1.1
  have : fsq (gS x1 y1 z1 x2 y2 z2) = some r := hr
  unfold gL
  rw [this]
  exact ⟨rfl, hn.1⟩
theorem glen_eq {x1 y1 z1 x2 y2 z2 : Nat} (p : P3 x1 y1 z1) (q : P3 x2 y2 z2) : lenO (gC y1 z2 z1 y2) (gC z1 x2 x1 z2) (gC x1 y2 y1 x2) = some (gL x1 y1 z1 x2 y2 z2) := by
  have b1 := c_le' p.y q.z p.z q.y
  have b2 := c_le' p.z q.x p.x q.z
  have b3 := c_le' p.x q.y p.y q.x
  have n1 := b1.num (by decide) (by decide)
  have n2 := b2.num (by decide) (by decide)
  have n3 := b3.num (by decide) (by decide)
  have m1 := (q_le' b1).num (by decide) (by decide)
  have m2 := (q_le' b2).num (by decide) (by decide)
  have m3 := (q_le' b3).num (by decide) (by decide)
  have m4 := (gs_le p q).2.1.num (by decide) (by decide)
  unfold lenO
  rw [mul_num n1 n1, mul_num n2 n2, mul_num n3 n3]
  simp only [Option.bind_some]
  rw [add_num m1 m2]
  simp only [Option.bind_some]
  rw [add_num m4 m3]
  exact (gl_eq p q).1
theorem gd_le {x1 y1 z1 x2 y2 z2 : Nat} (p : P3 x1 y1 z1) (q : P3 x2 y2 z2) : Le 1485 (gD x1 y1 z1 x2 y2 z2) ∧ Le 1483 (FA (FM x1 x2) (FM y1 y2)) := by
  have a := FA_le (m_le' p.x q.x) (m_le' p.y q.y) (by decide) (by decide)
  exact ⟨FA_le a ((m_le' p.z q.z).mono (by decide)) (by decide) (by decide), a⟩
/-- Nothings' signs don't matter. -/
theorem gW_zz {x1 y1 z1 x2 y2 z2 a1 b1 c1 a2 b2 c2 : Nat} (p : P3 x1 y1 z1) (q : P3 x2 y2 z2) (hx1 : SameZ x1 a1) (hy1 : SameZ y1 b1) (hz1 : SameZ z1 c1) (hx2 : SameZ x2 a2) (hy2 : SameZ y2 b2) (hz2 : SameZ z2 c2) : gW x1 y1 z1 x2 y2 z2 = gW a1 b1 c1 a2 b2 c2 := by
  have N : ∀ {x}, Le 1251 x → Num x := fun h => h.num (by decide) (by decide)
  have M : ∀ {a b : Nat}, Le 1251 a → Le 1251 b → Num (FM a b) := fun h k => (m_le' h k).num (by decide) (by decide)
  have C : ∀ {a b c d a' b' c' d' : Nat}, Le 1251 a → Le 1251 b → Le 1251 c → Le 1251 d → SameZ a a' → SameZ b b' → SameZ c c' → SameZ d d' → SameZ (gC a b c d) (gC a' b' c' d') :=
    fun ha hb hc hd sa sb sc sd => FS_zz (M ha hb) (M hc hd) (FM_zz (N ha) (N hb) sa sb) (FM_zz (N hc) (N hd) sc sd)
  have s1 := C p.y q.z p.z q.y hy1 hz2 hz1 hy2
  have s2 := C p.z q.x p.x q.z hz1 hx2 hx1 hz2
  have s3 := C p.x q.y p.y q.x hx1 hy2 hy1 hx2
  have k1 := c_le' p.y q.z p.z q.y
  have k2 := c_le' p.z q.x p.x q.z
  have k3 := c_le' p.x q.y p.y q.x
  have n1 := k1.num (by decide) (by decide)
  have n2 := k2.num (by decide) (by decide)
  have n3 := k3.num (by decide) (by decide)
  have m1 := (q_le' k1).num (by decide) (by decide)
  have m2 := (q_le' k2).num (by decide) (by decide)
  have m3 := (q_le' k3).num (by decide) (by decide)
  have m4 := (gs_le p q).2.1.num (by decide) (by decide)
  have hS : SameZ (gS x1 y1 z1 x2 y2 z2) (gS a1 b1 c1 a2 b2 c2) :=
    FA_zz m4 m3 (FA_zz m1 m2 (FM_zz n1 n1 s1 s1) (FM_zz n2 n2 s2 s2)) (FM_zz n3 n3 s3 s3)
  have hL : SameZ (gL x1 y1 z1 x2 y2 z2) (gL a1 b1 c1 a2 b2 c2) := by
    obtain ⟨r', hr', hz⟩ := sqrt_zz hS (gl_eq p q).1
    have : gL a1 b1 c1 a2 b2 c2 = r' := by unfold gL; rw [show fsq (gS a1 b1 c1 a2 b2 c2) = some r' from hr']; rfl
    rw [this]; exact hz
  have hD : SameZ (gD x1 y1 z1 x2 y2 z2) (gD a1 b1 c1 a2 b2 c2) :=
    FA_zz ((gd_le p q).2.num (by decide) (by decide)) (M p.z q.z) (FA_zz (M p.x q.x) (M p.y q.y) (FM_zz (N p.x) (N q.x) hx1 hx2) (FM_zz (N p.y) (N q.y) hy1 hy2)) (FM_zz (N p.z) (N q.z) hz1 hz2)
  unfold gW
  rw [angV_zz hL hD]
/-- Nor does the order of the two. -/
theorem gW_swap {x1 y1 z1 x2 y2 z2 : Nat} (p : P3 x1 y1 z1) (q : P3 x2 y2 z2) : gW x1 y1 z1 x2 y2 z2 = gW x2 y2 z2 x1 y1 z1 := by
  have N : ∀ {x}, Le 1251 x → Num x := fun h => h.num (by decide) (by decide)
  have M : ∀ {a b : Nat}, Le 1251 a → Le 1251 b → Num (FM a b) := fun h k => (m_le' h k).num (by decide) (by decide)
  have K : ∀ {a b c d : Nat}, Le 1251 a → Le 1251 b → Le 1251 c → Le 1251 d → FM (gC a b c d) (gC a b c d) = FM (gC d c b a) (gC d c b a) := by
    intro a b c d ha hb hc hd
    refine FM_sq ((c_le' ha hb hc hd).num (by decide) (by decide)) ?_
    unfold gC
    rw [FM_comm (N hd) (N hc), FM_comm (N hb) (N ha)]
    exact FS_swap (M ha hb) (M hc hd)
  have hS : gS x1 y1 z1 x2 y2 z2 = gS x2 y2 z2 x1 y1 z1 := by
    unfold gS
    rw [K p.y q.z p.z q.y, K p.z q.x p.x q.z, K p.x q.y p.y q.x]
  have hD : gD x1 y1 z1 x2 y2 z2 = gD x2 y2 z2 x1 y1 z1 := by
    unfold gD
    rw [FM_comm (N p.x) (N q.x), FM_comm (N p.y) (N q.y), FM_comm (N p.z) (N q.z)]
  unfold gW gL
  rw [hS, hD]

/-- A place's point: as the program has it, and as the document's answer has it. -/
def ptX (lon lat : Int) : Nat := FM (uz (cosV (nrm lat))) (uz (cosV (nrm lon)))
def ptY (lon lat : Int) : Nat := FM (uz (cosV (nrm lat))) (uz (sinV (nrm lon)))
def ptZ (lat : Int) : Nat := uz (sinV (nrm lat))
def prX (lon lat : Int) : Nat := FM (cosV (nrm lat)) (cosV (nrm lon))
def prY (lon lat : Int) : Nat := FM (cosV (nrm lat)) (sinV (nrm lon))
def prZ (lat : Int) : Nat := sinV (nrm lat)
theorem pt_eqs (lon lat : Int) : Ieee.double.mul (uz (cosV (nrm lat))) (uz (cosV (nrm lon))) = some (ptX lon lat) ∧ Ieee.double.mul (uz (cosV (nrm lat))) (uz (sinV (nrm lon))) = some (ptY lon lat) ∧ Ieee.double.mul (cosV (nrm lat)) (cosV (nrm lon)) = some (prX lon lat) ∧ Ieee.double.mul (cosV (nrm lat)) (sinV (nrm lon)) = some (prY lon lat) ∧
    P3 (ptX lon lat) (ptY lon lat) (ptZ lat) ∧ P3 (prX lon lat) (prY lon lat) (prZ lat) ∧ SameZ (ptX lon lat) (prX lon lat) ∧ SameZ (ptY lon lat) (prY lon lat) ∧ SameZ (ptZ lat) (prZ lat) := by
  obtain ⟨l0, l1⟩ := nrm_lt lat
  obtain ⟨m0, m1⟩ := nrm_lt lon
  obtain ⟨s1, c1⟩ := sin_le _ l0 l1
  obtain ⟨s2, c2⟩ := sin_le _ m0 m1
  obtain ⟨zs1, us1⟩ := uz_of s1 (by decide)
  obtain ⟨zc1, uc1⟩ := uz_of c1 (by decide)
  obtain ⟨zs2, us2⟩ := uz_of s2 (by decide)
  obtain ⟨zc2, uc2⟩ := uz_of c2 (by decide)
  have N : ∀ {x}, Le 1136 x → Num x := fun h => h.num (by decide) (by decide)
  have L : ∀ {a b : Nat}, Le 1136 a → Le 1136 b → Le 1251 (FM a b) := fun ha hb => FM_le ha hb (by decide) (by decide) (by decide) (by decide) _ (by decide) (by decide) (by decide)
  exact ⟨mul_num (N uc1) (N uc2), mul_num (N uc1) (N us2), mul_num (N c1) (N c2), mul_num (N c1) (N s2), ⟨L uc1 uc2, L uc1 us2, us1.mono (by decide)⟩, ⟨L c1 c2, L c1 s2, s1.mono (by decide)⟩, FM_zz (N uc1) (N uc2) zc1 zc2, FM_zz (N uc1) (N us2) zc1 zs2, zs1⟩
end Go.Proofs.Ytmiamfnnccjmeac
