/-
  Rasters: cells, right ones, slices that lie in their blocks.; mercatorref3.TouchOf.
-/
import Derived.Test.YtlhligeicnejbaaDoorQJ1
import Derived.Test.YtlhligeicnejbaaDoorQJ2
import Derived.Deep.RegionHeldLaw
import Derived.Maps.AppendAt
namespace Go.Proofs.YtlhligeicnejbaaDoor
open Go.RowKit

/-- A cell's height; a raster that is right. -/
def gl (l : List Int) (i : Nat) : Int := l.getD i 0
theorem gl_get {l : List Int} {i : Nat} (h : i < l.length) : l[i] = gl l i := by unfold gl; simp [h]
structure Ok (l : List Int) (m n : Nat) : Prop where
  m1 : 1 ≤ m
  m2 : m ≤ 128
  n1 : 1 ≤ n
  n2 : n ≤ 128
  len : l.length = m * n
  hi : ∀ i, hiI (gl l i)
theorem hi_gl {l : List Int} (h : ∀ x ∈ l, hiI x) (i : Nat) : hiI (gl l i) := by
  by_cases c : i < l.length
  · rw [← gl_get c]; exact h _ (List.getElem_mem c)
  · unfold gl; rw [List.getD_eq_getElem?_getD, List.getElem?_eq_none (by omega)]; decide
theorem ok_of {W H : Int} {l : List Int} (h : vcode W H l = 0) : ∃ m n : Nat, W = m ∧ H = n ∧ Ok l m n := by
  unfold vcode at h
  split at h
  · cases h
  · rename_i h1
    split at h
    · cases h
    · rename_i h2
      split at h
      · rename_i h3
        have h4 : (l.length : Int) = W * H := Classical.not_not.1 (fun k => h2 (.inr k))
        refine ⟨W.toNat, H.toNat, by omega, by omega, by omega, by omega, by omega, by omega, ?_, hi_gl h3⟩
        have e1 : ((W.toNat : Nat) : Int) = W := by omega
        have e2 : ((H.toNat : Nat) : Int) = H := by omega
        have : (l.length : Int) = ((W.toNat * H.toNat : Nat) : Int) := by rw [Int.natCast_mul, e1, e2]; exact h4
        omega
      · cases h
theorem Ok.len_le {l : List Int} {m n : Nat} (h : Ok l m n) : l.length ≤ 16384 := by
  rw [h.len]; exact Nat.mul_le_mul h.m2 h.n2
theorem Ok.cell {l : List Int} {m n c r : Nat} (h : Ok l m n) (hc : c < m) (hr : r < n) : r * m + c < l.length := by
  rw [h.len]
  have : (r + 1) * m ≤ n * m := Nat.mul_le_mul_right m hr
  rw [Nat.add_mul, Nat.mul_comm n m] at this
  omega
/-- A slice of whole numbers that lies in its block, and may be cut. -/
structure Rs (w : World) (b o cap : Nat) (l : List Int) : Prop where
  row : ∀ i, (h : i < l.length) → w.cell? ⟨b, o + i, none⟩ = some (.int .i64 l[i])
  lt : b < w.heap.size
  cap : l.length ≤ cap
theorem Rs.below {W w' : World} {b o cap : Nat} {l : List Int} (h : Rs W b o cap l) (hB : Below W.heap.size W w') : Rs w' b o cap l :=
  ⟨fun i hi => (hB.cell (p := ⟨b, o + i, none⟩) h.lt).trans (h.row i hi), Nat.lt_of_lt_of_le h.lt hB.size, h.cap⟩
theorem Rs.isl {w : World} {b o cap : Nat} {l : List Int} (h : Rs w b o cap l) : ISl w (some ⟨b, o, none⟩) b o cap l := ISl.mk' h.row h.lt
theorem Rs.get {w : World} {b o cap : Nat} {l : List Int} (h : Rs w b o cap l) {i : Nat} (hi : i < l.length) : w.cell? ⟨b, o + i, none⟩ = some (.int .i64 (gl l i)) := by rw [← gl_get hi]; exact h.row i hi
theorem islice (b o n cap k : Nat) (h1 : k < n) (h2 : n ≤ cap) (w : World) : (Instr.slice 30 (.slice (some ⟨b, o, none⟩) n cap) (some (.int .i64 (k : Int))) none none).run Tryd.prog w = .ok (.slice (some ⟨b, o + k, none⟩) (n - k) (cap - k)) w := by
  have hu : Tryd.prog.underlying 30 = some (.slice (Tryd.prog.elem 30)) := by kernel_rfl
  have hs : (sizeOf (Tryd.prog.elem 30)).run Tryd.prog w = .ok 1 w := by kernel_rfl
  rw [run_slice_l w 30 _ _ _ hu .i64 _ (by omega) (by omega), hs]
  have hne : ¬ cap = k := by omega
  by_cases h0 : k = 0
  · subst h0
    simp [Result.andThen, sliced, Addr.add, hne]
  · simp [Result.andThen, sliced, Addr.add, hne, h0]
theorem nat_q {x d : Int} {X D : Nat} (hx : x = (X : Int)) (hd : d = (D : Int)) (h : X ≤ 1000000) : x.tdiv d = ((X / D : Nat) : Int) ∧ x.tmod d = ((X % D : Nat) : Int) ∧ IntKind.i64.wrap ((X / D : Nat) : Int) = ((X / D : Nat) : Int) ∧ IntKind.i64.wrap ((X % D : Nat) : Int) = ((X % D : Nat) : Int) := by
  have h1 : X / D ≤ X := Nat.div_le_self _ _
  have h2 : X % D ≤ X := Nat.mod_le _ _
  subst hx hd
  refine ⟨rfl, rfl, ?_, ?_⟩
  · generalize X / D = q at *
    exact wrap_in (by omega) (by omega)
  · generalize X % D = q at *
    exact wrap_in (by omega) (by omega)
theorem mod_at {m r c : Nat} (hc : c < m) : (r * m + c) % m = c ∧ (r * m + c) / m = r := by
  constructor
  · rw [Nat.add_comm, Nat.add_mul_mod_self_right, Nat.mod_eq_of_lt hc]
  · rw [Nat.add_comm, Nat.add_mul_div_right _ _ (by omega), Nat.div_eq_of_lt hc, Nat.zero_add]
theorem own_keep {w w' : World} {base e size n : Nat} {v : Value} {xs : List Value} (h : w.ownsRow base e size v n xs) (hB : Below w.heap.size w w') : w'.ownsRow base e size v n xs := by
  have hlt := h.lt
  obtain ⟨h1, h2⟩ := h
  refine ⟨h1, ?_⟩
  rcases h2 with h2 | ⟨g, cap, cur, rfl, h3, h4, h5⟩
  · exact .inl h2
  · exact .inr ⟨g, cap, cur, rfl, h3, (hB.block g (hlt g rfl).2).trans h4, h5⟩
theorem gr_app {w W w' : World} {base e n : Nat} {v : Value} {xs : List Value} {o : Obj} (h : Gr w W) (hO : W.ownsRow base e 1 v n xs) (hb : w.heap.size ≤ base) (hg : (W.alloc o).grownBy w' v.ownBlock) : Gr w w' :=
  Below.grown (h.alloc o).out hg (by have := h.out.size; simp; omega) (fun k hk => by have := (hO.lt k hk).1; omega)
theorem news1r {w : World} {ad : Addr} {x : Value} {j : Nat} {u : Value} (hj : ([x] : List Value)[j]? = some u) (h : w.cell? (ad.add 0) = some x) : w.cell? (ad.add j) = some u := by
  match j with
  | 0 => simp at hj; subst hj; exact h
  | j + 1 => simp at hj
theorem own_isl2 {w : World} {base : Nat} {v : Value} {n : Nat} {l : List Int} (h : w.ownsRow base 3 1 v n (ir l)) : ∃ ad b cap, v = .slice ad l.length cap ∧ ISl w ad b 0 cap l := by
  have hn : n = l.length := by have := h.1; simp [ir] at this; omega
  subst hn
  obtain ⟨h1, h | ⟨g, cap, cur, hv, hb, hg, hc, hm, hs, ht⟩⟩ := h
  · obtain ⟨rfl, h0⟩ := h
    have : l = [] := List.eq_nil_of_length_eq_zero h0
    subst this
    exact ⟨none, 0, 0, rfl, ISl.nil _ _ _ _ _⟩
  · refine ⟨_, g, cap, hv, ISl.mk' ?_ ?_⟩
    · intro i hi
      have e : cur.toList[i]? = some (.int .i64 l[i]) := by
        have : (cur.toList.take (l.length * 1))[i]? = (ir l)[i]? := by rw [ht]
        rw [List.getElem?_take] at this
        rw [if_pos (by omega)] at this
        rw [this]
        simp [ir, hi]
      simp [World.cell?, hg]
      simpa using e
    · rcases Nat.lt_or_ge g w.heap.size with c | c
      · exact c
      · rw [Array.getElem?_eq_none c] at hg; cases hg
end Go.Proofs.YtlhligeicnejbaaDoor
namespace Go.Proofs.YtlhligeicnejbaaDoor
open Go.RowKit

/-- Do two cells touch? -/
def tch (m i k : Nat) : Prop := i ≠ k ∧ (i % m ≤ k % m + 1 ∧ k % m ≤ i % m + 1) ∧ (i / m ≤ k / m + 1 ∧ k / m ≤ i / m + 1)
instance (m i k : Nat) : Decidable (tch m i k) := by unfold tch; exact inferInstance
theorem sq_le {x : Int} (h1 : -20000 ≤ x) (h2 : x ≤ 20000) : (x * x ≤ 1 ↔ -1 ≤ x ∧ x ≤ 1) ∧ 0 ≤ x * x ∧ x * x ≤ 400000000 := by
  have a1 : 0 ≤ x * x := by rcases Int.le_total 0 x with h | h; exact Int.mul_nonneg h h; exact Int.mul_nonneg_of_nonpos_of_nonpos h h
  refine ⟨⟨fun h => ?_, fun ⟨h3, h4⟩ => ?_⟩, a1, ?_⟩
  · constructor
    · rcases Int.lt_or_le x (-1) with c | c
      · have : 2 * 2 ≤ (-x) * (-x) := Int.mul_le_mul (by omega) (by omega) (by omega) (by omega)
        rw [Int.neg_mul_neg] at this; omega
      · exact c
    · rcases Int.lt_or_le 1 x with c | c
      · have : 2 * 2 ≤ x * x := Int.mul_le_mul (by omega) (by omega) (by omega) (by omega)
        omega
      · exact c
  · rcases Int.lt_or_le x 0 with c | c
    · have e : x = -1 := by omega
      subst e; decide
    · rcases Int.lt_or_le 0 x with c | c
      · have e : x = 1 := by omega
        subst e; decide
      · have e : x = 0 := by omega
        subst e; decide
  · rcases Int.le_total 0 x with h | h
    · have : x * x ≤ 20000 * 20000 := Int.mul_le_mul h2 h2 h (by omega)
      omega
    · have : (-x) * (-x) ≤ 20000 * 20000 := Int.mul_le_mul (by omega) (by omega) (by omega) (by omega)
      rw [Int.neg_mul_neg] at this; omega
set_option maxRecDepth 4000 in
set_option maxHeartbeats 4000000 in
theorem touchOf_any {pb po m : Nat} {H : Int} {v : Value} (i k : Nat) (hm : 1 ≤ m) (hi : i ≤ 16384) (hk : k ≤ 16384) (w : World) (hp : PtR w pb po m H v) : Calls Tryd.prog 25 #[.pointer (some ⟨pb, po, none⟩), .int .i64 (i : Int), .int .i64 (k : Int)] w fun e w' => e = .returned (.bool (decide (tch m i k))) ∧ Gr w w' := by
  have HP := hidb hp
  obtain ⟨iI, hiI'⟩ : ∃ z : Int, z = (i : Int) := ⟨_, rfl⟩
  obtain ⟨kI, hkI'⟩ : ∃ z : Int, z = (k : Int) := ⟨_, rfl⟩
  obtain ⟨mI, hmI⟩ : ∃ z : Int, z = (m : Int) := ⟨_, rfl⟩
  obtain ⟨q1, r1, s1, s2⟩ := nat_q hiI' hmI (by omega)
  obtain ⟨q2, r2, s3, s4⟩ := nat_q hkI' hmI (by omega)
  have b1 : i % m ≤ i := Nat.mod_le _ _
  have b2 : k % m ≤ k := Nat.mod_le _ _
  have b3 : i / m ≤ i := Nat.div_le_self _ _
  have b4 : k / m ≤ k := Nat.div_le_self _ _
  obtain ⟨im, him⟩ : ∃ z : Nat, z = i % m := ⟨_, rfl⟩
  obtain ⟨km, hkm⟩ : ∃ z : Nat, z = k % m := ⟨_, rfl⟩
  obtain ⟨iq, hiq⟩ : ∃ z : Nat, z = i / m := ⟨_, rfl⟩
  obtain ⟨kq, hkq⟩ : ∃ z : Nat, z = k / m := ⟨_, rfl⟩
  have ht : decide (tch m i k) = (decide (¬ iI = kI) && decide ((im : Int) - (km : Int) ≤ 1 ∧ -1 ≤ (im : Int) - (km : Int)) && decide ((iq : Int) - (kq : Int) ≤ 1 ∧ -1 ≤ (iq : Int) - (kq : Int))) := by
    rw [← Bool.decide_and, ← Bool.decide_and]
    apply decide_eq_decide.2
    unfold tch
    rw [← him, ← hkm, ← hiq, ← hkq]
    omega
  rw [ht]
  rw [← him] at r1 s2 b1
  rw [← hkm] at r2 s4 b2
  rw [← hiq] at q1 s1 b3
  rw [← hkq] at q2 s3 b4
  have e0 : ¬ mI = 0 := by omega
  obtain ⟨u, hu, e1⟩ : ∃ z : Int, z = (im : Int) - (km : Int) ∧ IntKind.i64.wrap ((im : Int) - (km : Int)) = z := ⟨_, rfl, wrap_in (by omega) (by omega)⟩
  obtain ⟨t, ht', e2⟩ : ∃ z : Int, z = (iq : Int) - (kq : Int) ∧ IntKind.i64.wrap ((iq : Int) - (kq : Int)) = z := ⟨_, rfl, wrap_in (by omega) (by omega)⟩
  rw [← hu, ← ht']
  obtain ⟨c1, c2, c3⟩ := sq_le (x := u) (by omega) (by omega)
  obtain ⟨d1, d2, d3⟩ := sq_le (x := t) (by omega) (by omega)
  rw [show decide (u ≤ 1 ∧ -1 ≤ u) = decide (u * u ≤ 1) from decide_eq_decide.2 (by rw [c1]; exact And.comm), show decide (t ≤ 1 ∧ -1 ≤ t) = decide (t * t ≤ 1) from decide_eq_decide.2 (by rw [d1]; exact And.comm)]
  obtain ⟨uu, hu2, e3⟩ : ∃ z : Int, z = u * u ∧ IntKind.i64.wrap (u * u) = z := ⟨_, rfl, wrap_in (by omega) (by omega)⟩
  obtain ⟨tt, ht2, e4⟩ : ∃ z : Int, z = t * t ∧ IntKind.i64.wrap (t * t) = z := ⟨_, rfl, wrap_in (by omega) (by omega)⟩
  rw [← hu2, ← ht2]
  rw [← hmI] at HP
  rw [← hiI', ← hkI']
  clear hp hu ht' c1 c2 c3 d1 d2 d3 ht b1 b2 b3 b4 hiI' hkI' hmI hm hi hk hu2 ht2 him hkm hiq hkq
  obtain ⟨p0, p1, p2⟩ := HP.out
  by_cases f1 : iI = kI
  · go_enter Tryd.func25, Tryd.ntmps25
    go_upto_region 1 with fail
    go_quiet (fail)
    go_upto_region 2 with fail
    go_quiet (fail)
    go_wp2
    go_ret
    exact ⟨by simp [f1], (Gr.refl w).drewN _⟩
  · by_cases f2 : uu ≤ 1
    all_goals
      have f1' : (iI != kI) = true := by simpa using f1
      go_enter Tryd.func25, Tryd.ntmps25
      go_upto_region 1 with fail
      go_quiet (fail)
      go_upto_region 2 with fail
      go_quiet (fail)
      go_wp2
      go_ret
      exact ⟨by first | (simp [f1, f2]; done) | (simp; omega), (Gr.refl w).drewN _⟩
end Go.Proofs.YtlhligeicnejbaaDoor
