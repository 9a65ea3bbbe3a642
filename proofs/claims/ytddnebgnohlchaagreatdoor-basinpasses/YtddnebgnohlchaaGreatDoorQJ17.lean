/-
  mercatorref4.HomeOf, mercatorlaw4.homes.; DrainFloods: where the raster is no small one; where it is no right one.; BasinParts: what the statement looks for; based; the ways in which nothing is looked at.
-/
import Derived.Test.YtddnebgnohlchaaGreatDoorQJ15
import Derived.Test.YtddnebgnohlchaaGreatDoorQDrT
import Derived.Test.YtddnebgnohlchaaGreatDoorQJ12
import Derived.Test.YtddnebgnohlchaaGreatDoorQJ4
import Derived.Test.YtddnebgnohlchaaGreatDoorQJ16
namespace Go.Proofs.YtddnebgnohlchaaGreatDoor
open Go.RowKit
attribute [local go_sem ↓] Go.wp_at_zero Go.wp_at_succ

/-- The reference's flood says where each flows. -/
def TwL (m n : Nat) (l Lt : List Int) : Prop := Lt.length = l.length ∧ ∀ i, i < l.length → gl Lt i = (tw m n l i : Int)
theorem TwL.of {m n : Nat} {l Lf Lt Ls : List Int} (ok : Ok l m n) (h : RSy l (flo m n l l.length) Lf Lt Ls) : TwL m n l Lt :=
  ⟨h.ll.2.1, fun i hi => by
    rw [h.t i hi]
    unfold twV
    rw [if_neg (by rw [flo_all m n l ok.m1 ok.len i hi]; omega)]
    rfl⟩
set_option maxRecDepth 4000 in
set_option maxHeartbeats 8000000 in
theorem homeOf_any {m n : Nat} {l Lt : List Int} (ok : Ok l m n) {TO : Nat} (v1 v3 : Value) (c : Nat) (hc : c < l.length) (w : World) (hT : At w TO (ir Lt)) (hLt : TwL m n l Lt) : Calls Tryz.prog 32 #[.agg #[v1, .slice (some ⟨TO, 0, none⟩) l.length l.length, v3], .int .i64 (c : Int)] w fun e w' => e = .returned (.int .i64 (hom m n l c : Int)) ∧ Gr w w' := by
  obtain ⟨p, hp, hpc⟩ := oc_all m n l ok.m1 ok.len hc
  have A0 := hidb (At.new3 w v1 (.slice (some ⟨TO, 0, none⟩) l.length l.length) v3 40)
  have G0 := hidb ((Gr.refl w).alloc (.cells #[v1, .slice (some ⟨TO, 0, none⟩) l.length l.length, v3] 40))
  have AT := hidb (hT.alloc (.cells #[v1, .slice (some ⟨TO, 0, none⟩) l.length l.length, v3] 40))
  have HTw := hidb hLt
  have HOk := hidb ok
  obtain ⟨z, hz⟩ : ∃ z : Int, z = (hom m n l c : Int) := ⟨_, rfl⟩
  rw [← hz]
  have HZ := hidb hz
  obtain ⟨N, hN⟩ : ∃ N, N = l.length := ⟨_, rfl⟩
  have HN := hidb hN
  rw [← hN] at A0 G0 AT hp ⊢
  have HP := hidb (show p < N ∧ oc m n l p = c from ⟨hp, hpc⟩)
  clear hc hT hLt ok hz hN hp hpc
  go_enter Tryz.func32, Tryz.ntmps32
  go_wp2
  generalize w.alloc (.cells #[v1, .slice (some ⟨TO, 0, none⟩) N N, v3] 40) = w1 at *
  go_loopg [1] p (fun gk s wr => ∃ x : Nat, s = .int .i64 (x : Int) ∧ Hid (gk < N ∧ oc m n l gk = x ∧ hom m n l x = hom m n l c ∧ wr = w1))
  case atStart => exact ⟨c, rfl, hidb ⟨HP.out.1, HP.out.2, rfl, rfl⟩⟩
  case round =>
    obtain ⟨x, rfl, E⟩ := hrel
    have hwr := E.out.2.2.2
    subst hwr
    have hxl : x < l.length := by rw [← E.out.2.1]; exact oc_lt m n l HOk.out.m1 HOk.out.len (by rw [← HN.out]; exact E.out.1)
    have hxN : x < N := by rw [HN.out]; exact hxl
    have ix := iindex TO 0 N N x hxN
    rw [Nat.zero_add] at ix
    have cT := (AT.out.get (j := x) (by rw [HTw.out.1]; exact hxl)).1
    rw [gl_get (by rw [HTw.out.1]; exact hxl), HTw.out.2 x hxl] at cT
    have q1 := A0.out.c3.2.1
    by_cases hf : tw m n l x = x
    · have HE : Hid (z = (x : Int)) := by show _ = _; rw [HZ.out, ← E.out.2.2.1, hom_self m n l hf]
      rw [hf] at cT
      clear E hf hxl hxN
      go_wp2
      go_ret
      exact ⟨by rw [HE.out]; rfl, G0.out⟩
    · have HE : Hid (∃ j, j < gk ∧ oc m n l j = tw m n l x) := by
        have h := (oc_bef m n l HOk.out.m1 HOk.out.len (k := gk) (by rw [← HN.out]; exact E.out.1))
        rw [E.out.2.1] at h
        exact h.resolve_left hf
      have HH : Hid (hom m n l (tw m n l x) = hom m n l c) := by show _ = _; rw [hom_tw m n l HOk.out.m1 HOk.out.len hxl]; exact E.out.2.2.1
      have hf' : ¬ ((tw m n l x : Nat) : Int) = (x : Int) := by omega
      have HG := hidb E.out.1
      generalize tw m n l x = y at *
      clear E hf hxl hxN
      obtain ⟨j, hj, hjy⟩ := HE.out
      have HJ := hidb (show j < gk ∧ oc m n l j = y from ⟨hj, hjy⟩)
      clear hj hjy
      go_wp2
      go_roundg j
      case measure => exact HJ.out.1
      case rel => exact ⟨y, rfl, hidb ⟨by have := HJ.out.1; have := HG.out; omega, HJ.out.2, HH.out, rfl⟩⟩
/-- The first so many basins. -/
def hmP (m n : Nat) (l : List Int) (k : Nat) : List Int := (List.range k).map (fun c => (hom m n l c : Int))
theorem hmP_snoc (m n : Nat) (l : List Int) (k : Nat) : hmP m n l k ++ [(hom m n l k : Int)] = hmP m n l (k + 1) := by simp [hmP, List.range_succ]
theorem hmP_len (m n : Nat) (l : List Int) (k : Nat) : (hmP m n l k).length = k := by simp [hmP]
/-- What lies in memory while the homes are told. -/
structure HB (w W : World) (T TO base k : Nat) (t : List Value) (Lt : List Int) (v : Value) (xs : List Int) : Prop where
  t : At W T t
  o : At W TO (ir Lt)
  r : W.ownsRow base 3 1 v k (ir xs)
  gr : Gr w W
  b : (T < base ∧ TO < base) ∧ w.heap.size ≤ base ∧ base ≤ W.heap.size
section
variable {w W : World} {T TO base k : Nat} {t : List Value} {Lt : List Int} {v : Value} {xs : List Int}
theorem HB.below {w' : World} (h : HB w W T TO base k t Lt v xs) (hB : Below W.heap.size W w') : HB w w' T TO base k t Lt v xs :=
  ⟨At.below hB h.t, At.below hB h.o, own_keep h.r hB, Gr.step h.gr hB, h.b.1, h.b.2.1, Nat.le_trans h.b.2.2 hB.size⟩
theorem HB.app {w' : World} {ob : Obj} {v' : Value} {xs' : List Int} (h : HB w W T TO base k t Lt v xs) (hown : w'.ownsRow base 3 1 v' (k + 1) (ir xs')) (hg : (W.alloc ob).grownBy w' v.ownBlock) : HB w w' T TO base (k + 1) t Lt v' xs' := by
  have hv : ∀ i, i < base → v.ownBlock ≠ some i := fun i hi e => by have := (h.r.lt i e).1; omega
  exact ⟨At.grow (h.t.alloc ob) hg (hv _ h.b.1.1), At.grow (h.o.alloc ob) hg (hv _ h.b.1.2), hown, gr_app h.gr h.r h.b.2.1 hg, h.b.1, h.b.2.1, by have := hg.size; have := h.b.2.2; simp at *; omega⟩
end
set_option maxRecDepth 4000 in
set_option maxHeartbeats 8000000 in
theorem homes_any {m n pb po Lb Lo Lcap : Nat} {l Lt : List Int} (ok : Ok l m n) {TO : Nat} (v1 v3 : Value) (w : World) (hp : PtR w pb po m n (.slice (some ⟨Lb, Lo, none⟩) l.length Lcap)) (hT : At w TO (ir Lt)) (hLt : TwL m n l Lt) : Calls Tryz.prog 11 #[.pointer (some ⟨pb, po, none⟩), .agg #[v1, .slice (some ⟨TO, 0, none⟩) l.length l.length, v3]] w fun e w' => ∃ v, e = .returned v ∧ ∃ base, w'.ownsRow base 3 1 v l.length (ir (hmL m n l)) ∧ w.heap.size ≤ base ∧ Gr w w' := by
  have hlen := ok.len_le
  have E0 : Hid (HB w (w.alloc (.cells #[v1, .slice (some ⟨TO, 0, none⟩) l.length l.length, v3] 40)) w.heap.size TO (w.heap.size + 1) 0 [v1, .slice (some ⟨TO, 0, none⟩) l.length l.length, v3] Lt (.slice none 0 0) (hmP m n l 0)) :=
    ⟨At.new3 _ _ _ _ _, hT.alloc _, World.ownsRow_nil _ _ _ _, (Gr.refl w).alloc _, ⟨Nat.lt_succ_self _, Nat.lt_succ_of_lt hT.lt⟩, Nat.le_succ _, by simp⟩
  have HH := hidb (fun c (hc : c < l.length) W (hA : At W TO (ir Lt)) => homeOf_any ok v1 v3 c hc W hA hLt)
  have HPt := hidb hp
  have HE : Hid (hmP m n l l.length = hmL m n l) := rfl
  obtain ⟨N, hN⟩ : ∃ N, N = l.length := ⟨_, rfl⟩
  rw [← hN] at E0 HPt HH HE hlen ⊢
  have HL := hidb hlen
  clear hT hLt ok hp hlen hN
  go_enter Tryz.func11, Tryz.ntmps11
  go_wp2
  generalize w.alloc (.cells #[v1, .slice (some ⟨TO, 0, none⟩) N N, v3] 40) = w1 at *
  go_loopw [5, 6] (fun s t wr => ∃ k : Nat, k ≤ N ∧ t = .int .i64 (k : Int) ∧ Hid (HB w wr w.heap.size TO (w.heap.size + 1) k [v1, .slice (some ⟨TO, 0, none⟩) N N, v3] Lt s (hmP m n l k))) (fun _ t _ => N - (intOf t).toNat)
  case atStart => exact ⟨0, Nat.zero_le _, rfl, E0⟩
  case round =>
    clear E0
    obtain ⟨k, hk, rfl, E⟩ := hrel
    obtain ⟨ad1, cap1, rfl⟩ := own_shape1' E.out.r
    obtain ⟨p0, p1, p2⟩ := (HPt.out.below E.out.gr.out).all
    by_cases h1 : ¬ k < N
    · have h1' : ¬ (k : Int) < (N : Int) := by omega
      obtain rfl : k = N := by omega
      have HZ := hidb (show wr.ownsRow (w.heap.size + 1) 3 1 (.slice ad1 k cap1) k (ir (hmL m n l)) by rw [← HE.out]; exact E.out.r)
      clear h1
      go_wp2
      go_ret
      exact ⟨_, rfl, w.heap.size + 1, HZ.out, Nat.le_succ _, E.out.gr⟩
    · have h1' : (k : Int) < (N : Int) := by omega
      have hkN : k < N := by omega
      have e1 : IntKind.i64.wrap ((k : Int) + 1) = ((k + 1 : Nat) : Int) := by rw [show (k : Int) + 1 = ((k + 1 : Nat) : Int) by omega]; exact wrap_in (by have := HL.out; omega) (by have := HL.out; omega)
      have HC := hidb (HH.out k hkN wr E.out.o)
      obtain ⟨z, hz⟩ : ∃ z : Int, z = (hom m n l k : Int) := ⟨_, rfl⟩
      rw [← hz] at HC
      have HS := hidb (hmP_snoc m n l k)
      rw [← hz] at HS
      have HKl := hidb (show (hmP m n l k).length = k ∧ k ≤ 16384 from ⟨hmP_len m n l k, by have := HL.out; omega⟩)
      obtain ⟨q0, q1, q2⟩ := E.out.t.c3
      clear h1 hz
      go_wp2_with fail
      refine HC.out.mono ?_
      rintro e w2 ⟨rfl, hB⟩
      replace E := hidb (E.out.below hB.out)
      clear hB q0 q1 q2 p0 p1 p2
      go_wp2_with (at_builtin; refine wpList_i1 _ (w.heap.size + 1) (.slice ad1 k cap1) (hmP m n l k) z k w2.heap.size _ _ rfl rfl rfl rfl HKl.out.1 (by have := HKl.out; omega) (E.out.r.alloc _) (At.new1 _ _ _) (by have := E.out.b; simp; omega) ?_; intro g2 cap2 w3 hown hgrow)
      rw [HS.out] at hown
      have HE3 := hidb (E.out.app hown.out hgrow.out)
      go_roundw
      case rel => exact ⟨k + 1, by omega, by go_num, HE3⟩
      case measure => simp [intOf]; omega
end Go.Proofs.YtddnebgnohlchaaGreatDoor
namespace Go.Proofs.YtddnebgnohlchaaGreatDoor
open Go.RowKit
attribute [local go_sem ↓] Go.wp_at_zero Go.wp_at_succ

end Go.Proofs.YtddnebgnohlchaaGreatDoor
namespace Go.Proofs.YtddnebgnohlchaaGreatDoor
open Go.RowKit
attribute [local go_sem ↓] Go.wp_at_zero Go.wp_at_succ

/-- The divides, as far as the statement has come. -/
def dvQ (m n : Nat) (l : List Int) (i j : Nat) : List Wt := (prK m n [0, 6] i ++ prJ m n i [0, 6] j).filter (apt m n l)
theorem dvQ_0 (m n : Nat) (l : List Int) (i : Nat) : dvQ m n l i 0 = (prK m n [0, 6] i).filter (apt m n l) := by unfold dvQ; simp [prJ]
theorem dvQ_2 (m n : Nat) (l : List Int) (i : Nat) : dvQ m n l i 2 = dvQ m n l (i + 1) 0 := by
  rw [dvQ_0, prK_snoc]
  rfl
theorem dvQ_end (m n : Nat) (l : List Int) : dvQ m n l l.length 0 = dvL m n l := dvQ_0 m n l _
theorem prK_pre (m n : Nat) (D : List Nat) (k : Nat) : ∀ d, prK m n D k <+: prK m n D (k + d)
  | 0 => List.prefix_refl _
  | d + 1 => by
    rw [← Nat.add_assoc, prK_snoc]
    exact (prK_pre m n D k d).trans (List.prefix_append _ _)
theorem dvQ_pre {m n : Nat} {l : List Int} {i : Nat} (hi : i < l.length) {j : Nat} (hj : j ≤ 2) : dvQ m n l i j <+: dvL m n l := by
  have h1 : prJ m n i [0, 6] j <+: prJ m n i [0, 6] 2 := by
    unfold prJ
    have : ([0, 6] : List Nat).take j <+: ([0, 6] : List Nat).take 2 := List.take_prefix_take_left hj
    obtain ⟨r, hr⟩ := this
    rw [← hr, List.flatMap_append]
    exact List.prefix_append _ _
  have h2 : prK m n [0, 6] i ++ prJ m n i [0, 6] j <+: prK m n [0, 6] (i + 1) := by
    rw [prK_snoc]
    exact (List.prefix_append_right_inj _).2 h1
  have h3 := prK_pre m n [0, 6] (i + 1) (l.length - (i + 1))
  rw [show i + 1 + (l.length - (i + 1)) = l.length by omega] at h3
  exact (h2.trans h3).filter _
theorem pre_at {P Q : List Wt} {x : Wt} (h : P ++ [x] <+: Q) : P.length < Q.length ∧ wx Q P.length = x := by
  obtain ⟨r, rfl⟩ := h
  constructor
  · simp
  · unfold wx
    simp
theorem nb_east {m n i : Nat} (hm : 1 ≤ m) (hi : i < m * n) : nbO m n i 0 = if (i + 1) % m = 0 then none else some (i + 1) := by
  have e1 : dE 0 = 1 := rfl
  have e2 : dN 0 = 0 := rfl
  have hd := Nat.div_add_mod i m
  have hr := Nat.mod_lt i (show 0 < m by omega)
  have hq : i / m < n := Nat.div_lt_of_lt_mul hi
  have hmod : (i + 1) % m = 0 ↔ i % m + 1 = m := by
    rw [← Nat.mod_add_mod]
    constructor
    · intro h
      by_cases c : i % m + 1 < m
      · rw [Nat.mod_eq_of_lt c] at h; omega
      · omega
    · intro h; rw [h, Nat.mod_self]
  unfold nbO
  rw [e1, e2]
  generalize i / m = q at *
  generalize i % m = r at *
  by_cases c : (i + 1) % m = 0
  · rw [if_pos c, if_pos (.inr (.inl (by have := hmod.1 c; omega)))]
  · have c' : ¬ r + 1 = m := fun h => c (hmod.2 h)
    rw [if_neg c, if_neg (by rintro (h | h | h) <;> omega)]
    congr 1
    rw [show ((q : Int) - 0).toNat = q by omega, show ((r : Int) + 1).toNat = r + 1 by omega, Nat.mul_comm]
    omega
theorem nb_south {m n i : Nat} (hm : 1 ≤ m) (hi : i < m * n) : nbO m n i 6 = if m * n ≤ i + m then none else some (i + m) := by
  have e1 : dE 6 = 0 := rfl
  have e2 : dN 6 = -1 := rfl
  have hd := Nat.div_add_mod i m
  have hr := Nat.mod_lt i (show 0 < m by omega)
  have hq : i / m < n := Nat.div_lt_of_lt_mul hi
  have hle : m * n ≤ i + m ↔ i / m + 1 = n := by
    constructor
    · intro h
      by_cases c : i / m + 2 ≤ n
      · have h2 := Nat.mul_le_mul_left m c
        rw [Nat.mul_add] at h2
        omega
      · omega
    · intro h
      rw [← h, Nat.mul_add, Nat.mul_one]
      omega
  unfold nbO
  rw [e1, e2]
  generalize i / m = q at *
  generalize i % m = r at *
  by_cases c : m * n ≤ i + m
  · rw [if_pos c, if_pos (.inr (.inr (by have := hle.1 c; omega)))]
  · have c' : ¬ q + 1 = n := fun h => c (hle.2 h)
    rw [if_neg c, if_neg (by rintro (h | h | h) <;> omega)]
    congr 1
    rw [show ((q : Int) - -1).toNat = q + 1 by omega, show ((r : Int) + 0).toNat = r by omega, Nat.add_mul, Nat.one_mul, Nat.mul_comm]
    omega
theorem dvQ_east {m n : Nat} {l : List Int} (ok : Ok l m n) {i : Nat} (hi : i < l.length) :
    (((i + 1) % m = 0 ∨ hom m n l i = hom m n l (i + 1)) → dvQ m n l i 1 = dvQ m n l i 0) ∧ (¬ (i + 1) % m = 0 → ¬ hom m n l i = hom m n l (i + 1) → dvQ m n l i 1 = dvQ m n l i 0 ++ [((i : Int), i + 1)]) ∧ (¬ (i + 1) % m = 0 → i + 1 < l.length) := by
  have hi' : i < m * n := by rw [← ok.len]; exact hi
  have e := nb_east ok.m1 hi'
  have hq : dvQ m n l i 1 = dvQ m n l i 0 ++ (pr1 m n i 0).filter (apt m n l) := by
    unfold dvQ
    rw [prJ_snoc (show 0 < ([0, 6] : List Nat).length by decide), ← List.append_assoc, List.filter_append]
    rfl
  refine ⟨fun h => ?_, fun h1 h2 => ?_, fun h => ?_⟩
  · rw [hq]
    unfold pr1
    rw [e]
    by_cases c : (i + 1) % m = 0
    · rw [if_pos c]; simp
    · rw [if_neg c]
      have := h.resolve_left c
      simp [apt, this]
  · rw [hq]
    unfold pr1
    rw [e, if_neg h1]
    simp [apt, h2]
  · rw [if_neg h] at e
    rw [ok.len]
    exact nb_lt e
theorem dvQ_south {m n : Nat} {l : List Int} (ok : Ok l m n) {i : Nat} (hi : i < l.length) :
    ((l.length ≤ i + m ∨ hom m n l i = hom m n l (i + m)) → dvQ m n l i 2 = dvQ m n l i 1) ∧ (¬ l.length ≤ i + m → ¬ hom m n l i = hom m n l (i + m) → dvQ m n l i 2 = dvQ m n l i 1 ++ [((i : Int), i + m)]) := by
  have hi' : i < m * n := by rw [← ok.len]; exact hi
  have e := nb_south ok.m1 hi'
  rw [← ok.len] at e
  have hq : dvQ m n l i 2 = dvQ m n l i 1 ++ (pr1 m n i 6).filter (apt m n l) := by
    unfold dvQ
    rw [prJ_snoc (show 1 < ([0, 6] : List Nat).length by decide), ← List.append_assoc, List.filter_append]
    rfl
  refine ⟨fun h => ?_, fun h1 h2 => ?_⟩
  · rw [hq]
    unfold pr1
    rw [e]
    by_cases c : l.length ≤ i + m
    · rw [if_pos c]; simp
    · rw [if_neg c]
      have := h.resolve_left c
      simp [apt, this]
  · rw [hq]
    unfold pr1
    rw [e, if_neg h1]
    simp [apt, h2]
def l2 : List Int := [1, 2]
theorem l2_ok : Ok l2 2 1 ∧ vcode 2 1 l2 = 0 := by
  have h : ∀ x ∈ l2, hiI x := by decide
  exact ⟨⟨by decide, by decide, by decide, by decide, by decide, hi_gl h⟩, by decide⟩
theorem l2_hom : hmL 2 1 l2 = [0, 1] := by
  have h0 : tw 2 1 l2 0 = 0 := (tw_fix 2 1 l2 (by decide) (by decide) (by decide)).2 (by decide)
  have h1 : tw 2 1 l2 1 = 1 := (tw_fix 2 1 l2 (by decide) (by decide) (by decide)).2 (by decide)
  have : hmL 2 1 l2 = [(hom 2 1 l2 0 : Int), (hom 2 1 l2 1 : Int)] := rfl
  rw [this, hom_self 2 1 l2 h0, hom_self 2 1 l2 h1]
  rfl
set_option maxRecDepth 4000 in
set_option maxHeartbeats 4000000 in
theorem based_any (g : Nat → Addr) (w : World) (hl : Lai w g) : Calls Tryz.prog 5 #[] w fun e w' => e = .returned (.bool true) ∧ Gr w w' := by
  have hA := At.newRow w (ir l2) 3
  have hR : Rs (w.alloc (.cells (ir l2).toArray 3)) w.heap.size 0 2 l2 := ⟨fun i hi => by
    have h := (hA.1 i (by simpa [ir] using hi)).1
    rw [Nat.zero_add, h]
    simp [ir], hA.lt, by decide⟩
  have G0 := (Gr.refl w).alloc (.cells (ir l2).toArray 3)
  have HF := hidb (basins_ok g (m := 2) (n := 1) (l := l2) _ hR l2_ok.1 l2_ok.2 (hl.below G0.out))
  have HG0 := hidb G0
  clear hA hR hl G0
  go_enter Tryz.func5, Tryz.ntmps5
  go_wp2_with fail
  refine HF.out.mono ?_
  rintro e w1 ⟨FL, rfl, hA, hFL, hG⟩
  rw [l2_hom] at hA
  obtain ⟨c0, c1⟩ := (show At w1 FL [.int .i64 0, .int .i64 1] from hA).c2
  have HG1 := hidb (Gr.step HG0.out hG.out)
  clear hA hFL hG
  have i0 := iindex FL 0 2 2 0 (by decide)
  have i1 := iindex FL 0 2 2 1 (by decide)
  rw [Nat.zero_add] at i0 i1
  have hl2 : l2.length = 2 := rfl
  rw [hl2]
  go_wp2
  go_ret
  exact ⟨rfl, HG1.out⟩
end Go.Proofs.YtddnebgnohlchaaGreatDoor
