/-
  mercatorref4.HomeOf, mercatorlaw4.homes.; DrainFloods: where the raster is no small one; where it is no right one.; BasinParts: what the statement looks for; based; the ways in which nothing is looked at.; BasinLakes: the ways in which little is looked at.
-/
import Derived.Test.YtmjlaonlhabblaaDoorQJ12
import Derived.Test.YtmjlaonlhabblaaDoorQDrT
import Derived.Test.YtmjlaonlhabblaaDoorQJ10
import Derived.Test.YtmjlaonlhabblaaDoorQJ3
import Derived.Test.YtmjlaonlhabblaaDoorQJ13
import Derived.Test.YtmjlaonlhabblaaDoorQJ17
namespace Go.Proofs.YtmjlaonlhabblaaDoor
open Go.RowKit
attribute [local go_sem ↓] Go.wp_at_zero Go.wp_at_succ

/-- The reference's flood says where each flows. -/
def TwL (m n : Nat) (l Lt : List Int) : Prop := Lt.length = l.length ∧ ∀ i, i < l.length → gl Lt i = (tw m n l i : Int)
theorem TwL.of {m n : Nat} {l Lf Lt Ls : List Int} (ok : Ok l m n) (h : RSy l (flo m n l l.length) Lf Lt Ls) : TwL m n l Lt :=
  ⟨h.ll.2.1, fun i hi => by
    rw [h.t i hi]
    unfold twV
    rw [if_neg (by rw [flo_all m n l ok.m1 ok.len i hi]; omega)]
    rfl⟩
/-- The first so many basins. -/
def hmP (m n : Nat) (l : List Int) (k : Nat) : List Int := (List.range k).map (fun c => (hom m n l c : Int))
theorem hmP_snoc (m n : Nat) (l : List Int) (k : Nat) : hmP m n l k ++ [(hom m n l k : Int)] = hmP m n l (k + 1) := by simp [hmP, List.range_succ]
theorem hmP_len (m n : Nat) (l : List Int) (k : Nat) : (hmP m n l k).length = k := by simp [hmP]
/-- What lies in memory while the homes are told. -/
structure HB (w W : World) (T TO base k : Nat) (t : List Value) (Lt : List Int) (v : Value) (xs : List Int) : Prop where
  t : At W T t
  o : At W TO (ir Lt)
  r : W.ownsRow base 3 1 v k (ir xs)
  gr : Gr w W
  b : (T < base ∧ TO < base) ∧ w.heap.size ≤ base ∧ base ≤ W.heap.size
section
variable {w W : World} {T TO base k : Nat} {t : List Value} {Lt : List Int} {v : Value} {xs : List Int}
theorem HB.below {w' : World} (h : HB w W T TO base k t Lt v xs) (hB : Below W.heap.size W w') : HB w w' T TO base k t Lt v xs :=
  ⟨At.below hB h.t, At.below hB h.o, own_keep h.r hB, Gr.step h.gr hB, h.b.1, h.b.2.1, Nat.le_trans h.b.2.2 hB.size⟩
theorem HB.app {w' : World} {ob : Obj} {v' : Value} {xs' : List Int} (h : HB w W T TO base k t Lt v xs) (hown : w'.ownsRow base 3 1 v' (k + 1) (ir xs')) (hg : (W.alloc ob).grownBy w' v.ownBlock) : HB w w' T TO base (k + 1) t Lt v' xs' := by
  have hv : ∀ i, i < base → v.ownBlock ≠ some i := fun i hi e => by have := (h.r.lt i e).1; omega
  exact ⟨At.grow (h.t.alloc ob) hg (hv _ h.b.1.1), At.grow (h.o.alloc ob) hg (hv _ h.b.1.2), hown, gr_app h.gr h.r h.b.2.1 hg, h.b.1, h.b.2.1, by have := hg.size; have := h.b.2.2; simp at *; omega⟩
end
end Go.Proofs.YtmjlaonlhabblaaDoor
namespace Go.Proofs.YtmjlaonlhabblaaDoor
open Go.RowKit
attribute [local go_sem ↓] Go.wp_at_zero Go.wp_at_succ

end Go.Proofs.YtmjlaonlhabblaaDoor
namespace Go.Proofs.YtmjlaonlhabblaaDoor
open Go.RowKit
attribute [local go_sem ↓] Go.wp_at_zero Go.wp_at_succ

/-- The divides, as far as the statement has come. -/
def dvQ (m n : Nat) (l : List Int) (i j : Nat) : List Wt := (prK m n [0, 6] i ++ prJ m n i [0, 6] j).filter (apt m n l)
theorem dvQ_0 (m n : Nat) (l : List Int) (i : Nat) : dvQ m n l i 0 = (prK m n [0, 6] i).filter (apt m n l) := by unfold dvQ; simp [prJ]
theorem dvQ_2 (m n : Nat) (l : List Int) (i : Nat) : dvQ m n l i 2 = dvQ m n l (i + 1) 0 := by
  rw [dvQ_0, prK_snoc]
  rfl
theorem dvQ_end (m n : Nat) (l : List Int) : dvQ m n l l.length 0 = dvL m n l := dvQ_0 m n l _
theorem prK_pre (m n : Nat) (D : List Nat) (k : Nat) : ∀ d, prK m n D k <+: prK m n D (k + d)
  | 0 => List.prefix_refl _
  | d + 1 => by
    rw [← Nat.add_assoc, prK_snoc]
    exact (prK_pre m n D k d).trans (List.prefix_append _ _)
theorem dvQ_pre {m n : Nat} {l : List Int} {i : Nat} (hi : i < l.length) {j : Nat} (hj : j ≤ 2) : dvQ m n l i j <+: dvL m n l := by
  have h1 : prJ m n i [0, 6] j <+: prJ m n i [0, 6] 2 := by
    unfold prJ
    have : ([0, 6] : List Nat).take j <+: ([0, 6] : List Nat).take 2 := List.take_prefix_take_left hj
    obtain ⟨r, hr⟩ := this
    rw [← hr, List.flatMap_append]
    exact List.prefix_append _ _
  have h2 : prK m n [0, 6] i ++ prJ m n i [0, 6] j <+: prK m n [0, 6] (i + 1) := by
    rw [prK_snoc]
    exact (List.prefix_append_right_inj _).2 h1
  have h3 := prK_pre m n [0, 6] (i + 1) (l.length - (i + 1))
  rw [show i + 1 + (l.length - (i + 1)) = l.length by omega] at h3
  exact (h2.trans h3).filter _
theorem pre_at {P Q : List Wt} {x : Wt} (h : P ++ [x] <+: Q) : P.length < Q.length ∧ wx Q P.length = x := by
  obtain ⟨r, rfl⟩ := h
  constructor
  · simp
  · unfold wx
    simp
theorem nb_east {m n i : Nat} (hm : 1 ≤ m) (hi : i < m * n) : nbO m n i 0 = if (i + 1) % m = 0 then none else some (i + 1) := by
  have e1 : dE 0 = 1 := rfl
  have e2 : dN 0 = 0 := rfl
  have hd := Nat.div_add_mod i m
  have hr := Nat.mod_lt i (show 0 < m by omega)
  have hq : i / m < n := Nat.div_lt_of_lt_mul hi
  have hmod : (i + 1) % m = 0 ↔ i % m + 1 = m := by
    rw [← Nat.mod_add_mod]
    constructor
    · intro h
      by_cases c : i % m + 1 < m
      · rw [Nat.mod_eq_of_lt c] at h; omega
      · omega
    · intro h; rw [h, Nat.mod_self]
  unfold nbO
  rw [e1, e2]
  generalize i / m = q at *
  generalize i % m = r at *
  by_cases c : (i + 1) % m = 0
  · rw [if_pos c, if_pos (.inr (.inl (by have := hmod.1 c; omega)))]
  · have c' : ¬ r + 1 = m := fun h => c (hmod.2 h)
    rw [if_neg c, if_neg (by rintro (h | h | h) <;> omega)]
    congr 1
    rw [show ((q : Int) - 0).toNat = q by omega, show ((r : Int) + 1).toNat = r + 1 by omega, Nat.mul_comm]
    omega
theorem nb_south {m n i : Nat} (hm : 1 ≤ m) (hi : i < m * n) : nbO m n i 6 = if m * n ≤ i + m then none else some (i + m) := by
  have e1 : dE 6 = 0 := rfl
  have e2 : dN 6 = -1 := rfl
  have hd := Nat.div_add_mod i m
  have hr := Nat.mod_lt i (show 0 < m by omega)
  have hq : i / m < n := Nat.div_lt_of_lt_mul hi
  have hle : m * n ≤ i + m ↔ i / m + 1 = n := by
    constructor
    · intro h
      by_cases c : i / m + 2 ≤ n
      · have h2 := Nat.mul_le_mul_left m c
        rw [Nat.mul_add] at h2
        omega
      · omega
    · intro h
      rw [← h, Nat.mul_add, Nat.mul_one]
      omega
  unfold nbO
  rw [e1, e2]
  generalize i / m = q at *
  generalize i % m = r at *
  by_cases c : m * n ≤ i + m
  · rw [if_pos c, if_pos (.inr (.inr (by have := hle.1 c; omega)))]
  · have c' : ¬ q + 1 = n := fun h => c (hle.2 h)
    rw [if_neg c, if_neg (by rintro (h | h | h) <;> omega)]
    congr 1
    rw [show ((q : Int) - -1).toNat = q + 1 by omega, show ((r : Int) + 0).toNat = r by omega, Nat.add_mul, Nat.one_mul, Nat.mul_comm]
    omega
theorem dvQ_east {m n : Nat} {l : List Int} (ok : Ok l m n) {i : Nat} (hi : i < l.length) :
    (((i + 1) % m = 0 ∨ hom m n l i = hom m n l (i + 1)) → dvQ m n l i 1 = dvQ m n l i 0) ∧ (¬ (i + 1) % m = 0 → ¬ hom m n l i = hom m n l (i + 1) → dvQ m n l i 1 = dvQ m n l i 0 ++ [((i : Int), i + 1)]) ∧ (¬ (i + 1) % m = 0 → i + 1 < l.length) := by
  have hi' : i < m * n := by rw [← ok.len]; exact hi
  have e := nb_east ok.m1 hi'
  have hq : dvQ m n l i 1 = dvQ m n l i 0 ++ (pr1 m n i 0).filter (apt m n l) := by
    unfold dvQ
    rw [prJ_snoc (show 0 < ([0, 6] : List Nat).length by decide), ← List.append_assoc, List.filter_append]
    rfl
  refine ⟨fun h => ?_, fun h1 h2 => ?_, fun h => ?_⟩
  · rw [hq]
    unfold pr1
    rw [e]
    by_cases c : (i + 1) % m = 0
    · rw [if_pos c]; simp
    · rw [if_neg c]
      have := h.resolve_left c
      simp [apt, this]
  · rw [hq]
    unfold pr1
    rw [e, if_neg h1]
    simp [apt, h2]
  · rw [if_neg h] at e
    rw [ok.len]
    exact nb_lt e
theorem dvQ_south {m n : Nat} {l : List Int} (ok : Ok l m n) {i : Nat} (hi : i < l.length) :
    ((l.length ≤ i + m ∨ hom m n l i = hom m n l (i + m)) → dvQ m n l i 2 = dvQ m n l i 1) ∧ (¬ l.length ≤ i + m → ¬ hom m n l i = hom m n l (i + m) → dvQ m n l i 2 = dvQ m n l i 1 ++ [((i : Int), i + m)]) := by
  have hi' : i < m * n := by rw [← ok.len]; exact hi
  have e := nb_south ok.m1 hi'
  rw [← ok.len] at e
  have hq : dvQ m n l i 2 = dvQ m n l i 1 ++ (pr1 m n i 6).filter (apt m n l) := by
    unfold dvQ
    rw [prJ_snoc (show 1 < ([0, 6] : List Nat).length by decide), ← List.append_assoc, List.filter_append]
    rfl
  refine ⟨fun h => ?_, fun h1 h2 => ?_⟩
  · rw [hq]
    unfold pr1
    rw [e]
    by_cases c : l.length ≤ i + m
    · rw [if_pos c]; simp
    · rw [if_neg c]
      have := h.resolve_left c
      simp [apt, this]
  · rw [hq]
    unfold pr1
    rw [e, if_neg h1]
    simp [apt, h2]
def l2 : List Int := [1, 2]
theorem l2_ok : Ok l2 2 1 ∧ vcode 2 1 l2 = 0 := by
  have h : ∀ x ∈ l2, hiI x := by decide
  exact ⟨⟨by decide, by decide, by decide, by decide, by decide, hi_gl h⟩, by decide⟩
theorem l2_hom : hmL 2 1 l2 = [0, 1] := by
  have h0 : tw 2 1 l2 0 = 0 := (tw_fix 2 1 l2 (by decide) (by decide) (by decide)).2 (by decide)
  have h1 : tw 2 1 l2 1 = 1 := (tw_fix 2 1 l2 (by decide) (by decide) (by decide)).2 (by decide)
  have : hmL 2 1 l2 = [(hom 2 1 l2 0 : Int), (hom 2 1 l2 1 : Int)] := rfl
  rw [this, hom_self 2 1 l2 h0, hom_self 2 1 l2 h1]
  rfl
set_option maxRecDepth 4000 in
set_option maxHeartbeats 4000000 in
theorem based_any (g : Nat → Addr) (w : World) (hl : Lai w g) : Calls Tryd.prog 15 #[] w fun e w' => e = .returned (.bool true) ∧ Gr w w' := by
  have hA := At.newRow w (ir l2) 3
  have hR : Rs (w.alloc (.cells (ir l2).toArray 3)) w.heap.size 0 2 l2 := ⟨fun i hi => by
    have h := (hA.1 i (by simpa [ir] using hi)).1
    rw [Nat.zero_add, h]
    simp [ir], hA.lt, by decide⟩
  have G0 := (Gr.refl w).alloc (.cells (ir l2).toArray 3)
  have HF := hidb (basins_ok g (m := 2) (n := 1) (l := l2) _ hR l2_ok.1 l2_ok.2 (hl.below G0.out))
  have HG0 := hidb G0
  clear hA hR hl G0
  go_enter Tryd.func15, Tryd.ntmps15
  go_wp2_with fail
  refine HF.out.mono ?_
  rintro e w1 ⟨FL, rfl, hA, hFL, hG⟩
  rw [l2_hom] at hA
  obtain ⟨c0, c1⟩ := (show At w1 FL [.int .i64 0, .int .i64 1] from hA).c2
  have HG1 := hidb (Gr.step HG0.out hG.out)
  clear hA hFL hG
  have i0 := iindex FL 0 2 2 0 (by decide)
  have i1 := iindex FL 0 2 2 1 (by decide)
  rw [Nat.zero_add] at i0 i1
  have hl2 : l2.length = 2 := rfl
  rw [hl2]
  go_wp2
  go_ret
  exact ⟨rfl, HG1.out⟩
end Go.Proofs.YtmjlaonlhabblaaDoor
namespace Go.Proofs.YtmjlaonlhabblaaDoor
open Go.RowKit
attribute [local go_sem ↓] Go.wp_at_zero Go.wp_at_succ

/-- A list of whole numbers that the law is handed. -/
def IArg (w : World) (v : Value) : Prop := ∃ sd b o cap l, v = .slice sd (List.length l) cap ∧ ISl w sd b o cap l ∧ (¬ l.length = 0 → sd = some ⟨b, o, none⟩ ∧ Rs w b o cap l)
set_option maxRecDepth 4000 in
set_option maxHeartbeats 4000000 in
theorem lakesL_no (g : Nat → Addr) (u v : Value) (w : World) (hl : Laid w g) (h1 : ∀ W, Gr w W → Calls Tryd.prog 6 #[u] W fun e w' => e = .returned (.bool false) ∧ w' = W) : Calls Tryd.prog 4 #[u, v] w fun e w' => e = .returned (.bool true) ∧ Gr w w' := by
  have CR := hidb (based_any g w hl.lai)
  have S1 := hidb h1
  clear hl h1
  go_enter Tryd.func4, Tryd.ntmps4
  go_wp2_with fail
  refine CR.out.mono ?_
  rintro e w1 ⟨rfl, hB⟩
  have G := hidb hB
  clear hB
  go_wp2_with fail
  refine (S1.out _ G.out).mono ?_
  rintro e w2 ⟨rfl, rfl⟩
  go_wp2
  go_ret
  exact ⟨rfl, G.out⟩
set_option maxRecDepth 4000 in
set_option maxHeartbeats 4000000 in
theorem lakesL_long (g : Nat → Addr) (u : Value) (ra : Option Addr) (M rcap : Nat) (hM : 200 < M) (w : World) (hl : Laid w g) (h1 : ∀ W, Gr w W → Calls Tryd.prog 6 #[u] W fun e w' => e = .returned (.bool true) ∧ w' = W) : Calls Tryd.prog 4 #[u, .slice ra M rcap] w fun e w' => e = .returned (.bool true) ∧ Gr w w' := by
  have CR := hidb (based_any g w hl.lai)
  have S1 := hidb h1
  have hM' : (200 : Int) < (M : Int) := by omega
  clear hl h1
  go_enter Tryd.func4, Tryd.ntmps4
  go_wp2_with fail
  refine CR.out.mono ?_
  rintro e w1 ⟨rfl, hB⟩
  have G := hidb hB
  clear hB
  go_wp2_with fail
  refine (S1.out _ G.out).mono ?_
  rintro e w2 ⟨rfl, rfl⟩
  go_wp2
  go_ret
  exact ⟨rfl, G.out⟩
set_option maxRecDepth 4000 in
set_option maxHeartbeats 8000000 in
theorem lakesL_A (g : Nat → Addr) {pb po : Nat} {W H : Int} {ad : Option Addr} {b o cap : Nat} {l : List Int} (ra : Option Addr) (M rcap : Nat) (hM : M ≤ 200) (w : World) (hl : Laid w g) (hR : Rin w pb po W H ad b o cap l) (ll : l.length ≤ 80) (hv : ¬ vcode W H l = 0) : Calls Tryd.prog 4 #[.pointer (some ⟨pb, po, none⟩), .slice ra M rcap] w fun e w' => e = .returned (.bool true) ∧ Gr w w' := by
  have CR := hidb (based_any g w hl.lai)
  have S1 := hidb (fun W1 (hG : Gr w W1) => small4_any pb po W H ad l.length cap W1 (hR.below hG).pt)
  rw [decide_eq_true ll] at S1
  have C1 := hidb (fun W1 (hG : Gr w W1) => Lakes_no g W1 (hR.below hG).sl (by omega) (hl.below hG.out).lai hv)
  have C2 := hidb (fun W1 (hG : Gr w W1) => depth_no g ra M rcap W1 (hR.below hG).sl (by omega) (hl.below hG.out).lai hv)
  have CW := hidb (fun W1 (hG : Gr w W1) => rasterError_any pb po W H ad b o cap l W1 (hR.below hG).pt (hR.below hG).sl (by omega))
  have hc8 : vcode W H l ≤ 8 := by unfold vcode; split; omega; split; omega; split <;> omega
  have CE := hidb (fun W1 (hG : Gr w W1) => coded_evc g (vcode W H l) hc8 W1 (hl.below hG.out))
  have HR := hidb hR
  have hv' : (0 : Int) < (vcode W H l : Int) := by omega
  have hM' : ¬ (200 : Int) < (M : Int) := by omega
  obtain ⟨vc, hvc⟩ : ∃ z : Int, z = (vcode W H l : Int) := ⟨_, rfl⟩
  rw [← hvc] at CW CE hv'
  generalize vcode W H l = v at *
  generalize evc g v = ev at *
  clear hl hR ll hv hc8 hvc
  go_enter Tryd.func4, Tryd.ntmps4
  go_wp2_with fail
  refine CR.out.mono ?_
  rintro e w1 ⟨rfl, hB⟩
  have G := hidb hB
  clear hB
  go_wp2_with fail
  refine (S1.out _ G.out).mono ?_
  rintro e w2 ⟨rfl, rfl⟩
  obtain ⟨p0, p1, p2⟩ := (HR.out.below G.out).pt.all
  go_wp2_with fail
  refine (C1.out _ G.out).mono ?_
  rintro e w3 ⟨rfl, hB3⟩
  replace G := hidb (Gr.step G.out hB3.out)
  clear hB3 p0 p1 p2
  obtain ⟨p0, p1, p2⟩ := (HR.out.below G.out).pt.all
  go_wp2_with fail
  refine (C2.out _ G.out).mono ?_
  rintro e w5 ⟨rfl, hB5⟩
  replace G := hidb (Gr.step G.out hB5.out)
  clear hB5 p0 p1 p2
  go_wp2_with fail
  refine (CW.out _ G.out).mono ?_
  rintro e w7 ⟨rfl, hB7⟩
  replace G := hidb (Gr.step G.out hB7.out)
  clear hB7
  go_wp2_with fail
  refine (CE.out _ G.out).mono ?_
  rintro e w8 ⟨rfl, hB8⟩
  replace G := hidb (Gr.step G.out hB8.out)
  clear hB8
  go_wp2_with fail
  refine (CE.out _ G.out).mono ?_
  rintro e w9 ⟨rfl, hB9⟩
  replace G := hidb (Gr.step G.out hB9.out)
  clear hB9
  go_wp2
  go_ret
  exact ⟨rfl, G.out⟩
end Go.Proofs.YtmjlaonlhabblaaDoor
