/-
  Maps keyed by two whole numbers.; Lakes: wet cells that are joined; names that are made less until nothing changes. No Go text of its own.; Wet cells that touch are joined, pair by pair: in the end the first of each group is the least number of its lake. No Go text of its own.; Passes: the least heights, key by key; all keys in their order. No Go text of its own.; Passes: all keys in their order. No Go text of its own.
-/
import Derived.Test.YtddnebgnohlchaaGreatDoorQJ16
import Derived.Maps.OwnSet
import Derived.Maps.Range
import Derived.WideKeyEntry
import Derived.DeepKeys4
import Derived.MapViews
import Derived.OpenShut
import Derived.Test.YtddnebgnohlchaaGreatDoorQJ13
import Derived.Test.YtddnebgnohlchaaGreatDoorQJ18
import Derived.Test.YtddnebgnohlchaaGreatDoorQJ6
namespace Go.Proofs.YtddnebgnohlchaaGreatDoor
open Go.RowKit Go.Maps Go.ChangeShapes Go.WideShapes Go.ChangeAt
attribute [local go_sem ↓] Go.wp_at_zero Go.wp_at_succ

theorem pairLaw : WideMaps.KeyLaw Tryz.prog 62 := deep_law_laid (by kernel_rfl) (m := 8) (by decide) (of_decide_eq_true (by kernel_rfl)) (by kernel_rfl) (by kernel_rfl)
theorem pairKeyed : Keyed Tryz.prog 62 := Keyed.of_law pairLaw
theorem undA2 : Tryz.prog.underlying 62 = some (.array 2 3) := by kernel_rfl
theorem cellsA2 : Tryz.prog.cellsOf 62 = 2 := by kernel_rfl
theorem cellsI1 : Tryz.prog.cellsOf 3 = 1 := by kernel_rfl
/-- Two numbers. -/
abbrev Nn := Nat × Nat
def smN (p : Nn) : Prop := p.1 < 20000 ∧ p.2 < 20000
abbrev av (p : Nn) : Value := .agg #[.int .i64 (p.1 : Int), .int .i64 (p.2 : Int)]
def kP (p : Nn) : Lit := (DataW.agg [.lit (.int .i64 (p.1 : Int)), .lit (.int .i64 (p.2 : Int))] : DataW Unit).asKey
theorem nat_wf {x : Nat} (h : x < 20000) : (Lit.int .i64 (x : Int)).wf = true := by
  have e1 : IntKind.i64.min = -9223372036854775808 := by decide +kernel
  have e2 : IntKind.i64.max = 9223372036854775807 := by decide +kernel
  simp only [Lit.wf, Bool.and_eq_true, decide_eq_true_eq]
  rw [e1, e2]
  omega
theorem pair_key {p : Nn} (h : smN p) : keyOf Tryz.prog 62 (av p) = some (kP p) := by
  have ht : DataW.Trod (H := Unit) (fun _ => ()) Tryz.prog default 0 (fun _ => true) true 62 (av p) (.agg [.lit (.int .i64 (p.1 : Int)), .lit (.int .i64 (p.2 : Int))]) [] := by
    refine ⟨2, ?_⟩
    have r2 : List.range 2 = [0, 1] := rfl
    unfold DataW.trod
    rw [undA2]
    simp [r2, cellsI1, cellsA2, DataW.trod, Tryz.underlying3, nat_wf h.1, nat_wf h.2, Value.cells]
  obtain ⟨hk, _⟩ := keyOf_asKey (by kernel_rfl) (by kernel_rfl) (by simp [Value.formed, cellsA2]) ht
  exact hk
theorem kP_inj {p q : Nn} (hp : smN p) (hq : smN q) (h : kP p = kP q) : p = q := by
  have h1 := pair_key hp
  have h2 := pair_key hq
  rw [h] at h1
  have e := pairLaw.inj h1 h2
  simp only [Value.agg.injEq, Array.mk.injEq, List.cons.injEq, Value.int.injEq, and_true, true_and] at e
  exact Prod.ext (by omega) (by omega)
set_option maxRecDepth 100000 in
theorem kP_key {p : Nn} (hp : smN p) : WideAt.IsKeyLit (kP p) := by
  have h := pair_key hp
  generalize kP p = k at h
  generalize av p = v at h
  exact pairKeyed.key h
theorem kP_same {p q : Nn} (hp : smN p) (hq : smN q) : (kP p).sameKey (kP q) = decide (p = q) := by
  by_cases e : p = q
  · subst e
    rw [WideAt.sameKey_self (kP_key hp)]
    simp
  · rw [decide_eq_false e]
    exact Maps.sameKey_ne (fun hh => e (kP_inj hp hq hh))
/-- What the map holds. -/
structure MD (D : DataW Unit) (F : Nn → Option Int) : Prop where
  tidy : Tidy D
  has : ∀ p, smN p → Maps.has D (kP p) = (F p).isSome
  val : ∀ p x zd, smN p → F p = some x → D.atKey (kP p) zd = .lit (.int .i64 x)
  keys : ∀ kl, Maps.has D kl = true → ∃ p, smN p ∧ kl = kP p
theorem MD.nil : MD (.map []) (fun _ => none) := ⟨tidy_empty, fun _p _ => rfl, fun _p _ _ _ h => (by cases h), fun _ h => (by cases h)⟩
set_option maxRecDepth 100000 in
theorem MD.put {D : DataW Unit} {F : Nn → Option Int} {p : Nn} {x : Int} (h : MD D F) (hp : smN p) : MD (D.put (kP p) (.lit (.int .i64 x))) (fun q => if q = p then some x else F q) := by
  have hk := kP_key hp
  have ht : Tidy (D.put (kP p) (.lit (.int .i64 x))) := by
    generalize kP p = k at hk ⊢
    exact h.tidy.put hk _
  refine ⟨ht, fun q hq => ?_, fun q y zd hq hy => ?_, fun kl hkl => ?_⟩
  · by_cases e : q = p
    · subst e
      rw [has_put_same h.tidy.isMap (kP_key hq), if_pos rfl]
      rfl
    · rw [has_put_other (fun hh => e (kP_inj hq hp hh)), h.has q hq, if_neg e]
  · by_cases e : q = p
    · subst e
      rw [if_pos rfl] at hy
      rw [atKey_put_same h.tidy.isMap (kP_key hq), Option.some.inj hy]
    · rw [if_neg e] at hy
      rw [atKey_put_other (fun hh => e (kP_inj hq hp hh)), h.val q y zd hq hy]
  · by_cases e : kl = kP p
    · exact ⟨p, hp, e⟩
    · rw [has_put_other e] at hkl
      exact h.keys kl hkl
theorem undM2 : Tryz.prog.underlying 59 = some (.map 62 3) := by kernel_rfl
theorem zeroI2 (w : World) : (zeroValue 3).run Tryz.prog w = .ok (.int .i64 0) w := by kernel_rfl
abbrev PM (w : World) (M n : Nat) (D : DataW Unit) : Prop := w.ownsMap Tryz.prog 62 (plainElem Tryz.prog 3) M n D
theorem int_wf {x : Int} (h : -9223372036854775808 ≤ x ∧ x ≤ 9223372036854775807) : (Lit.int .i64 x).wf = true := by
  have e1 : IntKind.i64.min = -9223372036854775808 := by decide +kernel
  have e2 : IntKind.i64.max = 9223372036854775807 := by decide +kernel
  simp only [Lit.wf, Bool.and_eq_true, decide_eq_true_eq]
  rw [e1, e2]
  exact h
/-- v, ok := m[k]. -/
theorem pm_look {w : World} {M n : Nat} {D : DataW Unit} {F : Nn → Option Int} {p : Nn} (h : PM w M n D) (hd : MD D F) (hp : smN p) : ∃ x : Int, (∀ y, F p = some y → x = y) ∧ (Instr.lookup 59 (.map (some M)) (av p) true).run Tryz.prog w = .ok (.tuple #[.int .i64 x, .bool (F p).isSome]) w := by
  obtain ⟨v, ps, hrun, hv⟩ := h.look_ok pairKeyed undM2 (zeroI2 w) (zd := .lit (.int .i64 0)) (zp := []) (plainElem_int (H := Unit) (e := 3) (by kernel_rfl) (by decide +kernel)) (pair_key hp)
  obtain ⟨x, hvx, hz, -⟩ := plainElem_int_inv (q := .i64) (by kernel_rfl) hv
  refine ⟨x, fun y hy => ?_, ?_⟩
  · have h1 := congrArg Prod.fst hz
    rw [hd.val p y _ hp hy] at h1
    simpa using h1.symm
  · rw [hrun, hd.has p hp, hvx]
/-- m[k] = v. -/
theorem pm_store {w : World} {M n : Nat} {D : DataW Unit} {F : Nn → Option Int} {p : Nn} {x : Int} (h : PM w M n D) (hd : MD D F) (hp : smN p) (hn : n < maxLen) (hx : -9223372036854775808 ≤ x ∧ x ≤ 9223372036854775807) : ∃ w' D', (Instr.mapUpdate 59 (.map (some M)) (av p) (.int .i64 x)).run Tryz.prog w = .ok () w' ∧ PM w' M (n + 1) D' ∧ MD D' (fun q => if q = p then some x else F q) ∧ w.grownBy w' (some M) := by
  obtain ⟨w', hrun, hown, hg⟩ := h.update pairKeyed undM2 hn (pair_key hp) (plainElem_int (H := Unit) (e := 3) (by kernel_rfl) (int_wf hx))
  exact ⟨w', _, hrun, hown, hd.put hp, hg⟩
/-- Going over the map: what has come. -/
structure Cm (F : Nn → Option Int) (left : Lit → Bool) (ks : List Nn) : Prop where
  nd : ks.Nodup
  sm : ∀ p ∈ ks, smN p ∧ (F p).isSome = true
  lf : ∀ p, smN p → left (kP p) = ((F p).isSome && !decide (p ∈ ks))
  sub : ∀ kl, left kl = true → ∃ p, smN p ∧ kl = kP p
theorem Cm.start {D : DataW Unit} {F : Nn → Option Int} (h : MD D F) : Cm F (Maps.has D) [] := ⟨List.nodup_nil, fun p hp => (by cases hp), fun p hp => by rw [h.has p hp]; simp, h.keys⟩
theorem Cm.step {F : Nn → Option Int} {left : Lit → Bool} {ks : List Nn} (h : Cm F left ks) {p : Nn} (hp : smN p) (hl : left (kP p) = true) : Cm F (fun x => left x && !x.sameKey (kP p)) (ks ++ [p]) ∧ (F p).isSome = true := by
  have h0 := h.lf p hp
  rw [hl] at h0
  have h1 : (F p).isSome = true ∧ p ∉ ks := by
    cases hf : (F p).isSome <;> rw [hf] at h0 <;> simp at h0
    exact ⟨rfl, h0⟩
  refine ⟨⟨List.nodup_append.2 ⟨h.nd, by simp, fun a ha b hb e => h1.2 ?_⟩, fun q hq => ?_, fun q hq => ?_, fun kl hkl => ?_⟩, h1.1⟩
  · rw [List.mem_singleton.1 hb] at e; rw [← e]; exact ha
  · rcases List.mem_append.1 hq with hq | hq
    · exact h.sm q hq
    · rw [List.mem_singleton.1 hq]; exact ⟨hp, h1.1⟩
  · show (left (kP q) && !(kP q).sameKey (kP p)) = _
    rw [h.lf q hq, kP_same hq hp]
    by_cases e : q = p
    · subst e; simp
    · simp [e]
  · simp only [Bool.and_eq_true] at hkl
    exact h.sub kl hkl.1
theorem Cm.fin {F : Nn → Option Int} {left : Lit → Bool} {ks : List Nn} (h : Cm F left ks) (h0 : ∀ kl, left kl = false) (hs : ∀ p, (F p).isSome = true → smN p) : ∀ p, p ∈ ks ↔ (F p).isSome = true := fun p => by
  constructor
  · exact fun hp => (h.sm p hp).2
  · intro hf
    have := h.lf p (hs p hf)
    rw [h0, hf] at this
    simpa using this.symm
/-- The step of a range over a map: the entry as it is. -/
theorem wpList_next_raw {H : Type} {P : Program} (w : World) {ops : Array Oper} {rest : List Oper} {o : Oper} {a : Act} {Q : Exit → Act → World → Prop} (hg : o.guard = none) (it : Operand) (hop : o.op = Op.next it false) (k : TypeId) (K : Keyed P k) (R : Value → Option (DataW H × List MemPlace)) (b r n : Nat) (D : DataW H) (left : Lit → Bool) (cnt : Nat)
    (hit : a.eval it = .pointer (some ⟨r, 0, none⟩)) (h : w.ranges P k R b r n D left cnt)
    (hDone : cnt = 0 → (∀ kl, left kl = false) → wpList P ops Q rest (a.put o.dst (.tuple #[.bool false])) w)
    (hMore : ∀ (key v : Value) (kl : Lit) (y : DataW H × List MemPlace) (w' : World) (cnt' : Nat), keyOf P k key = some kl → left kl = true → R v = some y → (∀ zd, D.atKey kl zd = y.1) → w'.ranges P k R b r n D (fun z => left z && !z.sameKey kl) cnt' → cnt' < cnt →
      w.grownBy w' (some r) → (Instr.entry (.pointer (some ⟨r, 0, none⟩))).run P w' = .ok (.tuple #[key, v]) w' → wpList P ops Q rest (a.put o.dst (.tuple #[.bool true, key, v])) w') :
    wpList P ops Q (o :: rest) a w := by
  refine wpList_plain hg fun K' hK' => ?_
  unfold Oper.wp
  rcases h.next K o.type with ⟨h0, hl, hrun⟩ | ⟨key, v, kl, y, w', cnt', hkey, hlk, hv, hat, hrun, hrg, hlt, hgr, hsz, hen⟩
  · simp [execOp, hop, hit, hrun, Result.andThen]
    exact hK' _ _ (hDone h0 hl)
  · simp [execOp, hop, hit, hrun, Result.andThen]
    exact hK' _ _ (hMore key v kl y w' cnt' hkey hlk hv hat hrg hlt hgr hen)
/-- What has come is a key, with its number. -/
theorem MD.entry {D : DataW Unit} {F : Nn → Option Int} {left : Lit → Bool} {ks : List Nn} {key v : Value} {kl : Lit} {y : DataW Unit × List MemPlace} (hd : MD D F) (hc : Cm F left ks) (hkey : keyOf Tryz.prog 62 key = some kl) (hl : left kl = true) (hv : plainElem Tryz.prog 3 v = some y) (hat : ∀ zd, D.atKey kl zd = y.1) : ∃ p, smN p ∧ kl = kP p ∧ key = av p ∧ v = .int .i64 ((F p).getD 0) ∧ Cm F (fun x => left x && !x.sameKey kl) (ks ++ [p]) := by
  obtain ⟨p, hp, rfl⟩ := hc.sub kl hl
  obtain ⟨hc2, hs⟩ := hc.step hp hl
  refine ⟨p, hp, rfl, pairLaw.inj hkey (pair_key hp), ?_, hc2⟩
  obtain ⟨x, hx⟩ := Option.isSome_iff_exists.1 hs
  obtain ⟨a, hva, hz, -⟩ := plainElem_int_inv (q := .i64) (by kernel_rfl) hv
  have h1 := hat (.lit (.int .i64 0))
  rw [hd.val p x _ hp hx, hz] at h1
  have h2 : x = a := by simpa using h1
  rw [hva, hx, h2]
  rfl
end Go.Proofs.YtddnebgnohlchaaGreatDoor
namespace Go.Proofs.YtddnebgnohlchaaGreatDoor
open Go.RowKit

section
variable (m n : Nat) (l : List Int)
/-- Is there water on a cell when all pits are full? -/
def wetP (i : Nat) : Prop := i < l.length ∧ gl l i < fih m n l i
instance (i : Nat) : Decidable (wetP m n l i) := by unfold wetP; exact inferInstance
/-- Joined by wet cells. -/
inductive Cn : Nat → Nat → Prop
  | here {x : Nat} : wetP m n l x → Cn x x
  | on {x y z : Nat} : Cn x y → wetP m n l z → tch m y z → Cn x z
variable {m n l}
theorem Cn.wet {x y : Nat} (h : Cn m n l x y) : wetP m n l x ∧ wetP m n l y := by
  induction h with
  | here h => exact ⟨h, h⟩
  | on _ hz _ ih => exact ⟨ih.1, hz⟩
theorem Cn.trans {x y z : Nat} (h : Cn m n l x y) (k : Cn m n l y z) : Cn m n l x z := by
  induction k with
  | here _ => exact h
  | on _ hz ht ih => exact .on ih hz ht
theorem Cn.symm {x y : Nat} (h : Cn m n l x y) : Cn m n l y x := by
  induction h with
  | here h => exact .here h
  | on h hz ht ih => exact Cn.trans (.on (.here hz) h.wet.2 (tch_symm ht)) ih
variable (m n l)
/-- Names of lakes, as far as they have been made less. -/
structure LI (L : List Int) : Prop where
  len : L.length = l.length
  dry : ∀ k, k < l.length → ¬ wetP m n l k → gl L k = -1
  wet : ∀ k, wetP m n l k → ∃ v : Nat, gl L k = (v : Int) ∧ Cn m n l v k ∧ v ≤ k
/-- Nothing is to be made less. -/
def Stb (L : List Int) (i k : Nat) : Prop := tch m i k → 0 ≤ gl L i → ¬ gl L i < gl L k
variable {m n l}
theorem LI.put {L : List Int} (h : LI m n l L) {i k : Nat} (hi : i < l.length) (hk : k < l.length) (ht : tch m i k) (h0 : 0 ≤ gl L i) (hlt : gl L i < gl L k) : LI m n l (L.set k (gl L i)) ∧ -1 ≤ gl L i := by
  have hwk : wetP m n l k := by
    by_cases c : wetP m n l k
    · exact c
    · have := h.dry k hk c; omega
  have hwi : wetP m n l i := by
    by_cases c : wetP m n l i
    · exact c
    · have := h.dry i hi c; omega
  obtain ⟨v, hv, hc, hle⟩ := h.wet i hwi
  obtain ⟨u, hu, hc2, hle2⟩ := h.wet k hwk
  refine ⟨⟨by rw [List.length_set]; exact h.len, fun j hj hd => ?_, fun j hj => ?_⟩, by omega⟩
  · rw [gl_set (by rw [h.len]; exact hk)]
    by_cases e : j = k
    · rw [e] at hd; exact absurd hwk hd
    · rw [if_neg e]; exact h.dry j hj hd
  · rw [gl_set (by rw [h.len]; exact hk)]
    by_cases e : j = k
    · rw [if_pos e, e]
      exact ⟨v, hv, .on hc hwk ht, by omega⟩
    · rw [if_neg e]; exact h.wet j hj
/-- In the end each has the least number of its lake. -/
theorem LI.least {L : List Int} (h : LI m n l L) (hs : ∀ i k, i < l.length → k < l.length → Stb m L i k) {k : Nat} (hk : wetP m n l k) : ∃ v : Nat, gl L k = (v : Int) ∧ Cn m n l v k ∧ ∀ x, Cn m n l x k → v ≤ x := by
  obtain ⟨v, hv, hc, hle⟩ := h.wet k hk
  have same : ∀ x y, Cn m n l x y → gl L x = gl L y := by
    intro x y hxy
    induction hxy with
    | here _ => rfl
    | @on y z hxy hz ht ih =>
      have hy := hxy.wet.2
      obtain ⟨a, ha, _⟩ := h.wet y hy
      obtain ⟨b, hb, _⟩ := h.wet z hz
      have h1 := hs y z hy.1 hz.1 ht (by omega)
      have h2 := hs z y hz.1 hy.1 (tch_symm ht) (by omega)
      omega
  refine ⟨v, hv, hc, fun x hx => ?_⟩
  have h1 := same x k hx
  obtain ⟨u, hu, _, hle2⟩ := h.wet x hx.wet.1
  omega
/-- How much is left to be made less. -/
def mS : List Int → Nat
  | [] => 0
  | x :: l => mS l + (x + 1).toNat
theorem mS_set : ∀ {L : List Int} {i : Nat} {y : Int}, i < L.length → y < gl L i → -1 ≤ y → mS (L.set i y) < mS L
  | x :: L, 0, y, _, h, h1 => by
    have : y < x := h
    show mS L + (y + 1).toNat < mS L + (x + 1).toNat
    omega
  | x :: L, i + 1, y, hi, h, h1 => by
    have ih := mS_set (L := L) (i := i) (by simp at hi; omega) h h1
    show mS (L.set i y) + (x + 1).toNat < mS L + (x + 1).toNat
    omega
variable (m n l)
/-- The first names. -/
def lk0 (i : Nat) : List Int := (List.range l.length).map (fun j => if j < i then (if wetP m n l j then (j : Int) else -1) else 0)
theorem lk0_len (i : Nat) : (lk0 m n l i).length = l.length := by simp [lk0]
theorem lk0_0 : lk0 m n l 0 = List.replicate l.length 0 := by
  apply List.ext_getElem
  · simp [lk0]
  · intro i h1 h2; simp [lk0]
theorem lk0_set (i : Nat) : (lk0 m n l i).set i (if wetP m n l i then (i : Int) else -1) = lk0 m n l (i + 1) := by
  apply List.ext_getElem
  · simp [lk0]
  · intro j h1 h2
    rw [List.getElem_set]
    by_cases e : i = j
    · subst e; simp [lk0]
    · rw [if_neg e]
      simp only [lk0, List.getElem_map, List.getElem_range]
      by_cases c : j < i
      · rw [if_pos c, if_pos (show j < i + 1 by omega)]
      · rw [if_neg c, if_neg (show ¬ j < i + 1 by omega)]
theorem lk0_all : LI m n l (lk0 m n l l.length) := by
  refine ⟨lk0_len m n l _, fun k hk hd => ?_, fun k hk => ⟨k, ?_, .here hk, Nat.le_refl _⟩⟩
  · unfold lk0; rw [gl_map hk, if_pos hk, if_neg hd]
  · unfold lk0; rw [gl_map hk.1, if_pos hk.1, if_pos hk]
end
end Go.Proofs.YtddnebgnohlchaaGreatDoor
namespace Go.Proofs.YtddnebgnohlchaaGreatDoor
open Go.RowKit

section
variable (m n : Nat) (l : List Int)
/-- The firsts, when one more pair has been looked at. -/
def rhoS (ρ : Nat → Nat) (p : Wt) (i : Nat) : Nat := if wetP m n l p.1.toNat ∧ wetP m n l p.2 then (if ρ i = max (ρ p.1.toNat) (ρ p.2) then min (ρ p.1.toNat) (ρ p.2) else ρ i) else ρ i
/-- The firsts, when so many pairs have been looked at. -/
def rho (P : List Wt) : Nat → Nat := P.foldl (rhoS m n l) id
theorem rho_snoc (P : List Wt) (p : Wt) : rho m n l (P ++ [p]) = rhoS m n l (rho m n l P) p := by simp [rho]
structure RhoI (P : List Wt) (ρ : Nat → Nat) : Prop where
  le : ∀ i, ρ i ≤ i
  wet : ∀ i, wetP m n l i → Cn m n l (ρ i) i
  dry : ∀ i, ¬ wetP m n l i → ρ i = i
  same : ∀ p ∈ P, wetP m n l p.1.toNat → wetP m n l p.2 → ρ p.1.toNat = ρ p.2
theorem RhoI.zero : RhoI m n l [] id := ⟨fun _ => Nat.le_refl _, fun _ h => .here h, fun _ _ => rfl, fun p hp => by cases hp⟩
variable {m n l}
theorem RhoI.step {P : List Wt} {ρ : Nat → Nat} (h : RhoI m n l P ρ) {p : Wt} (ht : tch m p.1.toNat p.2) : RhoI m n l (P ++ [p]) (rhoS m n l ρ p) := by
  by_cases hw : wetP m n l p.1.toNat ∧ wetP m n l p.2
  · have key : ∀ i, rhoS m n l ρ p i = if ρ i = max (ρ p.1.toNat) (ρ p.2) then min (ρ p.1.toNat) (ρ p.2) else ρ i := fun i => by unfold rhoS; rw [if_pos hw]
    have c1 := h.wet _ hw.1
    have c2 := h.wet _ hw.2
    have c12 : Cn m n l (ρ p.1.toNat) (ρ p.2) := Cn.trans (Cn.on c1 hw.2 ht) c2.symm
    have cmm : Cn m n l (min (ρ p.1.toNat) (ρ p.2)) (max (ρ p.1.toNat) (ρ p.2)) := by
      rcases Nat.le_total (ρ p.1.toNat) (ρ p.2) with e | e
      · rw [Nat.min_eq_left e, Nat.max_eq_right e]; exact c12
      · rw [Nat.min_eq_right e, Nat.max_eq_left e]; exact c12.symm
    refine ⟨fun i => ?_, fun i hi => ?_, fun i hi => ?_, fun q hq hq1 hq2 => ?_⟩
    · rw [key]
      have := h.le i
      split <;> omega
    · rw [key]
      have hc := h.wet i hi
      by_cases e : ρ i = max (ρ p.1.toNat) (ρ p.2)
      · rw [if_pos e]; rw [e] at hc; exact cmm.trans hc
      · rw [if_neg e]; exact hc
    · rw [key]
      have hd := h.dry i hi
      rw [if_neg (fun e => hi ?_)]
      · exact hd
      · rw [hd] at e
        rw [e]
        exact cmm.wet.2
    · rw [key, key]
      rcases List.mem_append.1 hq with hq' | hq'
      · rw [h.same q hq' hq1 hq2]
      · obtain rfl := List.mem_singleton.1 hq'
        by_cases e1 : ρ q.1.toNat = max (ρ q.1.toNat) (ρ q.2)
        · rw [if_pos e1]
          by_cases e2 : ρ q.2 = max (ρ q.1.toNat) (ρ q.2)
          · rw [if_pos e2]
          · rw [if_neg e2]; omega
        · rw [if_neg e1, if_pos (by omega)]; omega
  · have key : rhoS m n l ρ p = ρ := by funext i; unfold rhoS; rw [if_neg hw]
    rw [key]
    refine ⟨h.le, h.wet, h.dry, fun q hq hq1 hq2 => ?_⟩
    rcases List.mem_append.1 hq with hq' | hq'
    · exact h.same q hq' hq1 hq2
    · obtain rfl := List.mem_singleton.1 hq'
      exact absurd ⟨hq1, hq2⟩ hw
theorem RhoI.take {P : List Wt} (hP : ∀ p ∈ P, tch m p.1.toNat p.2) : ∀ j, j ≤ P.length → RhoI m n l (P.take j) (rho m n l (P.take j))
  | 0, _ => by simpa [rho] using RhoI.zero m n l
  | j + 1, hj => by
    rw [List.take_succ_eq_append_getElem (by omega), rho_snoc]
    exact (RhoI.take hP j (by omega)).step (hP _ (List.getElem_mem _))
/-- Each pair that touches is looked at. -/
theorem prK_all (ok : Ok l m n) {i k : Nat} (hi : i < l.length) (hk : k < l.length) (ht : tch m i k) (hlt : i < k) : ((i : Int), k) ∈ prK m n D4 l.length := by
  obtain ⟨hw, hn⟩ := tch_nb (n := n) ok.m1 ht (by rw [← ok.len]; exact hk)
  have hd : wyD m i k ∈ D4 := by
    have hm := ok.m1
    have h1 := Nat.div_add_mod i m
    have h2 := Nat.div_add_mod k m
    have h3 := Nat.mod_lt i (show 0 < m by omega)
    have h4 := Nat.mod_lt k (show 0 < m by omega)
    obtain ⟨hne, ⟨a1, a2⟩, b1, b2⟩ := ht
    unfold wyD
    generalize i / m = qi at *
    generalize k / m = qk at *
    generalize i % m = ri at *
    generalize k % m = rk at *
    have hq : qk = qi ∨ qk = qi + 1 := by
      rcases Nat.lt_or_ge qk qi with c | c
      · exfalso
        have : m * (qk + 1) ≤ m * qi := Nat.mul_le_mul_left m c
        rw [Nat.mul_add] at this
        omega
      · omega
    rcases hq with rfl | rfl
    · have : rk = ri + 1 := by omega
      subst this
      rw [show ((ri + 1 : Nat) : Int) - (ri : Int) = 1 by omega, show (qk : Int) - (qk : Int) = 0 by omega]
      decide
    · rw [show (qi : Int) - ((qi + 1 : Nat) : Int) = -1 by omega]
      rcases (show rk = ri ∨ rk = ri + 1 ∨ ri = rk + 1 by omega) with rfl | rfl | rfl
      · rw [show (rk : Int) - (rk : Int) = 0 by omega]; decide
      · rw [show ((ri + 1 : Nat) : Int) - (ri : Int) = 1 by omega]; decide
      · rw [show (rk : Int) - ((rk + 1 : Nat) : Int) = -1 by omega]; decide
  unfold prK
  refine List.mem_flatMap.2 ⟨i, List.mem_range.2 hi, List.mem_flatMap.2 ⟨_, hd, ?_⟩⟩
  unfold pr1
  rw [hn]
  exact List.mem_singleton.2 rfl
theorem prK_tch {p : Wt} (h : p ∈ prK m n D4 l.length) : tch m p.1.toNat p.2 := by
  obtain ⟨c, d, _, hd, h1, h2⟩ := prK_mem h
  rw [h1]
  have hd8 : d < 8 := by
    have : d ∈ ([0, 5, 6, 7] : List Nat) := hd
    simp at this
    omega
  exact (nb_tch hd8 h2).1
variable (m n l) in
/-- The first of each cell's lake. -/
def lak (i : Nat) : Nat := rho m n l (prK m n D4 l.length) i
theorem lak_least (ok : Ok l m n) {i : Nat} (hi : wetP m n l i) : Cn m n l (lak m n l i) i ∧ ∀ x, Cn m n l x i → lak m n l i ≤ x := by
  have hI := RhoI.take (l := l) (P := prK m n D4 l.length) (n := n) (fun p hp => prK_tch hp) _ (Nat.le_refl _)
  rw [List.take_length] at hI
  have same : ∀ x y, Cn m n l x y → lak m n l x = lak m n l y := by
    intro x y hxy
    induction hxy with
    | here _ => rfl
    | @on y z hxy hz ht ih =>
      have hy := hxy.wet.2
      rw [ih]
      rcases Nat.lt_trichotomy y z with c | c | c
      · exact hI.same _ (prK_all ok hy.1 hz.1 ht c) (by simpa using hy) hz
      · rw [c]
      · exact (hI.same _ (prK_all ok hz.1 hy.1 (tch_symm ht) c) (by simpa using hz) hy).symm
  refine ⟨hI.wet i hi, fun x hx => ?_⟩
  have := same x i hx
  have h2 := hI.le x
  unfold lak at *
  omega
/-- The reference's names are the same. -/
theorem lak_eq (ok : Ok l m n) {L : List Int} (h : LI m n l L) (hs : ∀ i k, i < l.length → k < l.length → Stb m L i k) {k : Nat} (hk : wetP m n l k) : gl L k = (lak m n l k : Int) := by
  obtain ⟨v, hv, hc, hl⟩ := h.least hs hk
  obtain ⟨h1, h2⟩ := lak_least ok hk
  have a := hl _ h1
  have b := h2 _ hc
  rw [hv]
  omega
end
end Go.Proofs.YtddnebgnohlchaaGreatDoor
namespace Go.Proofs.YtddnebgnohlchaaGreatDoor
open Go.RowKit

/-- The least one of them, if there is any. -/
def Lst (S : Int → Prop) : Option Int → Prop
  | none => ∀ v, ¬ S v
  | some v => S v ∧ ∀ u, S u → v ≤ u
theorem Lst.uniq {S T : Int → Prop} (h : ∀ v, S v ↔ T v) {a b : Option Int} (ha : Lst S a) (hb : Lst T b) : a = b := by
  cases a with
  | none => cases b with
    | none => rfl
    | some v => exact absurd ((h v).2 hb.1) (ha v)
  | some u => cases b with
    | none => exact absurd ((h u).1 ha.1) (hb u)
    | some v =>
      have h1 := ha.2 v ((h v).2 hb.1)
      have h2 := hb.2 u ((h u).1 ha.1)
      rw [show u = v by omega]
theorem snocInd {α : Type} {P : List α → Prop} (h0 : P []) (h1 : ∀ L p, P L → P (L ++ [p])) (L : List α) : P L := by
  have : ∀ n (L : List α), L.length = n → P L := by
    intro n
    induction n with
    | zero => intro L h; obtain rfl := List.length_eq_zero_iff.1 h; exact h0
    | succ n ih =>
      intro L h
      have hne : L ≠ [] := by intro e; rw [e] at h; simp at h
      rw [← List.dropLast_concat_getLast hne]
      exact h1 _ _ (ih _ (by simp; omega))
  exact this _ L rfl
section
variable (m n : Nat) (l : List Int)
/-- The basins of a pair of cells, the lesser number first; how high it lies. -/
def kq (q : Wt) : Nn := (min (hom m n l q.1.toNat) (hom m n l q.2), max (hom m n l q.1.toNat) (hom m n l q.2))
def vq (q : Wt) : Int := max (gl l q.1.toNat) (gl l q.2)
/-- One pair more. -/
def stM (F : Nn → Option Int) (q : Wt) : Nn → Option Int :=
  if hom m n l q.1.toNat = hom m n l q.2 then F
  else match F (kq m n l q) with
    | none => fun x => if x = kq m n l q then some (vq l q) else F x
    | some u => if vq l q < u then fun x => if x = kq m n l q then some (vq l q) else F x else F
def msF (P : List Wt) : Nn → Option Int := P.foldl (stM m n l) (fun _ => none)
theorem msF_snoc (P : List Wt) (q : Wt) : msF m n l (P ++ [q]) = stM m n l (msF m n l P) q := by unfold msF; rw [List.foldl_append]; rfl
/-- The heights of the pairs between two basins. -/
def SP (P : List Wt) (p : Nn) (v : Int) : Prop := ∃ q ∈ P, hom m n l q.1.toNat ≠ hom m n l q.2 ∧ kq m n l q = p ∧ v = vq l q
theorem msF_least (P : List Wt) : ∀ p, Lst (SP m n l P p) (msF m n l P p) := by
  induction P using snocInd with
  | h0 => exact fun p v ⟨q, hq, _⟩ => by cases hq
  | h1 P q ih =>
    intro p
    have hS : ∀ v, SP m n l (P ++ [q]) p v ↔ SP m n l P p v ∨ (hom m n l q.1.toNat ≠ hom m n l q.2 ∧ kq m n l q = p ∧ v = vq l q) := fun v => by
      constructor
      · rintro ⟨q', h1, h2⟩
        rcases List.mem_append.1 h1 with h1 | h1
        · exact .inl ⟨q', h1, h2⟩
        · rw [List.mem_singleton.1 h1] at h2; exact .inr h2
      · rintro (⟨q', h1, h2⟩ | h)
        · exact ⟨q', List.mem_append.2 (.inl h1), h2⟩
        · exact ⟨q, by simp, h⟩
    have hp := ih p
    have keep : ¬ (hom m n l q.1.toNat ≠ hom m n l q.2 ∧ kq m n l q = p) → Lst (SP m n l (P ++ [q]) p) (msF m n l P p) := fun hn => by
      revert hp
      cases msF m n l P p with
      | none => exact fun hp v hv => ((hS v).1 hv).elim (hp v) (fun h => hn ⟨h.1, h.2.1⟩)
      | some u => exact fun hp => ⟨(hS u).2 (.inl hp.1), fun v hv => ((hS v).1 hv).elim (hp.2 v) (fun h => absurd ⟨h.1, h.2.1⟩ hn)⟩
    rw [msF_snoc]
    unfold stM
    by_cases h1 : hom m n l q.1.toNat = hom m n l q.2
    · rw [if_pos h1]
      exact keep (fun h => h.1 h1)
    · rw [if_neg h1]
      by_cases h2 : p = kq m n l q
      · subst h2
        cases hF : msF m n l P (kq m n l q) with
        | none =>
          rw [hF] at hp
          show Lst _ (if _ then _ else _)
          rw [if_pos rfl]
          exact ⟨(hS _).2 (.inr ⟨h1, rfl, rfl⟩), fun u hu => ((hS u).1 hu).elim (fun h => absurd h (hp u)) (fun h => by rw [h.2.2]; exact Int.le_refl _)⟩
        | some u =>
          rw [hF] at hp
          show Lst _ ((if vq l q < u then _ else _ : Nn → Option Int) _)
          by_cases h3 : vq l q < u
          · rw [if_pos h3, if_pos rfl]
            exact ⟨(hS _).2 (.inr ⟨h1, rfl, rfl⟩), fun v hv => ((hS v).1 hv).elim (fun h => by have := hp.2 v h; omega) (fun h => by rw [h.2.2]; exact Int.le_refl _)⟩
          · rw [if_neg h3, hF]
            exact ⟨(hS _).2 (.inl hp.1), fun v hv => ((hS v).1 hv).elim (hp.2 v) (fun h => by rw [h.2.2]; omega)⟩
      · have hk := keep (fun h => h2 h.2.symm)
        cases hF : msF m n l P (kq m n l q) with
        | none =>
          show Lst _ (if _ then _ else _)
          rw [if_neg h2]
          exact hk
        | some u =>
          show Lst _ ((if vq l q < u then _ else _ : Nn → Option Int) _)
          by_cases h3 : vq l q < u
          · rw [if_pos h3, if_neg h2]; exact hk
          · rw [if_neg h3]; exact hk
/-- The heights where two basins touch. -/
def Sxy (x y : Nat) (v : Int) : Prop := ∃ i k, i < l.length ∧ k < l.length ∧ tch m i k ∧ hom m n l i = x ∧ hom m n l k = y ∧ v = max (gl l i) (gl l k)
/-- All pairs that touch. -/
def gP2 : Nn → Option Int := msF m n l (prK m n D4 l.length)
variable {m n l}
theorem SP_all (ok : Ok l m n) {x y : Nat} (h : x < y) (v : Int) : SP m n l (prK m n D4 l.length) (x, y) v ↔ Sxy m n l x y v := by
  constructor
  · rintro ⟨⟨c', o⟩, hq, h1, h2, h3⟩
    obtain ⟨c, d, hc, hd, rfl, hn⟩ := prK_mem hq
    have hd8 : d < 8 := by
      simp only [List.mem_cons, List.not_mem_nil, or_false] at hd
      omega
    have ht := nb_tch hd8 hn
    have ho : o < l.length := by rw [ok.len]; exact ht.2.1
    simp only [kq, vq, Int.toNat_natCast, Prod.mk.injEq] at h1 h2 h3
    by_cases e : hom m n l c ≤ hom m n l o
    · exact ⟨c, o, hc, ho, ht.1, by omega, by omega, h3⟩
    · exact ⟨o, c, ho, hc, tch_symm ht.1, by omega, by omega, by rw [h3, Int.max_comm]⟩
  · rintro ⟨i, k, hi, hk, ht, h1, h2, h3⟩
    have hne : i ≠ k := ht.1
    by_cases e : i < k
    · refine ⟨((i : Int), k), prK_all ok hi hk ht e, ?_, ?_, ?_⟩
      · simp only [Int.toNat_natCast]; omega
      · simp only [kq, Int.toNat_natCast, Prod.mk.injEq]; omega
      · simp only [vq, Int.toNat_natCast]; exact h3
    · refine ⟨((k : Int), i), prK_all ok hk hi (tch_symm ht) (by omega), ?_, ?_, ?_⟩
      · simp only [Int.toNat_natCast]; omega
      · simp only [kq, Int.toNat_natCast, Prod.mk.injEq]; omega
      · simp only [vq, Int.toNat_natCast]; rw [h3, Int.max_comm]
theorem gP2_eq (ok : Ok l m n) {x y : Nat} (h : x < y) {o : Option Int} (ho : Lst (Sxy m n l x y) o) : gP2 m n l (x, y) = o := (msF_least m n l _ (x, y)).uniq (SP_all ok h) ho
theorem gP2_key (ok : Ok l m n) {p : Nn} (h : (gP2 m n l p).isSome = true) : p.1 < p.2 ∧ p.2 < l.length ∧ hom m n l p.1 = p.1 ∧ hom m n l p.2 = p.2 := by
  have hl := msF_least m n l (prK m n D4 l.length) p
  unfold gP2 at h
  cases hF : msF m n l (prK m n D4 l.length) p with
  | none => rw [hF] at h; cases h
  | some v =>
    rw [hF] at hl
    obtain ⟨⟨⟨c', o⟩, hq, h1, h2, h3⟩, -⟩ := hl
    obtain ⟨c, d, hc, hd, rfl, hn⟩ := prK_mem hq
    have hd8 : d < 8 := by
      simp only [List.mem_cons, List.not_mem_nil, or_false] at hd
      omega
    have ho : o < l.length := by rw [ok.len]; exact (nb_tch hd8 hn).2.1
    simp only [kq, Int.toNat_natCast] at h1 h2
    subst h2
    have e1 := hom_lt m n l ok.m1 ok.len hc
    have e2 := hom_lt m n l ok.m1 ok.len ho
    have f1 := hom_self m n l (hom_fix m n l ok.m1 ok.len hc)
    have f2 := hom_self m n l (hom_fix m n l ok.m1 ok.len ho)
    by_cases e : hom m n l c ≤ hom m n l o
    · rw [Nat.min_eq_left e, Nat.max_eq_right e]
      exact ⟨by omega, e2, f1, f2⟩
    · rw [Nat.min_eq_right (by omega), Nat.max_eq_left (by omega)]
      exact ⟨by omega, e1, f2, f1⟩
end
end Go.Proofs.YtddnebgnohlchaaGreatDoor
namespace Go.Proofs.YtddnebgnohlchaaGreatDoor
open Go.RowKit

/-- Ahead of another one. -/
def ltN (p q : Nn) : Prop := p.1 < q.1 ∨ p.1 = q.1 ∧ p.2 < q.2
instance (p q : Nn) : Decidable (ltN p q) := by unfold ltN; infer_instance
theorem ltN_trans {p q r : Nn} (h : ltN p q) (k : ltN q r) : ltN p r := by unfold ltN at *; omega
/-- How two are told apart. -/
def cfN (p q : Nn) : Int := orI (cmI (p.1 : Int) (q.1 : Int)) (cmI (p.2 : Int) (q.2 : Int))
theorem cfN_lt (p q : Nn) : cfN p q < 0 ↔ ltN p q := by
  unfold cfN orI cmI ltN
  by_cases h1 : p.1 < q.1
  · simp [h1]
  · by_cases h2 : q.1 < p.1
    · have h3 : ¬ (p.1 : Int) < q.1 := by omega
      have h4 : (q.1 : Int) < p.1 := by omega
      simp [h3, h4]
      omega
    · have h3 : ¬ (p.1 : Int) < q.1 := by omega
      have h4 : ¬ (q.1 : Int) < p.1 := by omega
      simp only [h3, h4, if_false, if_true]
      by_cases h5 : p.2 < q.2
      · have h6 : (p.2 : Int) < q.2 := by omega
        simp [h6]
        omega
      · have h6 : ¬ (p.2 : Int) < q.2 := by omega
        simp only [h6, if_false]
        split <;> omega
section
variable (G : Nn → Option Int) (N : Nat)
def rwP (x Y : Nat) : List Nn := ((List.range Y).filter (fun y => decide (x < y) && (G (x, y)).isSome)).map (fun y => (x, y))
theorem rwP_succ (x y : Nat) : rwP G x (y + 1) = if x < y ∧ (G (x, y)).isSome = true then rwP G x y ++ [(x, y)] else rwP G x y := by
  unfold rwP
  rw [List.range_succ, List.filter_append, List.map_append]
  by_cases h : x < y ∧ (G (x, y)).isSome = true
  · rw [if_pos h]; simp [h.1, h.2]
  · rw [if_neg h]
    have : (decide (x < y) && (G (x, y)).isSome) = false := by
      cases hg : (G (x, y)).isSome
      · simp
      · have : ¬ x < y := fun hh => h ⟨hh, hg⟩
        simp [this]
    simp [this]
theorem rwP_low {x Y : Nat} (h : Y ≤ x + 1) : rwP G x Y = [] := by
  unfold rwP
  rw [List.map_eq_nil_iff, List.filter_eq_nil_iff]
  intro y hy
  have := List.mem_range.1 hy
  have : ¬ x < y := by omega
  simp [this]
theorem rwP_mem {x Y : Nat} {p : Nn} : p ∈ rwP G x Y ↔ p.1 = x ∧ p.2 < Y ∧ x < p.2 ∧ (G p).isSome = true := by
  unfold rwP
  rw [List.mem_map]
  constructor
  · rintro ⟨y, hy, rfl⟩
    obtain ⟨h1, h2⟩ := List.mem_filter.1 hy
    simp only [Bool.and_eq_true, decide_eq_true_eq] at h2
    exact ⟨rfl, List.mem_range.1 h1, h2.1, h2.2⟩
  · rintro ⟨h1, h2, h3, h4⟩
    subst h1
    exact ⟨p.2, List.mem_filter.2 ⟨List.mem_range.2 h2, by simp [h3, h4]⟩, rfl⟩
theorem rwP_pre (x y : Nat) : ∀ d, rwP G x y <+: rwP G x (y + d)
  | 0 => List.prefix_refl _
  | d + 1 => by
    refine (rwP_pre x y d).trans ?_
    rw [← Nat.add_assoc, rwP_succ]
    split
    · exact List.prefix_append _ _
    · exact List.prefix_refl _
/-- The keys, as far as the statement has come. -/
def psQ (x y : Nat) : List Nn := (List.range x).flatMap (fun x' => rwP G x' N) ++ rwP G x y
theorem psQ_zero : psQ G N 0 0 = [] := by simp [psQ, rwP]
theorem psQ_next (x : Nat) : psQ G N (x + 1) 0 = psQ G N x N := by
  unfold psQ
  rw [List.range_succ, List.flatMap_append, rwP_low G (by omega)]
  simp
theorem psQ_start (x : Nat) : psQ G N x (x + 1) = psQ G N x 0 := by unfold psQ; rw [rwP_low G (by omega), rwP_low G (by omega)]
theorem psQ_yes {x y : Nat} (h : x < y) (hg : (G (x, y)).isSome = true) : psQ G N x (y + 1) = psQ G N x y ++ [(x, y)] := by unfold psQ; rw [rwP_succ, if_pos ⟨h, hg⟩, List.append_assoc]
theorem psQ_no {x y : Nat} (h : ¬ (x < y ∧ (G (x, y)).isSome = true)) : psQ G N x (y + 1) = psQ G N x y := by unfold psQ; rw [rwP_succ, if_neg h]
theorem psQ_up (x : Nat) : ∀ d, psQ G N x 0 <+: psQ G N (x + d) 0
  | 0 => List.prefix_refl _
  | d + 1 => by
    refine (psQ_up x d).trans ?_
    rw [← Nat.add_assoc, psQ_next]
    unfold psQ
    rw [rwP_low G (by omega), List.append_nil]
    exact List.prefix_append _ _
theorem psQ_pre {x y : Nat} (hx : x < N) (hy : y ≤ N) : psQ G N x y <+: psQ G N N 0 := by
  have h1 : psQ G N x y <+: psQ G N (x + 1) 0 := by
    rw [psQ_next]
    unfold psQ
    refine (List.prefix_append_right_inj _).2 ?_
    have := rwP_pre G x y (N - y)
    rwa [show y + (N - y) = N by omega] at this
  have h2 := psQ_up G N (x + 1) (N - (x + 1))
  rw [show x + 1 + (N - (x + 1)) = N by omega] at h2
  exact h1.trans h2
theorem psQ_mem {p : Nn} : p ∈ psQ G N N 0 ↔ p.1 < N ∧ p.2 < N ∧ p.1 < p.2 ∧ (G p).isSome = true := by
  unfold psQ
  rw [rwP_low G (by omega), List.append_nil, List.mem_flatMap]
  constructor
  · rintro ⟨x, hx, hp⟩
    obtain ⟨h1, h2, h3, h4⟩ := (rwP_mem G).1 hp
    have := List.mem_range.1 hx
    exact ⟨by omega, h2, by omega, h4⟩
  · rintro ⟨h1, h2, h3, h4⟩
    exact ⟨p.1, List.mem_range.2 h1, (rwP_mem G).2 ⟨rfl, h2, h3, h4⟩⟩
theorem psQ_sorted : (psQ G N N 0).Pairwise ltN := by
  unfold psQ
  rw [rwP_low G (by omega), List.append_nil, List.pairwise_flatMap]
  refine ⟨fun x _ => ?_, List.pairwise_lt_range.imp (fun {a b} hab p hp q hq => ?_)⟩
  · unfold rwP
    rw [List.pairwise_map]
    exact (List.Pairwise.filter _ List.pairwise_lt_range).imp (fun {a b} hab => .inr ⟨rfl, hab⟩)
  · have h1 := ((rwP_mem G).1 hp).1
    have h2 := ((rwP_mem G).1 hq).1
    exact .inl (by omega)
end
/-- The keys that came, sorted. -/
def srtN (ks : List Nn) : List Nn := ks.mergeSort fun x y => !(decide (cfN y x < 0))
theorem srtN_eq {G : Nn → Option Int} {N : Nat} {ks : List Nn} (hd : ks.Nodup) (hm : ∀ p, p ∈ ks ↔ (G p).isSome = true) (hs : ∀ p, (G p).isSome = true → p.1 < p.2 ∧ p.2 < N) : srtN ks = psQ G N N 0 := by
  have hle : ∀ a b : Nn, (!(decide (cfN b a < 0))) = true ↔ ¬ ltN b a := fun a b => by
    rw [Bool.not_eq_true', decide_eq_false_iff_not, cfN_lt]
  refine List.Perm.eq_of_pairwise (le := fun a b : Nn => ¬ ltN b a) (fun a b _ _ h1 h2 => ?_) ?_ ?_ ?_
  · unfold ltN at h1 h2
    exact Prod.ext (by omega) (by omega)
  · have := List.pairwise_mergeSort (le := fun x y : Nn => !(decide (cfN y x < 0))) (fun a b c h1 h2 => by
      rw [hle] at *; unfold ltN at *; omega) (fun a b => by
      rw [Bool.or_eq_true, hle, hle]; unfold ltN; omega) ks
    exact this.imp (fun h => (hle _ _).1 h)
  · exact (psQ_sorted G N).imp (fun {a b} h k => by unfold ltN at h k; omega)
  · refine (List.mergeSort_perm _ _).trans ((List.perm_ext_iff_of_nodup hd ((psQ_sorted G N).imp (fun {a b} h => ?_))).2 (fun p => ?_))
    · rintro rfl; unfold ltN at h; omega
    · rw [hm, psQ_mem]
      exact ⟨fun h => by have := hs p h; exact ⟨by omega, this.2, this.1, h⟩, fun h => h.2.2.2⟩
end Go.Proofs.YtddnebgnohlchaaGreatDoor
