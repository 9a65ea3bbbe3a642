/-
  drain.Fill; Fill, Flow, Order of what is no right raster.; mercatorref4.IsRim, WayOf.; The reference's flood: what lies in memory of it. No walk.; DrainFloods: what the law calls besides: small, drains.
-/
import Derived.Test.YtlhligeicnejbaaDoorQJ11
import Derived.Test.YtlhligeicnejbaaDoorQJ4
import Derived.Test.YtlhligeicnejbaaDoorQRb
import Derived.Test.YtlhligeicnejbaaDoorQJ9
import Derived.Test.YtlhligeicnejbaaDoorQJ10
namespace Go.Proofs.YtlhligeicnejbaaDoor
open Go.RowKit
attribute [local go_sem ↓] Go.wp_at_zero Go.wp_at_succ

abbrev ra0 : Value := raV 0 0 (.slice none 0 0)
/-- Two blocks of three cells, and what was there. -/
structure P2 (w W : World) (A B : Nat) (t u : List Value) : Prop where
  a : At W A t
  b : At W B u
  gr : Gr w W
  n : A ≠ B ∧ w.heap.size ≤ A ∧ w.heap.size ≤ B
theorem P2.below {w W w' : World} {A B : Nat} {t u : List Value} (h : P2 w W A B t u) (hB : Below W.heap.size W w') : P2 w w' A B t u := ⟨At.below hB h.a, At.below hB h.b, Gr.step h.gr hB, h.n⟩
theorem P2.drew {w W : World} {A B : Nat} {t u : List Value} (h : P2 w W A B t u) : P2 w W.drew A B t u := ⟨h.a, h.b, h.gr.drew, h.n⟩
theorem P2.new (w : World) (a b c d e f : Value) (t u : Nat) : P2 w ((w.alloc (.cells #[a, b, c] t)).alloc (.cells #[d, e, f] u)) w.heap.size (w.heap.size + 1) [a, b, c] [d, e, f] :=
  ⟨(At.new3 w a b c t).alloc _, At.nx3 _ _ _ _ _, ((Gr.refl w).alloc _).alloc _, by omega, Nat.le_refl _, by omega⟩
theorem P2.fill {w W : World} {A B : Nat} {t u : List Value} (h : P2 w W A B t u) (x y z : Value) : Gr w (((W.setCell ⟨B, 0, none⟩ x).setCell ⟨B, 1, none⟩ y).setCell ⟨B, 2, none⟩ z) := ((h.gr.set h.n.2.2 0 x).set h.n.2.2 1 y).set h.n.2.2 2 z
set_option maxRecDepth 4000 in
set_option maxHeartbeats 8000000 in
theorem flow_no (g : Nat → Addr) {W H : Int} {ad : Option Addr} {b o cap : Nat} {l : List Int} (w : World) (h : ISl w ad b o cap l) (ll : l.length ≤ 20000) (hl : Lai w g) (hv : ¬ vcode W H l = 0) : Calls Tryd.prog 14 #[raV W H (.slice ad l.length cap)] w fun e w' => e = .returned (.tuple #[.slice none 0 0, evc g (vcode W H l)]) ∧ Gr w w' := by
  have PX : Hid (PF w (w.alloc (.cells #[.int .i64 W, .int .i64 H, .slice ad l.length cap] 32)) w.heap.size [.int .i64 W, .int .i64 H, .slice ad l.length cap]) := ⟨At.new3 _ _ _ _ _, (Gr.refl w).alloc _⟩
  have C1 := hidb (valid_lai g W H ad b o cap l _ (h.below PX.out.gr.out) ll (hl.below PX.out.gr.out))
  rw [evc_of hv] at C1 ⊢
  generalize vcode W H l - 1 = ei at *
  clear h ll hl hv
  go_enter Tryd.func14, Tryd.ntmps14
  obtain ⟨q0, q1, q2⟩ := PX.out.a.c3
  go_wp2_with fail
  refine C1.out.mono ?_
  rintro e w1 ⟨rfl, hB⟩
  clear q0 q1 q2
  go_wp2
  go_ret2
  exact ⟨rfl, Gr.step PX.out.gr hB.out⟩
end Go.Proofs.YtlhligeicnejbaaDoor
namespace Go.Proofs.YtlhligeicnejbaaDoor
open Go.RowKit

set_option maxRecDepth 4000 in
set_option maxHeartbeats 8000000 in
theorem isRim_any {pb po m n cap : Nat} {H : Int} {ad : Option Addr} (N c : Nat) (hm : 1 ≤ m) (hN : N = m * n) (hN2 : N ≤ 16384) (hc : c < N) (w : World) (hp : PtR w pb po m H (.slice ad N cap)) : Calls Tryd.prog 24 #[.pointer (some ⟨pb, po, none⟩), .int .i64 (c : Int)] w fun e w' => e = .returned (.bool (decide (rim m n c))) ∧ Gr w w' := by
  have HT := hidb (fun k (hk : k < N) W (hG : Gr w W) => touchOf_any c k hm (by omega) (by omega) W (hp.below hG.out))
  have HE : Hid (decide (rim m n c) = decide (((tcs m c N : Nat) : Int) < 8)) := by
    show _ = _
    apply decide_eq_decide.2
    rw [← tcs_rim (show c < m * n by omega), ← hN]
    omega
  have HP := hidb hp
  have HB := hidb hN2
  clear hm hN hc hp hN2
  go_enter Tryd.func24, Tryd.ntmps24
  go_wp2
  go_loopw [5, 6] (fun s t wr => ∃ k : Nat, k ≤ N ∧ s = .int .i64 ((tcs m c k : Nat) : Int) ∧ t = .int .i64 (k : Int) ∧ Hid (Gr w wr)) (fun _ t _ => N - (intOf t).toNat)
  case atStart => exact ⟨0, Nat.zero_le _, by simp [tcs], rfl, hidb (Gr.refl w)⟩
  case round =>
    obtain ⟨k, hk, rfl, rfl, G⟩ := hrel
    have p2 := (HP.out.below G.out.out).c2
    by_cases h1 : k < N
    · have h1' : (k : Int) < (N : Int) := by omega
      have hb := HB.out
      have e1 : IntKind.i64.wrap ((k : Int) + 1) = ((k + 1 : Nat) : Int) := wrap_in (by omega) (by omega)
      have e2 : IntKind.i64.wrap (((tcs m c k : Nat) : Int) + 1) = ((tcs m c k + 1 : Nat) : Int) := wrap_in (by have := tcs_le m c k; omega) (by have := tcs_le m c k; omega)
      have HC := hidb (HT.out k h1 wr G.out)
      have HSc := hidb (tcs_succ m c k)
      generalize tcs m c k = tk at *
      clear hb h1
      by_cases ht : tch m c k
      · rw [decide_eq_true ht] at HC
        rw [if_pos ht] at HSc
        clear ht
        go_wp2_with fail
        refine HC.out.mono ?_
        rintro e w2 ⟨rfl, hB⟩
        go_wp2
        go_roundw
        case rel => exact ⟨k + 1, by omega, by rw [HSc.out]; rfl, by go_num, hidb (Gr.step G.out hB.out)⟩
        case measure => simp [intOf]; omega
      · rw [decide_eq_false ht] at HC
        rw [if_neg ht] at HSc
        clear ht
        go_wp2_with fail
        refine HC.out.mono ?_
        rintro e w2 ⟨rfl, hB⟩
        go_wp2
        go_roundw
        case rel => exact ⟨k + 1, by omega, by rw [HSc.out]; rfl, by go_num, hidb (Gr.step G.out hB.out)⟩
        case measure => simp [intOf]; omega
    · have hkN : k = N := by omega
      subst hkN
      generalize tcs m c k = tk at *
      go_wp2
      go_ret
      exact ⟨by rw [HE.out]; rfl, G.out⟩
end Go.Proofs.YtlhligeicnejbaaDoor
namespace Go.Proofs.YtlhligeicnejbaaDoor
open Go.RowKit

/-- Where a cell flows, as it is kept: -1 where it does not wait yet. -/
def twV (S : FS) (i : Nat) : Int := if S.st i = 0 then -1 else (S.tw i : Int)
section
variable (m n : Nat) (l : List Int)
/-- What lies in memory of the reference's flood is the flood. -/
structure RSy (S : FS) (Lf Lt Ls : List Int) : Prop where
  f : ∀ i, i < l.length → gl Lf i = S.fi i
  t : ∀ i, i < l.length → gl Lt i = twV S i
  s : ∀ i, i < l.length → gl Ls i = (S.st i : Int)
  ll : Lf.length = l.length ∧ Lt.length = l.length ∧ Ls.length = l.length
/-- Ahead of the rim's end: what follows k is nothing yet. -/
structure RS0 (k : Nat) (Lf Lt Ls : List Int) : Prop where
  f : ∀ i, i < l.length → gl Lf i = (fsK m n l k).fi i
  t : ∀ i, i < k → i < l.length → gl Lt i = twV (fsK m n l k) i
  s : ∀ i, i < l.length → gl Ls i = ((fsK m n l k).st i : Int)
  ll : Lf.length = l.length ∧ Lt.length = l.length ∧ Ls.length = l.length
theorem RS0.zero : RS0 m n l 0 (List.replicate l.length 0) (List.replicate l.length 0) (List.replicate l.length 0) := by
  have e : ∀ i, ¬ (i < 0 ∧ rim m n i) := fun i h => absurd h.1 (Nat.not_lt_zero _)
  refine ⟨fun i hi => ?_, fun i hi => absurd hi (Nat.not_lt_zero _), fun i hi => ?_, by simp⟩
  · show _ = (if i < 0 ∧ rim m n i then gl l i else 0)
    rw [if_neg (e i)]
    simp [gl, hi]
  · show _ = (((if i < 0 ∧ rim m n i then 1 else 0 : Nat)) : Int)
    rw [if_neg (e i)]
    simp [gl, hi]
theorem fsK_lt {k i : Nat} (h : i ≠ k) : (fsK m n l (k + 1)).st i = (fsK m n l k).st i ∧ (fsK m n l (k + 1)).fi i = (fsK m n l k).fi i := by
  have e : (i < k + 1 ∧ rim m n i) ↔ (i < k ∧ rim m n i) := by
    constructor
    · intro ⟨h1, h2⟩; exact ⟨by omega, h2⟩
    · intro ⟨h1, h2⟩; exact ⟨by omega, h2⟩
  constructor
  · show (if i < k + 1 ∧ rim m n i then 1 else 0) = (if i < k ∧ rim m n i then 1 else 0)
    simp only [e]
  · show (if i < k + 1 ∧ rim m n i then gl l i else 0) = (if i < k ∧ rim m n i then gl l i else 0)
    simp only [e]
theorem RS0.rim {k : Nat} {Lf Lt Ls : List Int} (h : RS0 m n l k Lf Lt Ls) (hk : k < l.length) (hr : rim m n k) : RS0 m n l (k + 1) (Lf.set k (gl l k)) ((Lt.set k (-1)).set k (k : Int)) (Ls.set k 1) := by
  obtain ⟨l1, l2, l3⟩ := h.ll
  have hs : (fsK m n l (k + 1)).st k = 1 := if_pos ⟨Nat.lt_succ_self _, hr⟩
  have hf : (fsK m n l (k + 1)).fi k = gl l k := if_pos ⟨Nat.lt_succ_self _, hr⟩
  refine ⟨fun i hi => ?_, fun i hi hil => ?_, fun i hi => ?_, by simp [l1, l2, l3]⟩
  · rw [gl_set (by omega)]
    by_cases c : i = k
    · rw [if_pos c, c, hf]
    · rw [if_neg c, (fsK_lt m n l c).2]; exact h.f i hi
  · rw [gl_set (by simp; omega)]
    unfold twV
    by_cases c : i = k
    · rw [if_pos c, c, hs]; rfl
    · rw [if_neg c, gl_set (by omega), if_neg c, (fsK_lt m n l c).1]; exact h.t i (by omega) hil
  · rw [gl_set (by omega)]
    by_cases c : i = k
    · rw [if_pos c, c, hs]; rfl
    · rw [if_neg c, (fsK_lt m n l c).1]; exact h.s i hi
theorem RS0.not {k : Nat} {Lf Lt Ls : List Int} (h : RS0 m n l k Lf Lt Ls) (hk : k < l.length) (hr : ¬ Go.Proofs.YtlhligeicnejbaaDoor.rim m n k) : RS0 m n l (k + 1) Lf (Lt.set k (-1)) Ls := by
  obtain ⟨l1, l2, l3⟩ := h.ll
  have e := fsK_same m n l k hr
  refine ⟨fun i hi => by rw [e]; exact h.f i hi, fun i hi hil => ?_, fun i hi => by rw [e]; exact h.s i hi, by simp [l1, l2, l3]⟩
  rw [e, gl_set (by omega)]
  by_cases c : i = k
  · rw [if_pos c]
    unfold twV
    have : (fsK m n l k).st i = 0 := if_neg (fun h => by have := h.1; omega)
    rw [this]; rfl
  · rw [if_neg c]; exact h.t i (by omega) hil
theorem RS0.all {Lf Lt Ls : List Int} (h : RS0 m n l l.length Lf Lt Ls) : RSy l (flo m n l 0) Lf Lt Ls := ⟨h.f, fun i hi => h.t i hi hi, h.s, h.ll⟩
/-- The step, as far as the first k cells. -/
def NwC (S : FS) (b k i : Nat) : Prop := New m l S b i ∧ i < k
instance (S : FS) (b k i : Nat) : Decidable (NwC m l S b k i) := by unfold NwC; exact inferInstance
def stC (S : FS) (b k : Nat) : FS :=
  ⟨fun i => if i = b then 2 else if NwC m l S b k i then 1 else S.st i, fun i => if NwC m l S b k i then up1 (gl l i) (S.fi b) else S.fi i, fun i => if NwC m l S b k i then b else S.tw i, S.ord ++ [b]⟩
theorem stC_all (S : FS) (b : Nat) : stC m l S b l.length = stepF m l S b := by
  have e : ∀ i, NwC m l S b l.length i ↔ New m l S b i := fun i => ⟨fun h => h.1, fun h => ⟨h, h.1⟩⟩
  unfold stC stepF
  simp only [e]
theorem NwC_succ (S : FS) (b k i : Nat) : NwC m l S b (k + 1) i ↔ NwC m l S b k i ∨ (New m l S b i ∧ i = k) := by
  unfold NwC
  constructor
  · intro ⟨h1, h2⟩
    by_cases c : i = k
    · exact .inr ⟨h1, c⟩
    · exact .inl ⟨h1, by omega⟩
  · rintro (⟨h1, h2⟩ | ⟨h1, h2⟩)
    · exact ⟨h1, by omega⟩
    · exact ⟨h1, by omega⟩
theorem stC_same (S : FS) (b k : Nat) (h : ¬ New m l S b k) : stC m l S b (k + 1) = stC m l S b k := by
  have e : ∀ i, NwC m l S b (k + 1) i ↔ NwC m l S b k i := fun i => by
    rw [NwC_succ]
    refine ⟨fun h' => h'.elim id (fun h' => ?_), .inl⟩
    exact absurd (h'.2 ▸ h'.1) h
  unfold stC
  simp only [e]
theorem stC_st {S : FS} {b k : Nat} (h : k ≠ b) : (stC m l S b k).st k = S.st k := by
  show (if k = b then 2 else if NwC m l S b k k then 1 else S.st k) = _
  rw [if_neg h, if_neg (fun h => by have := h.2; omega)]
theorem RSy.new {S : FS} {b k : Nat} {Lf Lt Ls : List Int} (h : RSy l (stC m l S b k) Lf Lt Ls) (hN : New m l S b k) : RSy l (stC m l S b (k + 1)) (Lf.set k (up1 (gl l k) (S.fi b))) (Lt.set k (b : Int)) (Ls.set k 1) := by
  obtain ⟨l1, l2, l3⟩ := h.ll
  have hk := hN.1
  have hkb : k ≠ b := fun e => hN.2.2.1 e.symm
  have e : ∀ i, NwC m l S b (k + 1) i ↔ NwC m l S b k i ∨ i = k := fun i => by
    rw [NwC_succ]
    exact ⟨fun h => h.imp id (fun h => h.2), fun h => h.imp id (fun h => ⟨by rw [h]; exact hN, h⟩)⟩
  have s1 : ∀ i, (stC m l S b (k + 1)).st i = if i = k then 1 else (stC m l S b k).st i := fun i => by
    show (if i = b then 2 else if NwC m l S b (k + 1) i then 1 else S.st i) = if i = k then 1 else (if i = b then 2 else if NwC m l S b k i then 1 else S.st i)
    by_cases c : i = k
    · subst c; rw [if_neg hkb, if_pos ((e i).2 (.inr rfl)), if_pos rfl]
    · rw [if_neg c]
      by_cases d : NwC m l S b k i
      · rw [if_pos ((e i).2 (.inl d)), if_pos d]
      · rw [if_neg (fun h => ((e i).1 h).elim d c), if_neg d]
  have s2 : ∀ i, (stC m l S b (k + 1)).fi i = if i = k then up1 (gl l k) (S.fi b) else (stC m l S b k).fi i := fun i => by
    show (if NwC m l S b (k + 1) i then up1 (gl l i) (S.fi b) else S.fi i) = if i = k then up1 (gl l k) (S.fi b) else (if NwC m l S b k i then up1 (gl l i) (S.fi b) else S.fi i)
    by_cases c : i = k
    · subst c; rw [if_pos ((e i).2 (.inr rfl)), if_pos rfl]
    · rw [if_neg c]
      by_cases d : NwC m l S b k i
      · rw [if_pos ((e i).2 (.inl d)), if_pos d]
      · rw [if_neg (fun h => ((e i).1 h).elim d c), if_neg d]
  have s3 : ∀ i, (stC m l S b (k + 1)).tw i = if i = k then b else (stC m l S b k).tw i := fun i => by
    show (if NwC m l S b (k + 1) i then b else S.tw i) = if i = k then b else (if NwC m l S b k i then b else S.tw i)
    by_cases c : i = k
    · subst c; rw [if_pos ((e i).2 (.inr rfl)), if_pos rfl]
    · rw [if_neg c]
      by_cases d : NwC m l S b k i
      · rw [if_pos ((e i).2 (.inl d)), if_pos d]
      · rw [if_neg (fun h => ((e i).1 h).elim d c), if_neg d]
  refine ⟨fun i hi => ?_, fun i hi => ?_, fun i hi => ?_, by simp [l1, l2, l3]⟩
  · rw [gl_set (by omega), s2]
    split
    · rfl
    · exact h.f i hi
  · rw [gl_set (by omega)]
    unfold twV
    rw [s1, s3]
    by_cases c : i = k
    · rw [if_pos c, if_pos c, if_pos c]; rfl
    · rw [if_neg c, if_neg c, if_neg c]; exact h.t i hi
  · rw [gl_set (by omega), s1]
    split
    · rfl
    · exact h.s i hi
theorem RSy.take {S : FS} {b : Nat} {Lf Lt Ls : List Int} (h : RSy l S Lf Lt Ls) (hb : b < l.length) (hs : S.st b = 1) : RSy l (stC m l S b 0) Lf Lt (Ls.set b 2) := by
  obtain ⟨l1, l2, l3⟩ := h.ll
  have e : ∀ i, ¬ NwC m l S b 0 i := fun i h => absurd h.2 (Nat.not_lt_zero _)
  have s1 : ∀ i, (stC m l S b 0).st i = if i = b then 2 else S.st i := fun i => by
    show (if i = b then 2 else if NwC m l S b 0 i then 1 else S.st i) = _
    rw [if_neg (e i)]
  refine ⟨fun i hi => ?_, fun i hi => ?_, fun i hi => ?_, by simp [l1, l2, l3]⟩
  · rw [show (stC m l S b 0).fi i = S.fi i from if_neg (e i)]; exact h.f i hi
  · rw [h.t i hi]
    unfold twV
    rw [s1, show (stC m l S b 0).tw i = S.tw i from if_neg (e i)]
    by_cases c : i = b
    · rw [if_pos c, c, hs]; rfl
    · rw [if_neg c]
  · rw [gl_set (by omega), s1]
    split
    · rfl
    · exact h.s i hi
end
/-- The best of the first k, as a number. -/
def bsI (S : FS) (k : Nat) : Int := match bst S k with
  | none => -1
  | some b => (b : Int)
end Go.Proofs.YtlhligeicnejbaaDoor
namespace Go.Proofs.YtlhligeicnejbaaDoor
open Go.RowKit

theorem small4_nil (w : World) : Calls Tryd.prog 5 #[.pointer none] w fun e w' => e = .returned (.bool false) ∧ w' = w := by
  go_enter Tryd.func5, Tryd.ntmps5
  go_wp2
  go_ret
  exact ⟨rfl, rfl⟩
theorem small4_any (pb po : Nat) (W H : Int) (ad : Option Addr) (n cap : Nat) (w : World) (hp : PtR w pb po W H (.slice ad n cap)) : Calls Tryd.prog 5 #[.pointer (some ⟨pb, po, none⟩)] w fun e w' => e = .returned (.bool (decide (n ≤ 80))) ∧ w' = w := by
  obtain ⟨p0, p1, p2⟩ := hp
  by_cases c : n ≤ 80
  · have c' : (n : Int) ≤ 80 := by omega
    rw [decide_eq_true c]
    clear c
    go_enter Tryd.func5, Tryd.ntmps5
    go_wp2
    go_ret
    exact ⟨rfl, rfl⟩
  · have c' : ¬ (n : Int) ≤ 80 := by omega
    rw [decide_eq_false c]
    clear c
    go_enter Tryd.func5, Tryd.ntmps5
    go_wp2
    go_ret
    exact ⟨rfl, rfl⟩
theorem small4_arg {w : World} {ad : Option Addr} (h : RArg w ad) : ∃ s : Bool, (∀ W, Gr w W → Calls Tryd.prog 5 #[.pointer ad] W fun e w' => e = .returned (.bool s) ∧ w' = W) ∧ (s = true → ∃ pb po W H sd b o cap l, ad = some ⟨pb, po, none⟩ ∧ Rin w pb po W H sd b o cap l ∧ (¬ l.length = 0 → sd = some ⟨b, o, none⟩ ∧ Rs w b o cap l) ∧ l.length ≤ 80) := by
  rcases h with rfl | ⟨pb, po, W, H, sd, b, o, cap, l, rfl, hr, hc⟩
  · exact ⟨false, fun W _ => small4_nil W, fun h => by cases h⟩
  · exact ⟨decide (l.length ≤ 80), fun W1 hG => small4_any pb po W H sd l.length cap W1 (hr.below hG).pt, fun h => ⟨pb, po, W, H, sd, b, o, cap, l, rfl, hr, hc, of_decide_eq_true h⟩⟩
/-- What waits, or was taken, flows where it flows. -/
theorem step_stay {m : Nat} {l : List Int} {S : FS} {b i : Nat} (h : S.st i ≠ 0) : (stepF m l S b).tw i = S.tw i ∧ (stepF m l S b).st i ≠ 0 := by
  have hn : ¬ New m l S b i := fun k => h k.2.1
  refine ⟨if_neg hn, ?_⟩
  show (if i = b then 2 else if New m l S b i then 1 else S.st i) ≠ 0
  rw [if_neg hn]
  split
  · omega
  · exact h
theorem flo_stay {m n : Nat} {l : List Int} {i k : Nat} (h : (flo m n l k).st i ≠ 0) : ∀ d, (flo m n l (k + d)).tw i = (flo m n l k).tw i ∧ (flo m n l (k + d)).st i ≠ 0
  | 0 => ⟨rfl, h⟩
  | d + 1 => by
    obtain ⟨h1, h2⟩ := flo_stay h d
    show (match bst (flo m n l (k + d)) l.length with | none => flo m n l (k + d) | some b => stepF m l (flo m n l (k + d)) b).tw i = _ ∧ (match bst (flo m n l (k + d)) l.length with | none => flo m n l (k + d) | some b => stepF m l (flo m n l (k + d)) b).st i ≠ 0
    cases bst (flo m n l (k + d)) l.length with
    | none => exact ⟨h1, h2⟩
    | some b => exact ⟨(step_stay h2).1.trans h1, (step_stay h2).2⟩
def l9 : List Int := [9, 9, 9, 9, 5, 1, 9, 9, 9]
theorem l9_ok : Ok l9 3 3 ∧ vcode 3 3 l9 = 0 := by
  have h : ∀ x ∈ l9, hiI x := by decide
  exact ⟨⟨by decide, by decide, by decide, by decide, by decide, hi_gl h⟩, by decide⟩
theorem l9_flow : gl (flL 3 3 l9) 4 = 0 ∧ gl (flL 3 3 l9) 0 = 8 := by
  have hb : isB (flo 3 3 l9 0) l9.length 5 := by
    refine ⟨by decide, by decide, ?_⟩
    have : ∀ i, i < 9 → (fs0 3 3 l9).st i = 1 → ¬ wlt ((fs0 3 3 l9).fi i, i) ((fs0 3 3 l9).fi 5, 5) := by decide
    exact this
  have e1 : flo 3 3 l9 1 = stepF 3 l9 (fs0 3 3 l9) 5 := flo_next 3 3 l9 hb
  have h4 : (flo 3 3 l9 1).st 4 ≠ 0 ∧ (flo 3 3 l9 1).tw 4 = 5 := by rw [e1]; decide
  have h0 : (flo 3 3 l9 0).st 0 ≠ 0 ∧ (flo 3 3 l9 0).tw 0 = 0 := by
    show (fs0 3 3 l9).st 0 ≠ 0 ∧ (fs0 3 3 l9).tw 0 = 0
    decide
  obtain ⟨a1, a2⟩ := flo_stay h4.1 8
  obtain ⟨b1, b2⟩ := flo_stay h0.1 9
  have hl : l9.length = 9 := rfl
  constructor
  · unfold flL
    rw [gl_map (by decide), hl]
    unfold flV
    rw [if_neg a2, a1, h4.2]
    decide
  · unfold flL
    rw [gl_map (by decide), hl]
    unfold flV
    rw [if_neg b2, b1, h0.2]
    decide
theorem flL_len (m n : Nat) (l : List Int) : (flL m n l).length = l.length := by simp [flL]
theorem fiL_len (m n : Nat) (l : List Int) : (fiL m n l).length = l.length := by simp [fiL]
set_option maxRecDepth 4000 in
set_option maxHeartbeats 4000000 in
theorem drains_any (g : Nat → Addr) (w : World) (hl : Lai w g) : Calls Tryd.prog 4 #[] w fun e w' => e = .returned (.bool true) ∧ Gr w w' := by
  have hA := At.newRow w (ir l9) 3
  have hR : Rs (w.alloc (.cells (ir l9).toArray 3)) w.heap.size 0 9 l9 := ⟨fun i hi => by
    have h := (hA.1 i (by simpa [ir] using hi)).1
    rw [Nat.zero_add, h]
    simp [ir], hA.lt, by decide⟩
  have G0 := (Gr.refl w).alloc (.cells (ir l9).toArray 3)
  have HF := hidb (flow_ok g (m := 3) (n := 3) (l := l9) _ hR l9_ok.1 l9_ok.2 (hl.below G0.out))
  have HG0 := hidb G0
  clear hA hR hl G0
  go_enter Tryd.func4, Tryd.ntmps4
  go_wp2_with fail
  refine HF.out.mono ?_
  rintro e w1 ⟨FL, rfl, hA, hFL, hG⟩
  obtain ⟨c4, -⟩ := hA.get (j := 4) (by rw [flL_len]; decide)
  obtain ⟨c0, -⟩ := hA.get (j := 0) (by rw [flL_len]; decide)
  rw [gl_get (by rw [flL_len]; decide), l9_flow.1] at c4
  rw [gl_get (by rw [flL_len]; decide), l9_flow.2] at c0
  have HG1 := hidb (Gr.step HG0.out hG.out)
  clear hA hFL hG
  have i4 := iindex FL 0 9 9 4 (by decide)
  have i0 := iindex FL 0 9 9 0 (by decide)
  rw [Nat.zero_add] at i4 i0
  have hl9 : l9.length = 9 := rfl
  rw [hl9]
  go_wp2
  go_ret
  exact ⟨rfl, HG1.out⟩
end Go.Proofs.YtlhligeicnejbaaDoor
