/-
  basin.groups: apart, first, join.; drain.flood's next.; basin.Basins.; basin.Basins, walked.
-/
import Derived.Test.YtmjlaonlhabblaaDoorQJ11
import Derived.Test.YtmjlaonlhabblaaDoorQDrT
import Derived.Lib.MinMax
import Derived.Test.YtmjlaonlhabblaaDoorQJ9
import Derived.Test.YtmjlaonlhabblaaDoorQJ3
import Derived.Test.YtmjlaonlhabblaaDoorQJ10
namespace Go.Proofs.YtmjlaonlhabblaaDoor
open Go.RowKit
attribute [local go_sem ↓] Go.wp_at_zero Go.wp_at_succ

theorem gindex (b n cap k : Nat) (hk : k < n) (w : World) : (Instr.indexAt 95 (.slice (some ⟨b, 0, none⟩) n cap) (.int .i64 k)).run Tryd.prog w = .ok (.pointer (some ⟨b, k, none⟩)) w := by
  have hu : Tryd.prog.underlying 95 = some (.slice (Tryd.prog.elem 95)) := by kernel_rfl
  refine (run_indexAt_slice (P := Tryd.prog) (w := w) 95 ⟨b, 0, none⟩ n cap .i64 (k : Int) hu).trans ?_
  rw [if_pos ⟨by omega, by omega⟩]
  have hs : (sizeOf (Tryd.prog.elem 95)).run Tryd.prog w = .ok 1 w := by kernel_rfl
  rw [hs]
  simp [Addr.add]
  intro h; omega
/-- Groups in memory: of each number a lesser one of its group. -/
structure Gs (L : List Int) (N : Nat) (p : Nat → Nat) : Prop where
  len : L.length = N
  eq : ∀ i, i < N → gl L i = (p i : Int)
  le : ∀ i, p i ≤ i
theorem Gs.short {L : List Int} {N : Nat} {p : Nat → Nat} (h : Gs L N p) {n : Nat} (hn : n < N) : Gs (L.set n (p (p n) : Int)) N (fun k => if k = n then p (p n) else p k) := by
  refine ⟨by rw [List.length_set]; exact h.len, fun i hi => ?_, fun i => ?_⟩
  · rw [gl_set (by rw [h.len]; exact hn)]
    by_cases e : i = n
    · rw [if_pos e, if_pos e]
    · rw [if_neg e, if_neg e]; exact h.eq i hi
  · show (if i = n then p (p n) else p i) ≤ i
    by_cases e : i = n
    · rw [if_pos e]; have := h.le n; have := h.le (p n); omega
    · rw [if_neg e]; exact h.le i
theorem Gs.join {L : List Int} {N : Nat} {p : Nat → Nat} (h : Gs L N p) {x y : Nat} (hy : y < N) (hxy : x ≤ y) : Gs (L.set y (x : Int)) N (fun k => if k = y then x else p k) := by
  refine ⟨by rw [List.length_set]; exact h.len, fun i hi => ?_, fun i => ?_⟩
  · rw [gl_set (by rw [h.len]; exact hy)]
    by_cases e : i = y
    · rw [if_pos e, if_pos e]
    · rw [if_neg e, if_neg e]; exact h.eq i hi
  · show (if i = y then x else p i) ≤ i
    by_cases e : i = y
    · rw [if_pos e]; omega
    · rw [if_neg e]; exact h.le i
/-- Groups that lie in the block B, with the same first ones as p has. -/
def GwR (w W : World) (B N : Nat) (p : Nat → Nat) : Prop := ∃ L q, At W B (ir L) ∧ Gs L N q ∧ (∀ i, rt q i = rt p i) ∧ Onl B w W
theorem Gs.rtN {_L : List Int} {N : Nat} {p : Nat → Nat} {i : Nat} (hi : i < N) : rt p i < N := Nat.lt_of_le_of_lt (rt_le i) hi
set_option maxRecDepth 4000 in
set_option maxHeartbeats 4000000 in
theorem first_any {B N : Nat} {L : List Int} {p : Nat → Nat} (c : Nat) (hc : c < N) (w : World) (hA : At w B (ir L)) (hg : Gs L N p) : Calls Tryd.prog 69 #[.slice (some ⟨B, 0, none⟩) N N, .int .i64 (c : Int)] w fun e w' => e = .returned (.int .i64 (rt p c : Int)) ∧ GwR w w' B N p := by
  obtain ⟨z, hz⟩ : ∃ z : Int, z = (rt p c : Int) := ⟨_, rfl⟩
  rw [← hz]
  have HZ := hidb hz
  have E0 : Hid (c < N ∧ True ∧ ∃ L q, At w B (ir L) ∧ Gs L N q ∧ (∀ i, rt q i = rt p i) ∧ Onl B w w) := ⟨hc, trivial, L, p, hA, hg, fun _ => rfl, Onl.refl _ _⟩
  clear hz hA hg hc
  go_enter Tryd.func69, Tryd.ntmps69
  go_wp2
  go_loopg [1] c (fun gk s wr => s = .int .i64 (gk : Int) ∧ Hid (gk < N ∧ rt p gk = rt p c ∧ ∃ L q, At wr B (ir L) ∧ Gs L N q ∧ (∀ i, rt q i = rt p i) ∧ Onl B w wr))
  case atStart => exact ⟨rfl, hidb ⟨E0.out.1, rfl, E0.out.2.2⟩⟩
  case round =>
    clear E0
    obtain ⟨rfl, E⟩ := hrel
    obtain ⟨hk, hkc, L2, q, hA, hg, hq, hO⟩ := E.out
    have c1 := (hA.get (j := gk) (by rw [hg.len]; exact hk)).1
    rw [gl_get (by rw [hg.len]; exact hk), hg.eq gk hk] at c1
    have ix := gindex B N N gk hk
    by_cases hf : q gk = gk
    · have HE : Hid (z = (gk : Int)) := by show _ = _; rw [HZ.out, ← hkc, ← hq, rt_stop (by omega)]
      have HW : Hid (GwR w wr B N p) := ⟨L2, q, hA, hg, hq, hO⟩
      rw [hf] at c1
      clear hk hkc hA hg hq hO hf E
      go_wp2
      go_ret
      exact ⟨by rw [HE.out]; rfl, HW.out⟩
    · have hle := hg.le gk
      have hle2 := hg.le (q gk)
      have hqN : q gk < N := by omega
      have hf' : ¬ ((q gk : Nat) : Int) = (gk : Int) := by omega
      obtain ⟨c2, -⟩ := hA.get (j := q gk) (by rw [hg.len]; exact hqN)
      rw [gl_get (by rw [hg.len]; exact hqN), hg.eq _ hqN] at c2
      have f1 := (hA.get (j := gk) (by rw [hg.len]; exact hk)).2
      have ix2 := gindex B N N (q gk) hqN
      have A2 := hA.put gk (.int .i64 (q (q gk) : Int))
      rw [ir_set] at A2
      have HR : Hid (q (q gk) < N ∧ rt p (q (q gk)) = rt p c) := ⟨by omega, by rw [← hq, rt_p hg.le, rt_p hg.le, hq]; exact hkc⟩
      have HS := hidb (hg.short hk)
      have HQ : Hid (∀ i, rt (fun k => if k = gk then q (q gk) else q k) i = rt p i) := fun i => (rt_short hg.le i).trans (hq i)
      have HA2 := hidb A2
      have HO2 := hidb (hO.set gk (.int .i64 (q (q gk) : Int)))
      have HM : Hid (q (q gk) < gk) := by show _ < _; omega
      have c3 := (A2.get (j := gk) (by rw [List.length_set, hg.len]; exact hk)).1
      rw [List.getElem_set_self] at c3
      generalize q gk = y at *
      generalize q y = x at *
      clear hk hkc hA hg hq hO hf E hle hle2 hqN A2
      go_wp2
      go_roundg x
      case measure => exact HM.out
      case rel => exact ⟨rfl, hidb ⟨HR.out.1, HR.out.2, _, _, HA2.out, HS.out, HQ.out, HO2.out⟩⟩
/-- Two groups as one: the first of each number. -/
def jn (p : Nat → Nat) (x y i : Nat) : Nat := if rt p i = max (rt p x) (rt p y) then min (rt p x) (rt p y) else rt p i
set_option maxRecDepth 4000 in
set_option maxHeartbeats 4000000 in
theorem join_any {B N : Nat} {L : List Int} {p : Nat → Nat} (x y : Nat) (hx : x < N) (hy : y < N) (w : World) (hA : At w B (ir L)) (hg : Gs L N p) : Calls Tryd.prog 50 #[.slice (some ⟨B, 0, none⟩) N N, .int .i64 (x : Int), .int .i64 (y : Int)] w fun e w' => e = .returned (.tuple #[]) ∧ ∃ L q, At w' B (ir L) ∧ Gs L N q ∧ (∀ i, rt q i = jn p x y i) ∧ Onl B w w' := by
  have C1 := hidb (first_any x hx w hA hg)
  have HC2 := hidb (fun (W : World) L2 q (h1 : At W B (ir L2)) (h2 : Gs L2 N q) => first_any y hy W h1 h2)
  have HXY := hidb (show x < N ∧ y < N from ⟨hx, hy⟩)
  clear hA hg hx hy
  go_enter Tryd.func50, Tryd.ntmps50
  go_wp2_with fail
  refine C1.out.mono ?_
  rintro e w1 ⟨rfl, L1, q1, hA1, hg1, hq1, hO1⟩
  have C2 := hidb (HC2.out w1 L1 q1 hA1 hg1)
  go_wp2_with fail
  refine C2.out.mono ?_
  rintro e w2 ⟨rfl, L2, q2, hA2, hg2, hq2, hO2⟩
  have hrt : ∀ i, rt q2 i = rt p i := fun i => (hq2 i).trans (hq1 i)
  have hxN : rt p x < N := Nat.lt_of_le_of_lt (rt_le x) HXY.out.1
  have hyN : rt q1 y < N := Nat.lt_of_le_of_lt (rt_le y) HXY.out.2
  have hmx : max (rt p x) (rt q1 y) < N := by omega
  have ix := gindex B N N (max (rt p x) (rt q1 y)) hmx
  obtain ⟨cc, ff⟩ := hA2.get (j := max (rt p x) (rt q1 y)) (by rw [hg2.len]; exact hmx)
  rw [gl_get (by rw [hg2.len]; exact hmx)] at cc
  have e1 : max ((rt p x : Nat) : Int) ((rt q1 y : Nat) : Int) = ((max (rt p x) (rt q1 y) : Nat) : Int) := by omega
  have e2 : min ((rt p x : Nat) : Int) ((rt q1 y : Nat) : Int) = ((min (rt p x) (rt q1 y) : Nat) : Int) := by omega
  have A3 := hA2.put (max (rt p x) (rt q1 y)) (.int .i64 ((min (rt p x) (rt q1 y) : Nat) : Int))
  rw [ir_set] at A3
  have fx : q2 (rt p x) = rt p x := by rw [← hrt]; exact rt_fix hg2.le x
  have fy : q2 (rt q1 y) = rt q1 y := by rw [hq1, ← hrt]; exact rt_fix hg2.le y
  have fmin : q2 (min (rt p x) (rt q1 y)) = min (rt p x) (rt q1 y) := by
    rcases Nat.le_total (rt p x) (rt q1 y) with h | h
    · rw [Nat.min_eq_left h]; exact fx
    · rw [Nat.min_eq_right h]; exact fy
  have fmax : q2 (max (rt p x) (rt q1 y)) = max (rt p x) (rt q1 y) := by
    rcases Nat.le_total (rt p x) (rt q1 y) with h | h
    · rw [Nat.max_eq_right h]; exact fy
    · rw [Nat.max_eq_left h]; exact fx
  have HZ : Hid (∃ L q, At (w2.setCell ⟨B, max (rt p x) (rt q1 y), none⟩ (.int .i64 ((min (rt p x) (rt q1 y) : Nat) : Int))) B (ir L) ∧ Gs L N q ∧ (∀ i, rt q i = jn p x y i) ∧ Onl B w (w2.setCell ⟨B, max (rt p x) (rt q1 y), none⟩ (.int .i64 ((min (rt p x) (rt q1 y) : Nat) : Int)))) :=
    ⟨_, _, A3, hg2.join hmx (by omega), fun i => by rw [rt_join fmin fmax (by omega)]; unfold jn; rw [hrt, hq1 y], (hO1.trans hO2).set _ _⟩
  generalize max (rt p x) (rt q1 y) = mx at *
  generalize min (rt p x) (rt q1 y) = mn at *
  generalize rt p x = rx at *
  generalize rt q1 y = ry at *
  obtain ⟨mxI, hmxI⟩ : ∃ z : Int, z = (mx : Int) := ⟨_, rfl⟩
  obtain ⟨mnI, hmnI⟩ : ∃ z : Int, z = (mn : Int) := ⟨_, rfl⟩
  rw [← hmxI] at e1 ix
  rw [← hmnI] at e2 HZ
  clear hA1 hg1 hq1 hO1 hA2 hg2 hq2 hO2 hrt hxN hyN hmx A3 fx fy fmin fmax C1 C2 HC2 HXY hmxI hmnI
  go_wp2
  go_end0
  exact ⟨rfl, HZ.out⟩
end Go.Proofs.YtmjlaonlhabblaaDoor
namespace Go.Proofs.YtmjlaonlhabblaaDoor
open Go.RowKit
attribute [local go_sem ↓] Go.wp_at_zero Go.wp_at_succ

theorem FM.five {w0 w : World} {base F LV FL N : Nat} {a b c : Value} {Lv Fl : List Int} {vo : Value} {ord : List Nat} {vq : Value} {q : List Wt} (h : FM w0 w base F LV FL N a b c Lv Fl vo ord vq q) {i : Nat} (hi : i < N) {d : Int} (hd : gl Fl i = d) : w.cell? ⟨F, 0, none⟩ = some a ∧ w.cell? ⟨F, 1, none⟩ = some b ∧ w.cell? ⟨F, 2, none⟩ = some c ∧ w.cell? ⟨F, 4, none⟩ = some (.slice (some ⟨FL, 0, none⟩) N N) ∧ w.cell? ⟨FL, i, none⟩ = some (.int .i64 d) := by
  refine ⟨(h.f.1 0 (by simp)).1, (h.f.1 1 (by simp)).1, (h.f.1 2 (by simp)).1, (h.f.1 4 (by simp)).1, ?_⟩
  rw [← hd, ← gl_get (show i < Fl.length by rw [h.ll.2]; exact hi)]
  exact (h.fl.get _).1
/-- Where a cell flows at the end; none: it is of the rim. -/
def nxO (m n : Nat) (l : List Int) (c : Nat) : Option Nat := if (flo m n l l.length).tw c = c then none else some ((flo m n l l.length).tw c)
theorem nx_nb {m n : Nat} {l : List Int} (ok : Ok l m n) {c : Nat} (hc : c < l.length) : ∃ d : Nat, d ≤ 8 ∧ flV m (flo m n l l.length) c = (d : Int) ∧ nbO m n c d = nxO m n l c := by
  have hs := flo_all m n l ok.m1 ok.len c hc
  have hs0 : (flo m n l l.length).st c ≠ 0 := by omega
  have ht := flo_tw m n l ok.m1 ok.len l.length c hs0
  refine ⟨wyD m c ((flo m n l l.length).tw c), ?_, ?_, ?_⟩
  · rcases ht with ht | ht
    · rw [ht]
      unfold wyD
      rw [Int.sub_self, Int.sub_self]
      decide
    · have := (tch_nb (n := n) ok.m1 ht.1 (by rw [← ok.len]; exact ht.2)).1
      omega
  · unfold flV
    rw [if_neg hs0]
  · unfold nxO
    by_cases e : (flo m n l l.length).tw c = c
    · rw [if_pos e, e]
      have e8 : wyD m c c = 8 := by
        unfold wyD
        rw [Int.sub_self, Int.sub_self]
        decide
      rw [e8]
      unfold nbO
      rw [if_pos (.inl rfl)]
    · rw [if_neg e]
      have h2 := ht.resolve_left e
      exact (tch_nb (n := n) ok.m1 h2.1 (by rw [← ok.len]; exact h2.2)).2
set_option maxRecDepth 4000 in
set_option maxHeartbeats 8000000 in
theorem next_any {w0 : World} {base F LV FL m n Lb Lo Lcap : Nat} {l Lv Fl : List Int} {vo vq : Value} {ord : List Nat} {q : List Wt} (c : Nat) (w : World) (ok : Ok l m n) (h : FM w0 w base F LV FL l.length (.int .i64 (m : Int)) (.int .i64 (n : Int)) (.slice (some ⟨Lb, Lo, none⟩) l.length Lcap) Lv Fl vo ord vq q) (hs : Syn m l (flo m n l l.length) Lv Fl q) (hc : c < l.length) : Calls Tryd.prog 25 #[.pointer (some ⟨F, 0, none⟩), .int .i64 (c : Int)] w fun e w' => e = .returned (nbA (nxO m n l c)) ∧ Gr w w' := by
  obtain ⟨d, hd, hf, hn⟩ := nx_nb ok hc
  have hlen := ok.len_le
  have HNb := hidb (fun w => neighbour_any (m := m) (n := n) (some ⟨Lb, Lo, none⟩) l.length Lcap c d ok.m1 ok.m2 ok.n2 (by omega) ⟨hc, by omega⟩ hd w)
  rw [hn] at HNb
  have hfl : gl Fl c = (d : Int) := by rw [hs.fl c hc]; exact hf
  have HKp : Hid (∀ W, FM w0 W base F LV FL l.length (.int .i64 (m : Int)) (.int .i64 (n : Int)) (.slice (some ⟨Lb, Lo, none⟩) l.length Lcap) Lv Fl vo ord vq q → W.cell? ⟨F, 0, none⟩ = some (.int .i64 (m : Int)) ∧ W.cell? ⟨F, 1, none⟩ = some (.int .i64 (n : Int)) ∧ W.cell? ⟨F, 2, none⟩ = some (.slice (some ⟨Lb, Lo, none⟩) l.length Lcap) ∧ W.cell? ⟨F, 4, none⟩ = some (.slice (some ⟨FL, 0, none⟩) l.length l.length) ∧ W.cell? ⟨FL, c, none⟩ = some (.int .i64 (d : Int))) := fun W X => X.five hc hfl
  have ix := iindex FL 0 l.length l.length c hc
  rw [Nat.zero_add] at ix
  have PX := h
  have PG := Gr.refl w
  obtain ⟨cI, hcI⟩ : ∃ z : Int, z = (c : Int) := ⟨_, rfl⟩
  obtain ⟨dI, hdI⟩ : ∃ z : Int, z = (d : Int) := ⟨_, rfl⟩
  rw [← hcI] at HNb ix ⊢
  rw [← hdI] at HNb HKp
  cases ho : nxO m n l c with
  | none =>
    rw [ho] at HNb
    unfold nbA at HNb ⊢
    clear h hs hc hd hf hn hlen hfl hcI hdI ok ho
    go_enter Tryd.func25, Tryd.ntmps25
    go_upto_region 1 with fail
    go_region_held (fun w' => w'.cell? ⟨F, 0, none⟩ = some (.int .i64 (m : Int)) ∧ w'.cell? ⟨F, 1, none⟩ = some (.int .i64 (n : Int)) ∧ w'.cell? ⟨F, 2, none⟩ = some (.slice (some ⟨Lb, Lo, none⟩) l.length Lcap) ∧ w'.cell? ⟨F, 4, none⟩ = some (.slice (some ⟨FL, 0, none⟩) l.length l.length) ∧ w'.cell? ⟨FL, c, none⟩ = some (.int .i64 dI))
      (with_reducible first | exact HKp.out _ PX | exact HKp.out _ PX.drew)
      ((go_at_call 43; with_reducible refine (HNb.out _).mono ?_; rintro e w9 ⟨rfl, hB9⟩; (with_reducible first | replace PX := PX.below hB9.out | replace PX := PX.drew.below hB9.out); (with_reducible first | replace PG := Gr.step PG hB9.out | replace PG := Gr.step PG.drew hB9.out)))
    all_goals
      go_wp2
      go_ret2
      exact ⟨rfl, by with_reducible first | exact PG | exact PG.drew⟩
  | some k =>
    rw [ho] at HNb
    unfold nbA at HNb ⊢
    dsimp only at HNb ⊢
    obtain ⟨kI, hkI⟩ : ∃ z : Int, z = (k : Int) := ⟨_, rfl⟩
    rw [← hkI] at HNb ⊢
    clear h hs hc hd hf hn hlen hfl hcI hdI ok ho hkI
    go_enter Tryd.func25, Tryd.ntmps25
    go_upto_region 1 with fail
    go_region_held (fun w' => w'.cell? ⟨F, 0, none⟩ = some (.int .i64 (m : Int)) ∧ w'.cell? ⟨F, 1, none⟩ = some (.int .i64 (n : Int)) ∧ w'.cell? ⟨F, 2, none⟩ = some (.slice (some ⟨Lb, Lo, none⟩) l.length Lcap) ∧ w'.cell? ⟨F, 4, none⟩ = some (.slice (some ⟨FL, 0, none⟩) l.length l.length) ∧ w'.cell? ⟨FL, c, none⟩ = some (.int .i64 dI))
      (with_reducible first | exact HKp.out _ PX | exact HKp.out _ PX.drew)
      ((go_at_call 43; with_reducible refine (HNb.out _).mono ?_; rintro e w9 ⟨rfl, hB9⟩; (with_reducible first | replace PX := PX.below hB9.out | replace PX := PX.drew.below hB9.out); (with_reducible first | replace PG := Gr.step PG hB9.out | replace PG := Gr.step PG.drew hB9.out)))
    all_goals
      go_wp2
      go_ret2
      exact ⟨rfl, by with_reducible first | exact PG | exact PG.drew⟩
end Go.Proofs.YtmjlaonlhabblaaDoor
namespace Go.Proofs.YtmjlaonlhabblaaDoor
open Go.RowKit
attribute [local go_sem ↓] Go.wp_at_zero Go.wp_at_succ

/-- The basin of each cell. -/
def hmL (m n : Nat) (l : List Int) : List Int := (List.range l.length).map (fun c => (hom m n l c : Int))
theorem hmL_len (m n : Nat) (l : List Int) : (hmL m n l).length = l.length := by simp [hmL]
theorem oc_on {m n : Nat} {l : List Int} (ok : Ok l m n) {k : Nat} (hk : k < l.length) : gl (on (flo m n l l.length).ord) k = (oc m n l k : Int) := by
  have h := oc_get m n l ok.m1 ok.len hk
  have hl := ord_len m n l ok.m1 ok.len
  unfold flE at h hl
  rw [← gl_get (by rw [List.length_map, hl]; exact hk), ← h, List.getElem_map]
  rfl
theorem nxO_tw (m n : Nat) (l : List Int) (c : Nat) : nxO m n l c = if tw m n l c = c then none else some (tw m n l c) := rfl
theorem bas_none {m n : Nat} {l : List Int} (ok : Ok l m n) {k : Nat} (hk : k < l.length) {L : List Int} (hL : L.length = l.length) (h : ∀ i, i < k → gl L (oc m n l i) = (hom m n l (oc m n l i) : Int)) (hn : nxO m n l (oc m n l k) = none) : ∀ i, i < k + 1 → gl (L.set (oc m n l k) (oc m n l k : Int)) (oc m n l i) = (hom m n l (oc m n l i) : Int) := by
  have hf : tw m n l (oc m n l k) = oc m n l k := by
    rw [nxO_tw] at hn
    by_cases c : tw m n l (oc m n l k) = oc m n l k
    · exact c
    · rw [if_neg c] at hn; cases hn
  intro i hi
  rw [gl_set (by rw [hL]; exact oc_lt m n l ok.m1 ok.len hk)]
  by_cases e : i = k
  · subst e
    rw [if_pos rfl, hom_self m n l hf]
  · rw [if_neg (fun x => e (oc_inj m n l ok.m1 ok.len (by omega) hk x))]
    exact h i (by omega)
theorem bas_some {m n : Nat} {l : List Int} (ok : Ok l m n) {k t : Nat} (hk : k < l.length) {L : List Int} (hL : L.length = l.length) (h : ∀ i, i < k → gl L (oc m n l i) = (hom m n l (oc m n l i) : Int)) (hn : nxO m n l (oc m n l k) = some t) : t < l.length ∧ gl (L.set (oc m n l k) (oc m n l k : Int)) t = (hom m n l t : Int) ∧ ∀ i, i < k + 1 → gl ((L.set (oc m n l k) (oc m n l k : Int)).set (oc m n l k) (hom m n l t : Int)) (oc m n l i) = (hom m n l (oc m n l i) : Int) := by
  have hf : tw m n l (oc m n l k) ≠ oc m n l k ∧ tw m n l (oc m n l k) = t := by
    rw [nxO_tw] at hn
    by_cases c : tw m n l (oc m n l k) = oc m n l k
    · rw [if_pos c] at hn; cases hn
    · rw [if_neg c] at hn; exact ⟨c, Option.some.inj hn⟩
  have hlt := oc_lt m n l ok.m1 ok.len hk
  obtain ⟨j, hj, hjt⟩ := (oc_bef m n l ok.m1 ok.len hk).resolve_left hf.1
  have hjt' : oc m n l j = t := by rw [hjt]; exact hf.2
  have ht : t < l.length := by rw [← hjt']; exact oc_lt m n l ok.m1 ok.len (by omega)
  have hne : t ≠ oc m n l k := by rw [← hf.2]; exact hf.1
  refine ⟨ht, ?_, fun i hi => ?_⟩
  · rw [gl_set (by rw [hL]; exact hlt), if_neg hne, ← hjt']
    exact h j hj
  · rw [gl_set (by rw [List.length_set, hL]; exact hlt)]
    by_cases e : i = k
    · subst e
      rw [if_pos rfl, ← hf.2, hom_tw m n l ok.m1 ok.len hlt]
    · have hne2 : ¬ oc m n l i = oc m n l k := fun x => e (oc_inj m n l ok.m1 ok.len (by omega) hk x)
      rw [if_neg hne2, gl_set (by rw [hL]; exact hlt), if_neg hne2]
      exact h i (by omega)
theorem bas_end {m n : Nat} {l : List Int} (ok : Ok l m n) {L : List Int} (hL : L.length = l.length) (h : ∀ i, i < l.length → gl L (oc m n l i) = (hom m n l (oc m n l i) : Int)) : L = hmL m n l :=
  list_gl hL (fun i hi => by
    obtain ⟨k, hk, rfl⟩ := oc_all m n l ok.m1 ok.len hi
    exact h k hk)
/-- What lies in memory while the basins are told. -/
structure BA (w W : World) (T b1 FL B N : Nat) (t : List Value) (O Fl L : List Int) : Prop where
  t : At W T t
  o : ∀ k, k < N → W.cell? ⟨b1, k, none⟩ = some (.int .i64 (gl O k))
  ol : b1 < W.heap.size
  f : At W FL (ir Fl)
  l : At W B (ir L)
  gr : Gr w W
  ne : (T ≠ B ∧ b1 ≠ B ∧ FL ≠ B) ∧ w.heap.size ≤ B
section
variable {w W : World} {T b1 FL B N : Nat} {t : List Value} {O Fl L : List Int}
theorem BA.below {w' : World} (h : BA w W T b1 FL B N t O Fl L) (hB : Below W.heap.size W w') : BA w w' T b1 FL B N t O Fl L :=
  ⟨At.below hB h.t, fun k hk => ((mcell hB).1 b1 k h.ol).trans (h.o k hk), Nat.lt_of_lt_of_le h.ol hB.size, At.below hB h.f, At.below hB h.l, Gr.step h.gr hB, h.ne⟩
theorem BA.drew (h : BA w W T b1 FL B N t O Fl L) : BA w W.drew T b1 FL B N t O Fl L := ⟨h.t, h.o, h.ol, h.f, h.l, h.gr.drew, h.ne⟩
theorem BA.put (h : BA w W T b1 FL B N t O Fl L) (i : Nat) (x : Int) : BA w (W.setCell ⟨B, i, none⟩ (.int .i64 x)) T b1 FL B N t O Fl (L.set i x) := by
  obtain ⟨⟨n1, n2, n3⟩, n4⟩ := h.ne
  refine ⟨h.t.skip (Ne.symm n1) _ _, fun k hk => ?_, by simpa using h.ol, h.f.skip (Ne.symm n3) _ _, ?_, h.gr.set n4 _ _, h.ne⟩
  · have hk' := h.o k hk
    have n2' : ¬ b1 = B := n2
    simp [go_sem, hk']
  · rw [← ir_set]; exact h.l.put i _
end
end Go.Proofs.YtmjlaonlhabblaaDoor
namespace Go.Proofs.YtmjlaonlhabblaaDoor
open Go.RowKit
attribute [local go_sem ↓] Go.wp_at_zero Go.wp_at_succ

theorem BA.begin {w W : World} {T b1 FL N : Nat} {t : List Value} {O Fl : List Int} {ad : Option Addr} {cap : Nat} {CS : Array Value} {ty : Nat} (hP : PF w W T t) (hO : ISl W ad b1 0 cap O) (hN : O.length = N) (h1 : 1 ≤ N) (hF : At W FL (ir Fl)) (hC : CS.toList = ir (List.replicate N 0)) : BA w (W.alloc (.cells CS ty)) T b1 FL W.heap.size N t O Fl (List.replicate N 0) := by
  have hol : b1 < W.heap.size := by
    rcases hO.row with r | r
    · exact r.2
    · rw [r] at hN; simp at hN; omega
  have hB : Below W.heap.size W (W.alloc (.cells CS ty)) := (Below.refl _ _).alloc (Nat.le_refl _) _
  refine ⟨hP.a.alloc _, fun k hk => ?_, Nat.lt_of_lt_of_le hol hB.size, hF.alloc _, ?_, hP.gr.alloc _, ⟨?_, ?_, ?_⟩, hP.gr.out.size⟩
  · rw [(mcell hB).1 b1 k hol]
    have := hO.gcell (k := k) (by omega)
    rw [Nat.zero_add] at this
    exact this
  · rw [← hC]; exact At.newArr _ _ _
  · exact fun e => by have := hP.a.lt; omega
  · omega
  · exact fun e => by have := hF.lt; omega
set_option maxRecDepth 4000 in
set_option maxHeartbeats 16000000 in
theorem basins_ok (g : Nat → Addr) {m n Lb Lo Lcap : Nat} {l : List Int} (w : World) (hR : Rs w Lb Lo Lcap l) (ok : Ok l m n) (hv : vcode m n l = 0) (hl : Lai w g) : Calls Tryd.prog 32 #[raV m n (.slice (some ⟨Lb, Lo, none⟩) l.length Lcap)] w fun e w' => ∃ B, e = .returned (.tuple #[.slice (some ⟨B, 0, none⟩) l.length l.length, .nilIface]) ∧ At w' B (ir (hmL m n l)) ∧ w.heap.size ≤ B ∧ Gr w w' := by
  have hlen := ok.len_le
  have hN1 : 1 ≤ l.length := by rw [ok.len]; exact Nat.mul_le_mul ok.m1 ok.n1
  obtain ⟨CS, hCS, mk⟩ := made_run l.length (by omega)
  have HCS := hidb hCS
  have HOk := hidb ok
  have HL := hidb (show 1 ≤ l.length ∧ l.length ≤ 16384 from ⟨hN1, hlen⟩)
  have HOl : Hid ((on (flo m n l l.length).ord).length = l.length) := by show _ = _; rw [List.length_map]; exact ord_len m n l ok.m1 ok.len
  have HOc : Hid (∀ k, k < l.length → gl (on (flo m n l l.length).ord) k = (oc m n l k : Int)) := fun k hk => oc_on ok hk
  have PX : Hid (PF w (w.alloc (.cells #[.int .i64 (m : Int), .int .i64 (n : Int), .slice (some ⟨Lb, Lo, none⟩) l.length Lcap] 32)) w.heap.size [.int .i64 (m : Int), .int .i64 (n : Int), .slice (some ⟨Lb, Lo, none⟩) l.length Lcap]) := ⟨At.new3 _ _ _ _ _, (Gr.refl w).alloc _⟩
  have HFl := hidb (fun W (hG : Gr w W) => flow_ok g W (hR.below hG.out) ok hv (hl.below hG.out))
  have HOr := hidb (fun W (hG : Gr w W) => order_ok g W (hR.below hG.out) ok hv (hl.below hG.out))
  have HNb := hidb (fun c d (hc : c < l.length) (hd : d ≤ 8) W => neighbour_any (m := m) (n := n) (some ⟨Lb, Lo, none⟩) l.length Lcap c d ok.m1 ok.m2 ok.n2 (by omega) ⟨hc, hlen⟩ hd W)
  obtain ⟨N, hN⟩ : ∃ N, N = l.length := ⟨_, rfl⟩
  have HN := hidb hN
  rw [← hN] at mk PX HFl HOr HL HCS HOl HOc HNb ⊢
  clear hR ok hlen hN1 hCS hN hv hl
  show Calls Tryd.prog 32 #[.agg #[.int .i64 (m : Int), .int .i64 (n : Int), .slice (some ⟨Lb, Lo, none⟩) N Lcap]] w _
  go_enter Tryd.func32, Tryd.ntmps32
  obtain ⟨q0, q1, q2⟩ := PX.out.a.c3
  go_wp2_with fail
  refine (HFl.out _ PX.out.gr).mono ?_
  rintro e w1 ⟨FL, rfl, hFL, -, hB⟩
  have AFL := hidb hFL
  clear q0 q1 q2 HFl hFL
  replace PX := hidb (PX.out.below hB.out)
  clear hB
  obtain ⟨q0, q1, q2⟩ := PX.out.a.c3
  go_wp2_with fail
  refine (HOr.out _ PX.out.gr).mono ?_
  rintro e w2 ⟨base, vo, rfl, hvo, -, hB⟩
  obtain ⟨ad1, b1, cap1, rfl, hO1⟩ := own_isl2 hvo
  rw [HOl.out]
  have HO1 := hidb hO1
  clear q0 q1 q2 HOr hO1 hvo
  replace PX := hidb (PX.out.below hB.out)
  replace AFL := hidb (At.below hB.out AFL.out)
  clear hB
  obtain ⟨q0, q1, q2⟩ := PX.out.a.c3
  have E0 := hidb (BA.begin (CS := CS) (ty := 3) PX.out HO1.out HOl.out HL.out.1 AFL.out HCS.out)
  go_wp2
  clear q0 q1 q2 PX AFL mk HCS
  obtain ⟨B, hBd⟩ : ∃ B, B = w2.heap.size := ⟨_, rfl⟩
  rw [← hBd] at E0 ⊢
  clear hBd
  generalize w2.alloc (.cells CS 3) = w3 at *
  go_loopw [34] (fun t wr => ∃ (k : Nat) (L : List Int), k ≤ N ∧ t = .int .i64 (k : Int) ∧ Hid (BA w wr w.heap.size b1 FL B N [.int .i64 (m : Int), .int .i64 (n : Int), .slice (some ⟨Lb, Lo, none⟩) N Lcap] (on (flo m n l N).ord) (flL m n l) L ∧ L.length = N ∧ ∀ i, i < k → gl L (oc m n l i) = (hom m n l (oc m n l i) : Int))) (fun t _ => N - (intOf t).toNat)
  case atStart => exact ⟨0, _, Nat.zero_le _, rfl, hidb ⟨E0.out, by simp, fun i hi => absurd hi (Nat.not_lt_zero _)⟩⟩
  case round =>
    clear E0
    obtain ⟨k, L, hk, rfl, E⟩ := hrel
    by_cases h1 : ¬ k < N
    · have h1' : ¬ (k : Int) < (N : Int) := by omega
      have HE : Hid (At wr B (ir (hmL m n l))) := by
        rw [← bas_end HOk.out (E.out.2.1.trans HN.out) (fun i hi => E.out.2.2 i (by have := HN.out; omega))]
        exact E.out.1.l
      clear h1
      go_wp2
      go_ret2
      exact ⟨B, rfl, HE.out, E.out.1.ne.2, E.out.1.gr⟩
    · have h1' : (k : Int) < (N : Int) := by omega
      have e1 : IntKind.i64.wrap ((k : Int) + 1) = ((k + 1 : Nat) : Int) := by rw [show (k : Int) + 1 = ((k + 1 : Nat) : Int) by omega]; exact wrap_in (by have := HL.out; omega) (by have := HL.out; omega)
      have hkN : k < N := by omega
      have hkl : k < l.length := by rw [← HN.out]; exact hkN
      have hcl := oc_lt m n l HOk.out.m1 HOk.out.len hkl
      have cO := E.out.1.o k hkN
      rw [HOc.out k hkN] at cO
      have ixO := HO1.out.ix k (by rw [HOl.out]; exact hkN)
      rw [HOl.out, Nat.zero_add] at ixO
      have HBn := hidb (fun hn => bas_none HOk.out hkl (E.out.2.1.trans HN.out) E.out.2.2 hn)
      have HBs := hidb (fun t hn => bas_some (t := t) HOk.out hkl (E.out.2.1.trans HN.out) E.out.2.2 hn)
      obtain ⟨d, hd, hf, hnb⟩ := nx_nb HOk.out hcl
      have hfl : gl (flL m n l) (oc m n l k) = (d : Int) := by unfold flL; rw [gl_map hcl]; exact hf
      generalize oc m n l k = c at *
      have hcN : c < N := by rw [HN.out]; exact hcl
      have HC := hidb (HNb.out c d hcN hd)
      rw [hnb] at HC
      have ixB := iindex B 0 N N c hcN
      have ixF := iindex FL 0 N N c hcN
      rw [Nat.zero_add] at ixB ixF
      obtain ⟨cB, fB⟩ := E.out.1.l.get (j := c) (by rw [E.out.2.1]; exact hcN)
      rw [gl_get (by rw [E.out.2.1]; exact hcN)] at cB
      have HE1 := hidb (E.out.1.put c (c : Int))
      have HLn : Hid ((L.set c (c : Int)).length = N) := by show _ = _; rw [List.length_set]; exact E.out.2.1
      have HKp : Hid (∀ W L', BA w W w.heap.size b1 FL B N [.int .i64 (m : Int), .int .i64 (n : Int), .slice (some ⟨Lb, Lo, none⟩) N Lcap] (on (flo m n l N).ord) (flL m n l) L' → W.cell? ⟨w.heap.size, 0, none⟩ = some (.int .i64 (m : Int)) ∧ W.cell? ⟨w.heap.size, 1, none⟩ = some (.int .i64 (n : Int)) ∧ W.cell? ⟨w.heap.size, 2, none⟩ = some (.slice (some ⟨Lb, Lo, none⟩) N Lcap) ∧ W.cell? ⟨FL, c, none⟩ = some (.int .i64 (d : Int))) := fun W L' X => by
        obtain ⟨a, b, c'⟩ := X.t.c3
        refine ⟨a, b, c', ?_⟩
        have := (X.f.get (j := c) (by rw [flL_len, ← HN.out]; exact hcN)).1
        rw [gl_get (by rw [flL_len, ← HN.out]; exact hcN), hfl] at this
        exact this
      clear h1 hkl hcl hf hfl hnb E hd HNb
      have HcN := hidb hcN
      clear hcN
      cases ho : nxO m n l c with
      | none =>
        rw [ho] at HC HBn
        replace HBn := hidb (HBn.out rfl)
        unfold nbA at HC
        clear ho HBs
        go_upto_region 12 with fail
        generalize wr.setCell ⟨B, c, none⟩ (.int .i64 (c : Int)) = W1 at *
        have PX := HE1.out
        clear HE1 cO cB fB
        go_region_held (fun w' => w'.cell? ⟨w.heap.size, 0, none⟩ = some (.int .i64 (m : Int)) ∧ w'.cell? ⟨w.heap.size, 1, none⟩ = some (.int .i64 (n : Int)) ∧ w'.cell? ⟨w.heap.size, 2, none⟩ = some (.slice (some ⟨Lb, Lo, none⟩) N Lcap) ∧ w'.cell? ⟨FL, c, none⟩ = some (.int .i64 (d : Int)))
          (with_reducible first | exact HKp.out _ _ PX | exact HKp.out _ _ PX.drew)
          ((go_at_call 43; with_reducible refine (HC.out _).mono ?_; rintro e w9 ⟨rfl, hB9⟩; (with_reducible first | replace PX := PX.below hB9.out | replace PX := PX.drew.below hB9.out)))
        all_goals
          go_wp2
          go_roundw
          case rel => exact ⟨k + 1, _, by omega, by go_num, hidb ⟨by with_reducible first | exact PX | exact PX.drew, HLn.out, HBn.out⟩⟩
          case measure => simp [intOf]; omega
      | some t =>
        rw [ho] at HC HBs
        obtain ⟨htl, hgt, hst⟩ := HBs.out t rfl
        have htN : t < N := by rw [HN.out]; exact htl
        have HBt := hidb hst
        unfold nbA at HC
        dsimp only at HC
        have ixT := iindex B 0 N N t htN
        rw [Nat.zero_add] at ixT
        have HKt : Hid (∀ W, BA w W w.heap.size b1 FL B N [.int .i64 (m : Int), .int .i64 (n : Int), .slice (some ⟨Lb, Lo, none⟩) N Lcap] (on (flo m n l N).ord) (flL m n l) (L.set c (c : Int)) → W.cell? ⟨B, t, none⟩ = some (.int .i64 (hom m n l t : Int)) ∧ W.cell? ⟨B, c, none⟩ = some (.int .i64 (c : Int)) ∧ W.frozen? ⟨B, c, none⟩ = false) := fun W X => by
          have h := (X.l.get (j := t) (by rw [HLn.out]; exact htN)).1
          rw [gl_get (by rw [HLn.out]; exact htN), hgt] at h
          have h2 := X.l.get (j := c) (by rw [HLn.out]; exact HcN.out)
          rw [List.getElem_set_self] at h2
          exact ⟨h, h2⟩
        have HL2 : Hid (((L.set c (c : Int)).set c (hom m n l t : Int)).length = N) := by show _ = _; rw [List.length_set]; exact HLn.out
        generalize hom m n l t = ht at *
        clear ho HBn HBs htl hgt hst htN
        go_upto_region 12 with fail
        generalize wr.setCell ⟨B, c, none⟩ (.int .i64 (c : Int)) = W1 at *
        have PX := HE1.out
        clear HE1 cO cB fB
        go_region_held (fun w' => w'.cell? ⟨w.heap.size, 0, none⟩ = some (.int .i64 (m : Int)) ∧ w'.cell? ⟨w.heap.size, 1, none⟩ = some (.int .i64 (n : Int)) ∧ w'.cell? ⟨w.heap.size, 2, none⟩ = some (.slice (some ⟨Lb, Lo, none⟩) N Lcap) ∧ w'.cell? ⟨FL, c, none⟩ = some (.int .i64 (d : Int)))
          (with_reducible first | exact HKp.out _ _ PX | exact HKp.out _ _ PX.drew)
          ((go_at_call 43; with_reducible refine (HC.out _).mono ?_; rintro e w9 ⟨rfl, hB9⟩; (with_reducible first | replace PX := PX.below hB9.out | replace PX := PX.drew.below hB9.out)))
        all_goals
          obtain ⟨cT, cU, fT⟩ := HKt.out _ PX
          obtain ⟨cT', cU', fT'⟩ := HKt.out _ PX.drew
          go_wp2
          go_roundw
          case rel => exact ⟨k + 1, _, by omega, by go_num, hidb ⟨by with_reducible first | exact PX.put _ _ | exact PX.drew.put _ _, HL2.out, HBt.out⟩⟩
          case measure => simp [intOf]; omega
theorem basins_no (g : Nat → Addr) {W H : Int} {ad : Option Addr} {b o cap : Nat} {l : List Int} (w : World) (h : ISl w ad b o cap l) (ll : l.length ≤ 20000) (hl : Lai w g) (hv : ¬ vcode W H l = 0) : Calls Tryd.prog 32 #[raV W H (.slice ad l.length cap)] w fun e w' => e = .returned (.tuple #[.slice none 0 0, evc g (vcode W H l)]) ∧ Gr w w' := by
  have PX : Hid (PF w (w.alloc (.cells #[.int .i64 W, .int .i64 H, .slice ad l.length cap] 32)) w.heap.size [.int .i64 W, .int .i64 H, .slice ad l.length cap]) := ⟨At.new3 _ _ _ _ _, (Gr.refl w).alloc _⟩
  have C1 := hidb (flow_no g _ (h.below PX.out.gr.out) ll (hl.below PX.out.gr.out) hv)
  rw [evc_of hv] at C1 ⊢
  generalize vcode W H l - 1 = ei at *
  clear h ll hl hv
  go_enter Tryd.func32, Tryd.ntmps32
  obtain ⟨q0, q1, q2⟩ := PX.out.a.c3
  go_wp2_with fail
  refine C1.out.mono ?_
  rintro e w1 ⟨rfl, hB⟩
  clear q0 q1 q2
  go_wp2
  go_ret2
  exact ⟨rfl, Gr.step PX.out.gr hB.out⟩
end Go.Proofs.YtmjlaonlhabblaaDoor
