/-
  mercatorref4.GatherOf.
-/
import Derived.Test.YtlhligeicnejbaaDoorQGaA
import Derived.Test.YtlhligeicnejbaaDoorQBpC
namespace Go.Proofs.YtlhligeicnejbaaDoor
open Go.RowKit
attribute [local go_sem ↓] Go.wp_at_zero Go.wp_at_succ

theorem mul_bd {a z A Z : Int} (h1 : 0 ≤ a) (h2 : a ≤ A) (h3 : -Z ≤ z) (h4 : z ≤ Z) (hZ : 0 ≤ Z) : -(A * Z) ≤ a * z ∧ a * z ≤ A * Z := by
  have k1 : a * z ≤ a * Z := Int.mul_le_mul_of_nonneg_left h4 h1
  have k2 : a * Z ≤ A * Z := Int.mul_le_mul_of_nonneg_right h2 hZ
  have k3 : a * (-Z) ≤ a * z := Int.mul_le_mul_of_nonneg_left h3 h1
  rw [Int.mul_neg] at k3
  omega
section
variable {m n : Nat} {l r : List Int}
/-- What has gathered of the rain of the first i. -/
def gaI (m n : Nat) (l r : List Int) (i c : Nat) : Int := smF (fun j => gl r j * cW m n l j c) i
theorem gaI_succ (i c : Nat) : gaI m n l r (i + 1) c = gaI m n l r i c + gl r i * cW m n l i c := rfl
/-- .. and of one more, as far as x. -/
def AtX (m n : Nat) (l r L : List Int) (i x : Nat) : Prop := L.length = l.length ∧ ∀ c, c < l.length → gl L c = gaI m n l r i c + gl r i * (cW m n l i c - cW m n l x c + dlt x c)
variable (ok : Ok l m n) (hr : ∀ i, i < l.length → rainI (gl r i))
include ok
theorem cW_bd {i : Nat} (hi : i < l.length) (c : Nat) : 0 ≤ cW m n l i c ∧ cW m n l i c ≤ 16384 := by
  obtain ⟨p, hp, rfl⟩ := oc_all m n l ok.m1 ok.len hi
  have h1 := cW_le m n l ok.m1 ok.len p hp c
  have h2 := cnt_pos m n l l.length (oc m n l p) c
  have h3 := ok.len_le
  unfold cW at h1 ⊢
  omega
include hr
theorem gaI_bd {i : Nat} (hi : i ≤ l.length) (c : Nat) : 0 ≤ gaI m n l r i c ∧ gaI m n l r i c ≤ 281474976710656 := by
  have hlen := ok.len_le
  constructor
  · exact smF_nonneg (fun j hj => Int.mul_nonneg (hr j (by omega)).1 (cW_bd ok (by omega) c).1)
  · have h := smF_le (f := fun j => gl r j * cW m n l j c) (B := 17179869184) (k := i) (fun j hj => by
      have hb := cW_bd ok (i := j) (by omega) c
      have := (mul_bd (hr j (by omega)).1 (hr j (by omega)).2 (by omega : -16384 ≤ cW m n l j c) hb.2 (by decide)).2
      exact this)
    have h2 : (i : Int) * 17179869184 ≤ 16384 * 17179869184 := Int.mul_le_mul_of_nonneg_right (by omega) (by decide)
    unfold gaI
    omega
theorem AtX.bd {L : List Int} {i x c : Nat} (h : AtX m n l r L i x) (hi : i < l.length) (hx : x < l.length) (hc : c < l.length) : -1125899906842624 ≤ gl L c ∧ gl L c ≤ 1125899906842624 := by
  have h1 := gaI_bd ok hr (i := i) (by omega) c
  have h2 := cW_bd ok hi c
  have h3 := cW_bd ok hx c
  have h4 := dlt_le x c
  have h5 := mul_bd (Z := 16385) (hr i hi).1 (hr i hi).2 (by omega : -16385 ≤ cW m n l i c - cW m n l x c + dlt x c) (by omega) (by decide)
  rw [h.2 c hc]
  omega
omit hr ok
/-- The first step: what rains on i is in i. -/
theorem AtX.begin {L : List Int} {i : Nat} (hi : i < l.length) (hL : L.length = l.length) (h : ∀ c, c < l.length → gl L c = gaI m n l r i c) : AtX m n l r (L.set i (gl L i + gl r i)) i i := by
  refine ⟨by rw [List.length_set]; exact hL, fun c hc => ?_⟩
  rw [gl_set (by rw [hL]; exact hi), Int.sub_self, Int.zero_add]
  by_cases e : c = i
  · rw [if_pos e, e, h i hi]
    unfold dlt
    rw [if_pos rfl, Int.mul_one]
  · rw [if_neg e, h c hc]
    unfold dlt
    rw [if_neg (Ne.symm e), Int.mul_zero, Int.add_zero]
include ok
theorem AtX.step {L : List Int} {i x : Nat} (hx : x < l.length) (hn : ¬ tw m n l x = x) (h : AtX m n l r L i x) : AtX m n l r (L.set (tw m n l x) (gl L (tw m n l x) + gl r i)) i (tw m n l x) := by
  have ht := tw_lt m n l ok.m1 ok.len hx
  refine ⟨by rw [List.length_set]; exact h.1, fun c hc => ?_⟩
  have e1 := cW_next m n l ok.m1 ok.len hx hn c
  rw [gl_set (by rw [h.1]; exact ht)]
  by_cases e : c = tw m n l x
  · rw [if_pos e, ← e, h.2 c hc, e1, ← e]
    have e2 : dlt c c = 1 := by unfold dlt; rw [if_pos rfl]
    rw [e2, show cW m n l i c - (dlt x c + cW m n l c c) + dlt x c = cW m n l i c - cW m n l c c by omega, Int.mul_add (gl r i) (cW m n l i c - cW m n l c c) 1, Int.mul_one]
    omega
  · rw [if_neg e, h.2 c hc, e1]
    have e2 : dlt (tw m n l x) c = 0 := by unfold dlt; rw [if_neg (Ne.symm e)]
    rw [e2, show cW m n l i c - (dlt x c + cW m n l (tw m n l x) c) + dlt x c = cW m n l i c - cW m n l (tw m n l x) c + 0 by omega]
theorem AtX.end {L : List Int} {i x : Nat} (hx : x < l.length) (hn : tw m n l x = x) (h : AtX m n l r L i x) : L.length = l.length ∧ ∀ c, c < l.length → gl L c = gaI m n l r (i + 1) c := by
  refine ⟨h.1, fun c hc => ?_⟩
  rw [h.2 c hc, gaI_succ, cW_end m n l ok.m1 ok.len hx hn c, show cW m n l i c - dlt x c + dlt x c = cW m n l i c by omega]
end
/-- What lies in memory while it gathers. -/
structure GO (w W : World) (T TO rb ro rcap B : Nat) (t : List Value) (Lt : List Int) (ra : Option Addr) (r L : List Int) : Prop where
  t : At W T t
  o : At W TO (ir Lt)
  r : ISl W ra rb ro rcap r
  l : At W B (ir L)
  gr : Gr w W
  ne : (T ≠ B ∧ TO ≠ B ∧ rb ≠ B) ∧ w.heap.size ≤ B
section
variable {w W : World} {T TO rb ro rcap B : Nat} {t : List Value} {Lt : List Int} {ra : Option Addr} {r L : List Int}
theorem GO.drew (h : GO w W T TO rb ro rcap B t Lt ra r L) : GO w W.drew T TO rb ro rcap B t Lt ra r L := ⟨h.t, h.o, h.r.below (Gr.refl W).drew.out, h.l, h.gr.drew, h.ne⟩
theorem GO.put (h : GO w W T TO rb ro rcap B t Lt ra r L) (i : Nat) (x : Int) : GO w (W.setCell ⟨B, i, none⟩ (.int .i64 x)) T TO rb ro rcap B t Lt ra r (L.set i x) := by
  obtain ⟨⟨n1, n2, n3⟩, n4⟩ := h.ne
  refine ⟨h.t.skip (Ne.symm n1) _ _, h.o.skip (Ne.symm n2) _ _, h.r.onl ((Onl.refl B W).set i _) n3, ?_, h.gr.set n4 _ _, h.ne⟩
  rw [← ir_set]; exact h.l.put i _
end
set_option maxRecDepth 4000 in
set_option maxHeartbeats 8000000 in
theorem gatherOf_any {m n TO rb ro rcap : Nat} {l Lt r : List Int} {ra : Option Addr} (ok : Ok l m n) (v1 v3 : Value) (w : World) (hT : At w TO (ir Lt)) (hLt : TwL m n l Lt) (hr : ISl w ra rb ro rcap r) (hrl : r.length = l.length) (hrr : ∀ i, i < l.length → rainI (gl r i)) : Calls Tryd.prog 26 #[.agg #[v1, .slice (some ⟨TO, 0, none⟩) l.length l.length, v3], .slice ra l.length rcap] w fun e w' => ∃ B, e = .returned (.slice (some ⟨B, 0, none⟩) l.length l.length) ∧ At w' B (ir (gaL m n l (gl r))) ∧ w.heap.size ≤ B ∧ Gr w w' := by
  have hlen := ok.len_le
  have hN1 : 1 ≤ l.length := by rw [ok.len]; exact Nat.mul_le_mul ok.m1 ok.n1
  obtain ⟨CS, hCS, mk⟩ := made_run l.length (by omega)
  have hrb : rb < w.heap.size := by
    rcases hr.row with k | k
    · exact k.2
    · rw [k] at hrl; simp at hrl; omega
  have E0 : Hid (GO w ((w.alloc (.cells #[v1, .slice (some ⟨TO, 0, none⟩) l.length l.length, v3] 38)).alloc (.cells CS 3)) w.heap.size TO rb ro rcap (w.heap.size + 1) [v1, .slice (some ⟨TO, 0, none⟩) l.length l.length, v3] Lt ra r (List.replicate l.length 0)) := by
    refine ⟨(At.new3 _ _ _ _ _).alloc _, (hT.alloc _).alloc _, (hr.below ((Gr.refl w).alloc _).out).below ((Gr.refl _).alloc _).out, ?_, ((Gr.refl w).alloc _).alloc _, ⟨by omega, ?_, by omega⟩, by omega⟩
    · rw [← hCS]; exact At.nxArr _ _ _ _
    · have := hT.lt; omega
  have HOk := hidb (show Ok l m n ∧ TwL m n l Lt ∧ r.length = l.length ∧ (∀ i, i < l.length → rainI (gl r i)) from ⟨ok, hLt, hrl, hrr⟩)
  have HIx := hidb hr.ix
  have HL := hidb (show 1 ≤ l.length ∧ l.length ≤ 16384 from ⟨hN1, hlen⟩)
  obtain ⟨N, hN⟩ : ∃ N, N = l.length := ⟨_, rfl⟩
  have HN := hidb hN
  rw [hrl] at HIx
  rw [← hN] at mk E0 HL HIx ⊢
  clear hT hLt ok hr hrl hrr hrb hlen hN1 hN hCS
  go_enter Tryd.func26, Tryd.ntmps26
  go_wp2
  obtain ⟨B, hBd⟩ : ∃ B, B = w.heap.size + 1 := ⟨_, rfl⟩
  rw [← hBd] at E0 ⊢
  clear hBd mk
  generalize (w.alloc (.cells #[v1, .slice (some ⟨TO, 0, none⟩) N N, v3] 38)).alloc (.cells CS 3) = w1 at *
  go_loopw [6] (fun t wr => ∃ (i : Nat) (L : List Int), i ≤ N ∧ t = .int .i64 (i : Int) ∧ Hid (GO w wr w.heap.size TO rb ro rcap B [v1, .slice (some ⟨TO, 0, none⟩) N N, v3] Lt ra r L ∧ L.length = l.length ∧ ∀ c, c < l.length → gl L c = gaI m n l r i c)) (fun t _ => N - (intOf t).toNat)
  case atStart => exact ⟨0, _, Nat.zero_le _, rfl, hidb ⟨E0.out, by rw [List.length_replicate, HN.out], fun c hc => by rw [← HN.out] at hc; simp [gl, gaI, smF, hc]⟩⟩
  case round =>
    clear E0
    obtain ⟨i, L, hi, rfl, E⟩ := hrel
    by_cases h1 : ¬ i < N
    · have h1' : ¬ (i : Int) < (N : Int) := by omega
      have HE : Hid (At wr B (ir (gaL m n l (gl r)))) := by
        have : L = gaL m n l (gl r) := list_gl E.out.2.1 (fun c hc => by rw [E.out.2.2 c hc]; obtain rfl : i = l.length := (by rw [← HN.out]; omega); rfl)
        rw [← this]
        exact E.out.1.l
      clear h1
      go_wp2
      go_ret
      exact ⟨B, rfl, HE.out, E.out.1.ne.2, E.out.1.gr⟩
    · have h1' : (i : Int) < (N : Int) := by omega
      have hiN : i < N := by omega
      have hil : i < l.length := by rw [← HN.out]; exact hiN
      have e1 : IntKind.i64.wrap ((i : Int) + 1) = ((i + 1 : Nat) : Int) := by rw [show (i : Int) + 1 = ((i + 1 : Nat) : Int) by omega]; exact wrap_in (by have := HL.out; omega) (by have := HL.out; omega)
      have HE1 := hidb e1
      have ixr := HIx.out i hiN
      have HR1 : Hid (∀ W L', GO w W w.heap.size TO rb ro rcap B [v1, .slice (some ⟨TO, 0, none⟩) N N, v3] Lt ra r L' → W.cell? ⟨rb, ro + i, none⟩ = some (.int .i64 (gl r i))) := fun W L' X => X.r.gcell (by rw [HOk.out.2.2.1]; exact hil)
      have cr := HR1.out _ _ E.out.1
      have ixB := iindex B 0 N N i hiN
      rw [Nat.zero_add] at ixB
      obtain ⟨cB, fB⟩ := E.out.1.l.get (j := i) (by rw [E.out.2.1]; exact hil)
      rw [gl_get (by rw [E.out.2.1]; exact hil)] at cB
      have HAb := hidb (AtX.begin (m := m) (n := n) hil E.out.2.1 E.out.2.2)
      have hy : -9223372036854775808 ≤ gl L i + gl r i ∧ gl L i + gl r i ≤ 9223372036854775807 := by
        have k1 := gaI_bd HOk.out.1 HOk.out.2.2.2 (i := i) (by omega) i
        have k2 := HOk.out.2.2.2 i hil
        unfold rainI at k2
        rw [E.out.2.2 i hil]
        omega
      have E6 := hidb (E.out.1.put i (gl L i + gl r i))
      obtain ⟨yN, hyN, e2⟩ : ∃ z : Int, z = gl L i + gl r i ∧ IntKind.i64.wrap (gl L i + gl r i) = z := ⟨_, rfl, wrap_in hy.1 (by omega)⟩
      rw [← hyN] at E6 HAb
      have HiN := hidb hiN
      have HRi := hidb (HOk.out.2.2.2 i hil)
      generalize gl L i = y at *
      clear h1 hiN hil e1 E hy hyN
      have HRr : Hid (∀ L x, AtX m n l r L i x → x < l.length → ∀ c, c < l.length → IntKind.i64.wrap (gl L c + gl r i) = gl L c + gl r i) := fun L x hX hx c hc => by
        have k1 := hX.bd HOk.out.1 HOk.out.2.2.2 (by rw [← HN.out]; exact HiN.out) hx hc
        have k2 := HRi.out
        unfold rainI at k2
        exact wrap_in (by omega) (by omega)
      go_upto_region 6 with fail
      go_region
      generalize hW6 : (wr.setCell ⟨B, i, none⟩ (.int .i64 yN)).drew = W6
      have E7 : Hid (GO w W6 w.heap.size TO rb ro rcap B [v1, .slice (some ⟨TO, 0, none⟩) N N, v3] Lt ra r (L.set i yN)) := by
        rw [← hW6]
        exact E6.out.drew
      obtain ⟨p, hp, hpi⟩ := oc_all m n l HOk.out.1.m1 HOk.out.1.len (c := i) (by rw [← HN.out]; exact HiN.out)
      have HP := hidb (show p < l.length ∧ oc m n l p = i from ⟨hp, hpi⟩)
      clear hW6 E6 cr cB fB ixB e2 hp hpi
      go_wp2
      go_loopg [7] p (fun gk s wr => ∃ (x : Nat) (L : List Int), s = .int .i64 (x : Int) ∧ Hid ((gk < l.length ∧ oc m n l gk = x) ∧ GO w wr w.heap.size TO rb ro rcap B [v1, .slice (some ⟨TO, 0, none⟩) N N, v3] Lt ra r L ∧ AtX m n l r L i x))
      case atStart => exact ⟨i, _, rfl, hidb ⟨HP.out, E7.out, HAb.out⟩⟩
      case round =>
        clear E7 HAb
        obtain ⟨x, L2, rfl, E⟩ := hrel
        have hxl : x < l.length := by rw [← E.out.1.2]; exact oc_lt m n l HOk.out.1.m1 HOk.out.1.len E.out.1.1
        have hxN : x < N := by rw [HN.out]; exact hxl
        have ixT := iindex TO 0 N N x hxN
        rw [Nat.zero_add] at ixT
        have cT := (E.out.2.1.o.get (j := x) (by rw [HOk.out.2.1.1]; exact hxl)).1
        rw [gl_get (by rw [HOk.out.2.1.1]; exact hxl), HOk.out.2.1.2 x hxl] at cT
        have q1 := E.out.2.1.t.c3.2.1
        by_cases hf : tw m n l x = x
        · have HE := hidb (AtX.end HOk.out.1 hxl hf E.out.2.2)
          have HE2 := hidb E.out.2.1
          rw [hf] at cT
          have e1 := HE1.out
          clear E hf hxl hxN
          go_wp2
          go_roundw
          case rel => exact ⟨i + 1, L2, HiN.out, by go_num, hidb ⟨HE2.out, HE.out⟩⟩
          case measure => have := HiN.out; simp [intOf]; omega
        · obtain ⟨j, hj, hjx⟩ : ∃ j, j < gk ∧ oc m n l j = tw m n l x := by
            have h := oc_bef m n l HOk.out.1.m1 HOk.out.1.len (k := gk) E.out.1.1
            rw [E.out.1.2] at h
            exact h.resolve_left hf
          have hyl := tw_lt m n l HOk.out.1.m1 HOk.out.1.len hxl
          have HSt := hidb (AtX.step HOk.out.1 hxl hf E.out.2.2)
          have HJ := hidb (show j < gk ∧ j < l.length ∧ oc m n l j = tw m n l x from ⟨hj, by have := E.out.1.1; omega, hjx⟩)
          have hf' : ¬ ((tw m n l x : Nat) : Int) = (x : Int) := by omega
          have E8 := hidb (E.out.2.1.put (tw m n l x) (gl L2 (tw m n l x) + gl r i))
          have hyN : tw m n l x < N := by rw [HN.out]; exact hyl
          have ixB := iindex B 0 N N (tw m n l x) hyN
          rw [Nat.zero_add] at ixB
          obtain ⟨cB, fB⟩ := E.out.2.1.l.get (j := tw m n l x) (by rw [E.out.2.2.1]; exact hyl)
          rw [gl_get (by rw [E.out.2.2.1]; exact hyl)] at cB
          have cr := HR1.out _ _ E.out.2.1
          obtain ⟨zN, hzN, e2⟩ : ∃ z : Int, z = gl L2 (tw m n l x) + gl r i ∧ IntKind.i64.wrap (gl L2 (tw m n l x) + gl r i) = z := ⟨_, rfl, HRr.out L2 x E.out.2.2 hxl _ hyl⟩
          rw [← hzN] at E8 HSt
          generalize gl L2 (tw m n l x) = y2 at *
          generalize tw m n l x = y at *
          clear E hf hxl hxN hj hjx hyl hyN hzN
          generalize gl r i = rn at *
          go_upto_region 9 with fail
          go_region
          generalize hW9 : (wr.setCell ⟨B, y, none⟩ (.int .i64 zN)).drew = W9
          have E9 : Hid (GO w W9 w.heap.size TO rb ro rcap B [v1, .slice (some ⟨TO, 0, none⟩) N N, v3] Lt ra r (L2.set y zN)) := by
            rw [← hW9]
            exact E8.out.drew
          clear hW9 E8 cT q1 cB fB cr
          go_wp2
          go_roundg j
          case measure => exact HJ.out.1
          case rel => exact ⟨y, _, rfl, hidb ⟨HJ.out.2, E9.out, HSt.out⟩⟩
end Go.Proofs.YtlhligeicnejbaaDoor
