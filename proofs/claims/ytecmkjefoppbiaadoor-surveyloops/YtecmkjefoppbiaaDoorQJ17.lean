/-
  Surveys: what was seen, in memory; survey.Seen's out.; survey: bounded, mark.; survey.Survey's mark, fits.; survey.Survey's fits.
-/
import Derived.Test.YtecmkjefoppbiaaDoorQJ16
import Derived.Test.YtecmkjefoppbiaaDoorQJ14
import Derived.BigQuiet
import Derived.Deep.QuietTactic
import Derived.Deep.CutRange
import Derived.Deep.RegionHeld3
import Derived.Deep.RegionHeldLaw
import Derived.Deep.RegionLaw
namespace Go.Proofs.YtecmkjefoppbiaaDoor
open Go.RowKit

theorem wr_in {z : Int} (h1 : -9223372036854775808 ≤ z) (h2 : z ≤ 9223372036854775807) : IntKind.i64.wrap z = z := by rw [IntKind.wrap_i64]; omega
/-- One that was seen: from, to, up, weight. -/
structure Sn where
  f : Int
  t : Int
  u : Int
  w : Int
def snV (x : Sn) : Value := .agg #[.int .i64 x.f, .int .i64 x.t, .int .i64 x.u, .int .i64 x.w]
def snX (l : List Sn) (k : Nat) : Sn := l.getD k ⟨0, 0, 0, 0⟩
/-- A slice of such, of type T, that is read. -/
structure SeL (T : TypeId) (w : World) (ad : Option Addr) (b o cap : Nat) (l : List Sn) : Prop where
  row : ∀ k, k < l.length → ((w.cell? ⟨b, o + k * 4, none⟩ = some (.int .i64 (snX l k).f) ∧ w.cell? ⟨b, o + k * 4 + 1, none⟩ = some (.int .i64 (snX l k).t) ∧ w.cell? ⟨b, o + k * 4 + 2, none⟩ = some (.int .i64 (snX l k).u) ∧ w.cell? ⟨b, o + k * 4 + 3, none⟩ = some (.int .i64 (snX l k).w)) ∧ b < w.heap.size)
  ix : ∀ k : Nat, k < l.length → ∀ w, (Instr.indexAt T (.slice ad l.length cap) (.int .i64 k)).run Tryd.prog w = .ok (.pointer (some ⟨b, o + k * 4, none⟩)) w
theorem SeL.below {T : TypeId} {W w' : World} {ad : Option Addr} {b o cap : Nat} {l : List Sn} (h : SeL T W ad b o cap l) (hB : Below W.heap.size W w') : SeL T w' ad b o cap l :=
  ⟨fun k hk => by
    obtain ⟨⟨k0, k1, k2, k3⟩, hb⟩ := h.row k hk
    have e := fun j => hB.cell (p := ⟨b, j, none⟩) hb
    exact ⟨⟨(e _).trans k0, (e _).trans k1, (e _).trans k2, (e _).trans k3⟩, Nat.lt_of_lt_of_le hb hB.size⟩, h.ix⟩
/-- Where to and by which way one leads out of a mark. -/
def outE (x : Sn) (m n : Int) : Int × Int := if m = x.f then (x.t, n) else if m = x.t then (x.f, -n) else (0, 0)
set_option maxRecDepth 4000 in
theorem seenOut_any (x : Sn) (m n : Int) (hn : 0 ≤ n ∧ n ≤ 1000) (w : World) : Calls Tryd.prog 24 #[snV x, .int .i64 m, .int .i64 n] w fun e w' => e = .returned (.tuple #[.int .i64 (outE x m n).1, .int .i64 (outE x m n).2]) ∧ Gr w w' := by
  obtain ⟨f, t, u, g⟩ := x
  have HG := hidb (Gr.refl w)
  have en : IntKind.i64.wrap (-n) = -n := wr_in (by omega) (by omega)
  unfold outE snV
  dsimp only
  by_cases c : m = f
  · rw [if_pos c]
    subst c
    go_enter Tryd.func24, Tryd.ntmps24
    go_wp2
    exact bodyPost_ret (v := .tuple #[.int .i64 t, .int .i64 n]) (by simp [results, Tryd.results24, go_sem]) rfl ⟨rfl, by first | exact HG.out | exact HG.out.alloc _⟩
  · rw [if_neg c]
    by_cases d : m = t
    · rw [if_pos d]
      subst d
      go_enter Tryd.func24, Tryd.ntmps24
      go_wp2
      exact bodyPost_ret (v := .tuple #[.int .i64 f, .int .i64 (-n)]) (by simp [results, Tryd.results24, go_sem]) rfl ⟨rfl, by first | exact HG.out | exact HG.out.alloc _⟩
    · rw [if_neg d]
      go_enter Tryd.func24, Tryd.ntmps24
      go_wp2
      exact bodyPost_ret (v := .tuple #[.int .i64 0, .int .i64 0]) (by simp [results, Tryd.results24, go_sem]) rfl ⟨rfl, by first | exact HG.out | exact HG.out.alloc _⟩
end Go.Proofs.YtecmkjefoppbiaaDoor
namespace Go.Proofs.YtecmkjefoppbiaaDoor
open Go.RowKit

set_option maxRecDepth 4000 in
theorem sbounded_any (n : Int) (w : World) : Calls Tryd.prog 22 #[.int .i64 n] w fun e w' => e = .returned (.bool (decide (-1048576 ≤ n ∧ n ≤ 1048576))) ∧ Gr w w' := by
  have HG := hidb (Gr.refl w)
  by_cases c : -1048576 ≤ n
  · by_cases d : n ≤ 1048576
    · rw [decide_eq_true ⟨c, d⟩]
      go_enter Tryd.func22, Tryd.ntmps22
      go_wp2
      go_ret
      exact ⟨rfl, HG.out⟩
    · rw [decide_eq_false (fun h => d h.2)]
      go_enter Tryd.func22, Tryd.ntmps22
      go_wp2
      go_ret
      exact ⟨rfl, HG.out⟩
  · rw [decide_eq_false (fun h => c h.1)]
    go_enter Tryd.func22, Tryd.ntmps22
    go_wp2
    go_ret
    exact ⟨rfl, HG.out⟩
end Go.Proofs.YtecmkjefoppbiaaDoor
namespace Go.Proofs.YtecmkjefoppbiaaDoor
open Go.RowKit

/-- A survey, as a value. -/
def svV (M B : Int) (v : Value) : Value := .agg #[.int .i64 M, .int .i64 B, v]
/-- A mark's number. -/
def mkP (M x : Int) : Prop := 0 ≤ x ∧ x < M
instance (M x : Int) : Decidable (mkP M x) := by unfold mkP; exact inferInstance
set_option maxRecDepth 4000 in
theorem smark_any (M B x : Int) (v : Value) (w : World) : Calls Tryd.prog 35 #[svV M B v, .int .i64 x] w fun e w' => e = .returned (.bool (decide (mkP M x))) ∧ Gr w w' := by
  have PX : Hid (At (w.alloc (.cells #[.int .i64 M, .int .i64 B, v] 34)) w.heap.size [.int .i64 M, .int .i64 B, v] ∧ Gr w (w.alloc (.cells #[.int .i64 M, .int .i64 B, v] 34))) := ⟨At.new3 _ _ _ _ _, (Gr.refl w).alloc _⟩
  obtain ⟨z0, -, -⟩ := PX.out.1.c3
  unfold svV
  by_cases c : 0 ≤ x
  · by_cases d : x < M
    · rw [decide_eq_true ⟨c, d⟩]
      go_enter Tryd.func35, Tryd.ntmps35
      go_wp2
      go_ret
      exact ⟨rfl, PX.out.2⟩
    · rw [decide_eq_false (fun h => d h.2)]
      go_enter Tryd.func35, Tryd.ntmps35
      go_wp2
      go_ret
      exact ⟨rfl, PX.out.2⟩
  · rw [decide_eq_false (fun h => c h.1)]
    go_enter Tryd.func35, Tryd.ntmps35
    go_wp2
    go_ret
    exact ⟨rfl, PX.out.2⟩
end Go.Proofs.YtecmkjefoppbiaaDoor
namespace Go.Proofs.YtecmkjefoppbiaaDoor
open Go.RowKit

/-- One that was seen is right. -/
def fitP (M : Int) (x : Sn) : Prop := mkP M x.f ∧ mkP M x.t ∧ ¬ x.f = x.t ∧ 1 ≤ x.w ∧ x.w ≤ 1000 ∧ (-1048576 ≤ x.u ∧ x.u ≤ 1048576)
instance (M : Int) (x : Sn) : Decidable (fitP M x) := by unfold fitP; exact inferInstance
theorem At.nx4s {W : World} (o : Obj) (a b c d : Value) (t : Nat) : At ((W.alloc o).alloc (.cells #[a, b, c, d] t)) (W.heap.size + 1) [a, b, c, d] := by
  have := At.new4 (W.alloc o) a b c d t
  rwa [show (W.alloc o).heap.size = W.heap.size + 1 by simp] at this
set_option maxRecDepth 4000 in
set_option maxHeartbeats 4000000 in
theorem sfits_any (M B : Int) (v : Value) (x : Sn) (w : World) : Calls Tryd.prog 23 #[svV M B v, snV x] w fun e w' => e = .returned (.bool (decide (fitP M x))) ∧ Gr w w' := by
  obtain ⟨f, t, u, g⟩ := x
  have H1 := hidb (fun w => smark_any M B f v w)
  have H2 := hidb (fun w => smark_any M B t v w)
  have H3 := hidb (fun w => sbounded_any u w)
  have HC : Hid (∀ W', Gr ((w.alloc (.cells #[.int .i64 M, .int .i64 B, v] 34)).alloc (.cells #[.int .i64 f, .int .i64 t, .int .i64 u, .int .i64 g] 47)) W' → (fun w' => (w'.cell? ⟨w.heap.size, 0, none⟩ = some (.int .i64 M) ∧ w'.cell? ⟨w.heap.size, 1, none⟩ = some (.int .i64 B) ∧ w'.cell? ⟨w.heap.size, 2, none⟩ = some v) ∧ (w'.cell? ⟨w.heap.size + 1, 0, none⟩ = some (.int .i64 f) ∧ w'.cell? ⟨w.heap.size + 1, 1, none⟩ = some (.int .i64 t) ∧ w'.cell? ⟨w.heap.size + 1, 2, none⟩ = some (.int .i64 u) ∧ w'.cell? ⟨w.heap.size + 1, 3, none⟩ = some (.int .i64 g))) W') := fun W' hG =>
    ⟨(At.below hG.out ((At.new3 w _ _ _ _).alloc _)).c3, (At.below hG.out (At.nx4s (W := w) _ _ _ _ _ _)).c4⟩
  have GW := hidb (((Gr.refl w).alloc (.cells #[.int .i64 M, .int .i64 B, v] 34)).alloc (.cells #[.int .i64 f, .int .i64 t, .int .i64 u, .int .i64 g] 47))
  have GG := hidb (Gr.refl ((w.alloc (.cells #[.int .i64 M, .int .i64 B, v] 34)).alloc (.cells #[.int .i64 f, .int .i64 t, .int .i64 u, .int .i64 g] 47)))
  obtain ⟨⟨z0, z1, z2⟩, z4, z5, z6, z7⟩ := HC.out _ GG.out
  unfold svV at H1 H2
  unfold snV svV
  dsimp only at HC z0 z1 z2 z4 z5 z6 z7 ⊢
  generalize hr : decide (fitP M ⟨f, t, u, g⟩) = res
  by_cases c1 : mkP M f
  · rw [decide_eq_true c1] at H1
    by_cases c2 : mkP M t
    · rw [decide_eq_true c2] at H2
      by_cases c3 : f = t
      · obtain rfl : res = false := by rw [← hr]; exact decide_eq_false (fun z => z.2.2.1 c3)
        have q3 : (f == t) = true := by simpa using c3
        clear hr c1 c2 c3
        go_enter Tryd.func23, Tryd.ntmps23
        go_wp2_with fail
        refine (H1.out _).mono ?_
        rintro e w1 ⟨rfl, hB⟩
        replace GG := hidb (Gr.step GG.out hB.out)
        clear hB
        clear z0 z1 z2 z4 z5 z6 z7
        obtain ⟨⟨z0, z1, z2⟩, z4, z5, z6, z7⟩ := HC.out _ GG.out
        go_wp2_with fail
        refine (H2.out _).mono ?_
        rintro e w1 ⟨rfl, hB⟩
        replace GG := hidb (Gr.step GG.out hB.out)
        clear hB
        clear z0 z1 z2 z4 z5 z6 z7
        obtain ⟨⟨z0, z1, z2⟩, z4, z5, z6, z7⟩ := HC.out _ GG.out
        go_wp2
        go_ret
        exact ⟨rfl, Gr.step GW.out GG.out⟩
      · have q3 : (f == t) = false := by simpa using c3
        by_cases c4 : 1 ≤ g
        · by_cases c5 : g ≤ 1000
          · by_cases c6 : (-1048576 ≤ u ∧ u ≤ 1048576)
            · rw [decide_eq_true c6] at H3
              obtain rfl : res = true := by rw [← hr]; exact decide_eq_true ⟨c1, c2, c3, c4, c5, c6⟩
              clear hr c1 c2 c3 c6
              go_enter Tryd.func23, Tryd.ntmps23
              go_wp2_with fail
              refine (H1.out _).mono ?_
              rintro e w1 ⟨rfl, hB⟩
              replace GG := hidb (Gr.step GG.out hB.out)
              clear hB
              clear z0 z1 z2 z4 z5 z6 z7
              obtain ⟨⟨z0, z1, z2⟩, z4, z5, z6, z7⟩ := HC.out _ GG.out
              go_wp2_with fail
              refine (H2.out _).mono ?_
              rintro e w1 ⟨rfl, hB⟩
              replace GG := hidb (Gr.step GG.out hB.out)
              clear hB
              clear z0 z1 z2 z4 z5 z6 z7
              obtain ⟨⟨z0, z1, z2⟩, z4, z5, z6, z7⟩ := HC.out _ GG.out
              go_wp2_with fail
              refine (H3.out _).mono ?_
              rintro e w1 ⟨rfl, hB⟩
              replace GG := hidb (Gr.step GG.out hB.out)
              clear hB
              clear z0 z1 z2 z4 z5 z6 z7
              obtain ⟨⟨z0, z1, z2⟩, z4, z5, z6, z7⟩ := HC.out _ GG.out
              go_wp2
              go_ret
              exact ⟨rfl, Gr.step GW.out GG.out⟩
            · rw [decide_eq_false c6] at H3
              obtain rfl : res = false := by rw [← hr]; exact decide_eq_false (fun z => c6 z.2.2.2.2.2)
              clear hr c1 c2 c3 c6
              go_enter Tryd.func23, Tryd.ntmps23
              go_wp2_with fail
              refine (H1.out _).mono ?_
              rintro e w1 ⟨rfl, hB⟩
              replace GG := hidb (Gr.step GG.out hB.out)
              clear hB
              clear z0 z1 z2 z4 z5 z6 z7
              obtain ⟨⟨z0, z1, z2⟩, z4, z5, z6, z7⟩ := HC.out _ GG.out
              go_wp2_with fail
              refine (H2.out _).mono ?_
              rintro e w1 ⟨rfl, hB⟩
              replace GG := hidb (Gr.step GG.out hB.out)
              clear hB
              clear z0 z1 z2 z4 z5 z6 z7
              obtain ⟨⟨z0, z1, z2⟩, z4, z5, z6, z7⟩ := HC.out _ GG.out
              go_wp2_with fail
              refine (H3.out _).mono ?_
              rintro e w1 ⟨rfl, hB⟩
              replace GG := hidb (Gr.step GG.out hB.out)
              clear hB
              clear z0 z1 z2 z4 z5 z6 z7
              obtain ⟨⟨z0, z1, z2⟩, z4, z5, z6, z7⟩ := HC.out _ GG.out
              go_wp2
              go_ret
              exact ⟨rfl, Gr.step GW.out GG.out⟩
          · obtain rfl : res = false := by rw [← hr]; exact decide_eq_false (fun z => c5 z.2.2.2.2.1)
            clear hr c1 c2 c3
            go_enter Tryd.func23, Tryd.ntmps23
            go_wp2_with fail
            refine (H1.out _).mono ?_
            rintro e w1 ⟨rfl, hB⟩
            replace GG := hidb (Gr.step GG.out hB.out)
            clear hB
            clear z0 z1 z2 z4 z5 z6 z7
            obtain ⟨⟨z0, z1, z2⟩, z4, z5, z6, z7⟩ := HC.out _ GG.out
            go_wp2_with fail
            refine (H2.out _).mono ?_
            rintro e w1 ⟨rfl, hB⟩
            replace GG := hidb (Gr.step GG.out hB.out)
            clear hB
            clear z0 z1 z2 z4 z5 z6 z7
            obtain ⟨⟨z0, z1, z2⟩, z4, z5, z6, z7⟩ := HC.out _ GG.out
            go_wp2
            go_ret
            exact ⟨rfl, Gr.step GW.out GG.out⟩
        · obtain rfl : res = false := by rw [← hr]; exact decide_eq_false (fun z => c4 z.2.2.2.1)
          clear hr c1 c2 c3
          go_enter Tryd.func23, Tryd.ntmps23
          go_wp2_with fail
          refine (H1.out _).mono ?_
          rintro e w1 ⟨rfl, hB⟩
          replace GG := hidb (Gr.step GG.out hB.out)
          clear hB
          clear z0 z1 z2 z4 z5 z6 z7
          obtain ⟨⟨z0, z1, z2⟩, z4, z5, z6, z7⟩ := HC.out _ GG.out
          go_wp2_with fail
          refine (H2.out _).mono ?_
          rintro e w1 ⟨rfl, hB⟩
          replace GG := hidb (Gr.step GG.out hB.out)
          clear hB
          clear z0 z1 z2 z4 z5 z6 z7
          obtain ⟨⟨z0, z1, z2⟩, z4, z5, z6, z7⟩ := HC.out _ GG.out
          go_wp2
          go_ret
          exact ⟨rfl, Gr.step GW.out GG.out⟩
    · rw [decide_eq_false c2] at H2
      obtain rfl : res = false := by rw [← hr]; exact decide_eq_false (fun z => c2 z.2.1)
      clear hr c1 c2
      go_enter Tryd.func23, Tryd.ntmps23
      go_wp2_with fail
      refine (H1.out _).mono ?_
      rintro e w1 ⟨rfl, hB⟩
      replace GG := hidb (Gr.step GG.out hB.out)
      clear hB
      clear z0 z1 z2 z4 z5 z6 z7
      obtain ⟨⟨z0, z1, z2⟩, z4, z5, z6, z7⟩ := HC.out _ GG.out
      go_wp2_with fail
      refine (H2.out _).mono ?_
      rintro e w1 ⟨rfl, hB⟩
      replace GG := hidb (Gr.step GG.out hB.out)
      clear hB
      clear z0 z1 z2 z4 z5 z6 z7
      obtain ⟨⟨z0, z1, z2⟩, z4, z5, z6, z7⟩ := HC.out _ GG.out
      go_wp2
      go_ret
      exact ⟨rfl, Gr.step GW.out GG.out⟩
  · rw [decide_eq_false c1] at H1
    obtain rfl : res = false := by rw [← hr]; exact decide_eq_false (fun z => c1 z.1)
    clear hr c1
    go_enter Tryd.func23, Tryd.ntmps23
    go_wp2_with fail
    refine (H1.out _).mono ?_
    rintro e w1 ⟨rfl, hB⟩
    replace GG := hidb (Gr.step GG.out hB.out)
    clear hB
    clear z0 z1 z2 z4 z5 z6 z7
    obtain ⟨⟨z0, z1, z2⟩, z4, z5, z6, z7⟩ := HC.out _ GG.out
    go_wp2
    go_ret
    exact ⟨rfl, Gr.step GW.out GG.out⟩
end Go.Proofs.YtecmkjefoppbiaaDoor
