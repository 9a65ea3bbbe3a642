/-
  SightSees where the raster is great, or the look is refused.
-/
import Derived.Test.YtpdiefmmenfpaaaDoorQSsJ
import Derived.Test.YtpdiefmmenfpaaaDoorQSsI
import Derived.Test.YtpdiefmmenfpaaaDoorQSsA
import Derived.Test.YtpdiefmmenfpaaaDoorQSnG
namespace Go.Proofs.YtpdiefmmenfpaaaDoor
open Go.RowKit
attribute [local go_sem ↓] Go.wp_at_zero Go.wp_at_succ

set_option maxRecDepth 4000 in
set_option maxHeartbeats 4000000 in
theorem ssees_no (g : Nat → Addr) (v : Value) (f t e u : Int) (w : World) (hl : Laid w g) (h1 : ∀ W, Gr w W → Calls Tryd.prog 17 #[v] W fun e w' => e = .returned (.bool false) ∧ w' = W) : Calls Tryd.prog 4 #[v, loV f t e u] w fun e w' => e = .returned (.bool true) ∧ Gr w w' := by
  have F := hidb (KB.new w f t e u)
  have CR := hidb (seen_any g _ (hl.below F.out.gr.out).lai)
  have S1 := hidb h1
  clear hl h1
  go_enter Tryd.func4, Tryd.ntmps4
  go_wp2_with fail
  refine CR.out.mono ?_
  rintro ee w1 ⟨rfl, hB⟩
  replace F := hidb (F.out.below hB.out)
  clear hB CR
  go_wp2_with fail
  refine (S1.out _ F.out.gr).mono ?_
  rintro ee w2 ⟨rfl, rfl⟩
  go_wp2
  go_ret
  exact ⟨rfl, F.out.gr⟩
set_option maxRecDepth 4000 in
set_option maxHeartbeats 16000000 in
theorem ssees_err (g : Nat → Addr) {pb po : Nat} {W0 H0 : Int} {ad : Option Addr} {b o cap : Nat} {l : List Int} (f t e u : Int) (w : World) (hl : Laid w g) (ra : Rin w pb po W0 H0 ad b o cap l) (ll : l.length ≤ 80) (hc : ¬ lcode W0 H0 l f t e u = 0) (hn : ∀ W, Gr w W → Calls Tryd.prog 18 #[raV W0 H0 (.slice ad l.length cap), loV f t e u] W fun e' w' => e' = .returned (.tuple #[.bool false, errV g (lcode W0 H0 l f t e u - 1)]) ∧ Gr W w') (hn2 : ∀ W, Gr w W → Calls Tryd.prog 20 #[raV W0 H0 (.slice ad l.length cap), loV f t e u] W fun e' w' => e' = .returned (.tuple #[.slice none 0 0, errV g (lcode W0 H0 l f t e u - 1)]) ∧ Gr W w') : Calls Tryd.prog 4 #[.pointer (some ⟨pb, po, none⟩), loV f t e u] w fun e w' => e = .returned (.bool true) ∧ Gr w w' := by
  have F0 := hidb (KB.new w f t e u)
  have CR := hidb (seen_any g _ (hl.below F0.out.gr.out).lai)
  have S1 := hidb (fun W1 (hG : Gr w W1) => small4_any pb po W0 H0 ad l.length cap W1 (ra.below hG).pt)
  rw [decide_eq_true ll] at S1
  have CL := hidb (fun W1 (hG : Gr w W1) => lookError_any f t e u W1 (ra.below hG) (by omega))
  have HLo := hidb (fun W1 => look_any f t e u W1)
  have HP := hidb (fun W1 (hG : Gr w W1) => (ra.below hG).pt.all)
  have HB := hidb (show pb < w.heap.size from lt_of_cell ra.pt.all.1)
  have C12 := hidb hn
  have C13 := hidb hn2
  have hv8 : vcode W0 H0 l ≤ 8 := by unfold vcode; split; omega; split; omega; split <;> omega
  have hc8 : lcode W0 H0 l f t e u ≤ 8 := by
    unfold lcode
    split
    · split <;> omega
    · exact hv8
  have CE := hidb (fun W1 (hG : Gr w W1) => coded4_sent g (lcode W0 H0 l f t e u - 1) (by omega) (lcode W0 H0 l f t e u : Int) W1 (hl.below hG.out) (by omega))
  have hc' : (0 : Int) < (lcode W0 H0 l f t e u : Int) := by omega
  generalize (lcode W0 H0 l f t e u : Int) = vc at *
  generalize lcode W0 H0 l f t e u - 1 = ei at *
  obtain ⟨N, hN⟩ : ∃ N, N = l.length := ⟨_, rfl⟩
  rw [← hN] at C12 C13 HP
  clear ll ra hl hc hn hn2 hc8 hv8 hN
  go_enter Tryd.func4, Tryd.ntmps4
  go_wp2_with fail
  refine CR.out.mono ?_
  rintro ee w1 ⟨rfl, hB⟩
  replace F0 := hidb (F0.out.below hB.out)
  clear hB CR
  go_wp2_with fail
  refine (S1.out _ F0.out.gr).mono ?_
  rintro ee w2 ⟨rfl, rfl⟩
  have E0 : Hid (MF w w2 pb po (.int .i64 W0) (.int .i64 H0) (.slice ad N cap) [.int .i64 f, .int .i64 t, .int .i64 e, .int .i64 u]) := ⟨F0.out.a0, HP.out _ F0.out.gr, F0.out.gr, HB.out⟩
  clear F0 HP S1
  go_upto_region 5 with fail
  go_cut [7, 8] from 26 to 34 (fun s7 s8 wx => s7 = .bool false ∧ s8 = errV g ei ∧ Hid (MF w wx pb po (.int .i64 W0) (.int .i64 H0) (.slice ad N cap) [.int .i64 f, .int .i64 t, .int .i64 e, .int .i64 u]))
  case first =>
    have E := E0.out
    clear E0
    go_region_held (fun w' => (w'.cell? ⟨pb, po, none⟩ = some (.int .i64 W0) ∧ w'.cell? ⟨pb, po + 1, none⟩ = some (.int .i64 H0) ∧ w'.cell? ⟨pb, po + 2, none⟩ = some (.slice ad N cap)) ∧ w'.cell? ⟨w.heap.size, 0, none⟩ = some (.int .i64 f) ∧ w'.cell? ⟨w.heap.size, 1, none⟩ = some (.int .i64 t) ∧ w'.cell? ⟨w.heap.size, 2, none⟩ = some (.int .i64 e) ∧ w'.cell? ⟨w.heap.size, 3, none⟩ = some (.int .i64 u))
      (with_reducible first | exact E.all | exact E.drew.all)
      ((first
        | (go_at_call 19; with_reducible refine (HLo.out _).mono ?_; rintro ee w8 ⟨rfl, hB8⟩; (with_reducible first | replace E := E.below hB8.out | replace E := E.drew.below hB8.out); clear hB8)
        | (go_at_call 18; with_reducible refine (C12.out _ (by with_reducible first | exact E.gr | exact E.gr.drew)).mono ?_; rintro ee w8 ⟨rfl, hB8⟩; (with_reducible first | replace E := E.below hB8.out | replace E := E.drew.below hB8.out); clear hB8)
        | fail))
    all_goals
      go_wp2_with fail
      go_meet
      refine ⟨rfl, rfl, ?_⟩
      with_reducible first | exact hidb E | exact hidb E.drew
  case rest =>
    clear E0
    obtain ⟨rfl, rfl, E0⟩ := hcut
    clear C12
    go_upto_region 6 with fail
    go_cut [9, 10] from 35 to 43 (fun s9 s10 wx => s9 = .slice none 0 0 ∧ s10 = errV g ei ∧ Hid (MF w wx pb po (.int .i64 W0) (.int .i64 H0) (.slice ad N cap) [.int .i64 f, .int .i64 t, .int .i64 e, .int .i64 u]))
    case first =>
      have E := E0.out
      clear E0
      go_region_held (fun w' => (w'.cell? ⟨pb, po, none⟩ = some (.int .i64 W0) ∧ w'.cell? ⟨pb, po + 1, none⟩ = some (.int .i64 H0) ∧ w'.cell? ⟨pb, po + 2, none⟩ = some (.slice ad N cap)) ∧ w'.cell? ⟨w.heap.size, 0, none⟩ = some (.int .i64 f) ∧ w'.cell? ⟨w.heap.size, 1, none⟩ = some (.int .i64 t) ∧ w'.cell? ⟨w.heap.size, 2, none⟩ = some (.int .i64 e) ∧ w'.cell? ⟨w.heap.size, 3, none⟩ = some (.int .i64 u))
        (with_reducible first | exact E.all | exact E.drew.all)
        ((first
          | (go_at_call 19; with_reducible refine (HLo.out _).mono ?_; rintro ee w8 ⟨rfl, hB8⟩; (with_reducible first | replace E := E.below hB8.out | replace E := E.drew.below hB8.out); clear hB8)
          | (go_at_call 20; with_reducible refine (C13.out _ (by with_reducible first | exact E.gr | exact E.gr.drew)).mono ?_; rintro ee w8 ⟨rfl, hB8⟩; (with_reducible first | replace E := E.below hB8.out | replace E := E.drew.below hB8.out); clear hB8)
          | fail))
      all_goals
        go_wp2_with fail
        go_meet
        refine ⟨rfl, rfl, ?_⟩
        with_reducible first | exact hidb E | exact hidb E.drew
    case rest =>
      clear E0
      obtain ⟨rfl, rfl, E0⟩ := hcut
      obtain ⟨r0, r1, r2, r3⟩ := E0.out.a0.c4
      go_wp2_with fail
      refine (CL.out _ E0.out.gr).mono ?_
      rintro ee w6 ⟨rfl, hB6⟩
      have G6 := hidb (Gr.step E0.out.gr hB6.out)
      clear hB6 CL r0 r1 r2 r3 E0
      go_wp2_with fail
      refine (CE.out _ G6.out).mono ?_
      rintro ee w7 ⟨rfl, hB7⟩
      replace G6 := hidb (Gr.step G6.out hB7.out)
      clear hB7
      go_wp2_with fail
      refine (CE.out _ G6.out).mono ?_
      rintro ee w8 ⟨rfl, hB8⟩
      replace G6 := hidb (Gr.step G6.out hB8.out)
      clear hB8
      go_wp2
      go_ret
      exact ⟨rfl, G6.out⟩
end Go.Proofs.YtpdiefmmenfpaaaDoor
