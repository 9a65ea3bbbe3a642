/-
  SightMutual: the ways in which little is looked at.
-/
import Derived.Test.YtpdiefmmenfpaaaDoorQSiI
namespace Go.Proofs.YtpdiefmmenfpaaaDoor
open Go.RowKit
attribute [local go_sem ↓] Go.wp_at_zero Go.wp_at_succ

/-- The law's own box, and what was there. -/
abbrev KB (w W : World) (f t e u : Int) : Prop := KF w W w.heap.size [.int .i64 f, .int .i64 t, .int .i64 e, .int .i64 u]
theorem KB.new (w : World) (f t e u : Int) : KB w (w.alloc (.cells #[.int .i64 f, .int .i64 t, .int .i64 e, .int .i64 u] 47)) f t e u := ⟨At.new4 _ _ _ _ _ _, (Gr.refl w).alloc _⟩
set_option maxRecDepth 4000 in
set_option maxHeartbeats 4000000 in
theorem mutual_no (g : Nat → Addr) (v : Value) (f t e u mo ce : Int) (w : World) (hl : Lai w g) (h1 : ∀ W, Gr w W → Calls Tryd.prog 17 #[v] W fun e w' => e = .returned (.bool false) ∧ w' = W) : Calls Tryd.prog 6 #[v, loV f t e u, .int .i64 mo, .int .i64 ce] w fun e w' => e = .returned (.bool true) ∧ Gr w w' := by
  have F := hidb (KB.new w f t e u)
  have CR := hidb (seen_any g _ (hl.below F.out.gr.out))
  have S1 := hidb h1
  clear hl h1
  go_enter Tryd.func6, Tryd.ntmps6
  go_wp2_with fail
  refine CR.out.mono ?_
  rintro ee w1 ⟨rfl, hB⟩
  replace F := hidb (F.out.below hB.out)
  clear hB CR
  go_wp2_with fail
  refine (S1.out _ F.out.gr).mono ?_
  rintro ee w2 ⟨rfl, rfl⟩
  go_wp2
  go_ret
  exact ⟨rfl, F.out.gr⟩
set_option maxRecDepth 4000 in
set_option maxHeartbeats 4000000 in
theorem mutual_err (g : Nat → Addr) {pb po : Nat} {W H : Int} {ad : Option Addr} {b o cap : Nat} {l : List Int} (f t e u mo ce : Int) (w : World) (hl : Lai w g) (hR : Rin w pb po W H ad b o cap l) (ll : l.length ≤ 80) (hv : ¬ lcode W H l f t e u = 0) : Calls Tryd.prog 6 #[.pointer (some ⟨pb, po, none⟩), loV f t e u, .int .i64 mo, .int .i64 ce] w fun e w' => e = .returned (.bool true) ∧ Gr w w' := by
  have F := hidb (KB.new w f t e u)
  have CR := hidb (seen_any g _ (hl.below F.out.gr.out))
  have S1 := hidb (fun W1 (hG : Gr w W1) => small4_any pb po W H ad l.length cap W1 (hR.below hG).pt)
  rw [decide_eq_true ll] at S1
  have CL := hidb (fun W1 (hG : Gr w W1) => lookError_any f t e u W1 (hR.below hG) (by omega))
  have hv' : (0 : Int) < (lcode W H l f t e u : Int) := by omega
  generalize (lcode W H l f t e u : Int) = vc at *
  clear hl hR ll hv
  go_enter Tryd.func6, Tryd.ntmps6
  go_wp2_with fail
  refine CR.out.mono ?_
  rintro ee w1 ⟨rfl, hB⟩
  replace F := hidb (F.out.below hB.out)
  clear hB CR
  go_wp2_with fail
  refine (S1.out _ F.out.gr).mono ?_
  rintro ee w2 ⟨rfl, rfl⟩
  obtain ⟨r0, r1, r2, r3⟩ := F.out.a0.c4
  go_wp2_with fail
  refine (CL.out _ F.out.gr).mono ?_
  rintro ee w3 ⟨rfl, hB⟩
  have G := hidb (Gr.step F.out.gr hB.out)
  clear hB r0 r1 r2 r3 CL F
  go_wp2
  go_ret
  exact ⟨rfl, G.out⟩
set_option maxRecDepth 4000 in
set_option maxHeartbeats 4000000 in
theorem mutual_more (g : Nat → Addr) {pb po : Nat} {W H : Int} {ad : Option Addr} {b o cap : Nat} {l : List Int} (f t e u mo ce : Int) (w : World) (hl : Lai w g) (hR : Rin w pb po W H ad b o cap l) (ll : l.length ≤ 80) (hv : lcode W H l f t e u = 0) (he : 0 ≤ e ∧ e ≤ 1048576) (hm : mo < 0 ∨ 1000 < mo ∨ 1048576 < e + mo) : Calls Tryd.prog 6 #[.pointer (some ⟨pb, po, none⟩), loV f t e u, .int .i64 mo, .int .i64 ce] w fun e w' => e = .returned (.bool true) ∧ Gr w w' := by
  have F := hidb (KB.new w f t e u)
  have CR := hidb (seen_any g _ (hl.below F.out.gr.out))
  have S1 := hidb (fun W1 (hG : Gr w W1) => small4_any pb po W H ad l.length cap W1 (hR.below hG).pt)
  rw [decide_eq_true ll] at S1
  have CL := hidb (fun W1 (hG : Gr w W1) => lookError_any f t e u W1 (hR.below hG) (by omega))
  rw [hv] at CL
  have HM := hidb (show (0 ≤ e ∧ e ≤ 1048576) ∧ (mo < 0 ∨ 1000 < mo ∨ 1048576 < e + mo) from ⟨he, hm⟩)
  clear hl hR ll hv hm he
  go_enter Tryd.func6, Tryd.ntmps6
  go_wp2_with fail
  refine CR.out.mono ?_
  rintro ee w1 ⟨rfl, hB⟩
  replace F := hidb (F.out.below hB.out)
  clear hB CR
  go_wp2_with fail
  refine (S1.out _ F.out.gr).mono ?_
  rintro ee w2 ⟨rfl, rfl⟩
  obtain ⟨r0, r1, r2, r3⟩ := F.out.a0.c4
  go_wp2_with fail
  refine (CL.out _ F.out.gr).mono ?_
  rintro ee w3 ⟨rfl, hB⟩
  replace F := hidb (F.out.below hB.out)
  clear hB r0 r1 r2 r3 CL
  obtain ⟨r0, r1, r2, r3⟩ := F.out.a0.c4
  by_cases h1 : mo < 0
  · go_wp2
    go_ret
    exact ⟨rfl, F.out.gr⟩
  · by_cases h2 : 1000 < mo
    · go_wp2
      go_ret
      exact ⟨rfl, F.out.gr⟩
    · obtain ⟨em, hem, e1⟩ : ∃ z : Int, z = e + mo ∧ IntKind.i64.wrap (e + mo) = z := ⟨_, rfl, wrap_in (by have := HM.out.1; omega) (by have := HM.out.1; omega)⟩
      have h3 : 1048576 < em := by have := HM.out.2; omega
      clear hem
      go_wp2
      go_ret
      exact ⟨rfl, F.out.gr⟩
end Go.Proofs.YtpdiefmmenfpaaaDoor
