/-
  field.Both of any rasters; mercatorlaw3.rasters.
-/
import Derived.Test.YtphpfongdbidoaaDoorQFdH
namespace Go.Proofs.YtphpfongdbidoaaDoor
open Go.RowKit

theorem both_kn (g : Nat → Addr) (h : Int) (hk : knI h) {W H W' H' : Int} {ad ad' : Option Addr} {b b' o o' cap cap' : Nat} {l l' : List Int} (w : World) (hs : ISl w ad b o cap l) (hs' : ISl w ad' b' o' cap' l') (ll : l.length ≤ 20000) (ll' : l'.length ≤ 20000) (hl : Lai w g) (hc : acode W H l W' H' l' = 0) : Calls Tryd.prog 21 #[raV W H (.slice ad l.length cap), raV W' H' (.slice ad' l'.length cap'), .int .u8 h] w fun e w' => Gr w w' ∧ ((vcode W H (bothL h l l') = 0 ∧ ∃ B, e = .returned (.tuple #[raV W H (.slice (some ⟨B, 0, none⟩) l.length l.length), .nilIface]) ∧ At w' B (ir (bothL h l l')) ∧ w.heap.size ≤ B) ∨ (¬ vcode W H (bothL h l l') = 0 ∧ e = .returned (.tuple #[raV 0 0 (.slice none 0 0), evc g (vcode W H (bothL h l l'))]))) := by
  rcases hk with rfl | rfl | rfl | rfl
  · exact both_ok43 g w hs hs' ll ll' hl hc
  · exact both_ok45 g w hs hs' ll ll' hl hc
  · exact both_ok62 g w hs hs' ll ll' hl hc
  · exact both_ok60 g w hs hs' ll ll' hl hc
theorem both_C (g : Nat → Addr) (h : Int) (hk : knI h) {W H W' H' : Int} {ad ad' : Option Addr} {b b' o o' cap cap' : Nat} {l l' : List Int} (w : World) (hs : ISl w ad b o cap l) (hs' : ISl w ad' b' o' cap' l') (ll : l.length ≤ 20000) (ll' : l'.length ≤ 20000) (hl : Lai w g) (hc : acode W H l W' H' l' = 0) (hv : ¬ vcode W H (bothL h l l') = 0) : Calls Tryd.prog 21 #[raV W H (.slice ad l.length cap), raV W' H' (.slice ad' l'.length cap'), .int .u8 h] w fun e w' => e = .returned (.tuple #[raV 0 0 (.slice none 0 0), evc g (vcode W H (bothL h l l'))]) ∧ Gr w w' := by
  refine (both_kn g h hk w hs hs' ll ll' hl hc).mono ?_
  rintro e w' ⟨hG, ⟨h1, _⟩ | ⟨_, rfl⟩⟩
  · exact absurd h1 hv
  · exact ⟨rfl, hG⟩
theorem both_D (g : Nat → Addr) (h : Int) (hk : knI h) {W H W' H' : Int} {ad ad' : Option Addr} {b b' o o' cap cap' : Nat} {l l' : List Int} (w : World) (hs : ISl w ad b o cap l) (hs' : ISl w ad' b' o' cap' l') (ll : l.length ≤ 20000) (ll' : l'.length ≤ 20000) (hl : Lai w g) (hc : acode W H l W' H' l' = 0) (hv : vcode W H (bothL h l l') = 0) : Calls Tryd.prog 21 #[raV W H (.slice ad l.length cap), raV W' H' (.slice ad' l'.length cap'), .int .u8 h] w fun e w' => ∃ B, e = .returned (.tuple #[raV W H (.slice (some ⟨B, 0, none⟩) l.length l.length), .nilIface]) ∧ At w' B (ir (bothL h l l')) ∧ w.heap.size ≤ B ∧ Gr w w' := by
  refine (both_kn g h hk w hs hs' ll ll' hl hc).mono ?_
  rintro e w' ⟨hG, ⟨_, B, rfl, hA, hP⟩ | ⟨h1, _⟩⟩
  · exact ⟨B, rfl, hA, hP, hG⟩
  · exact absurd hv h1
set_option maxRecDepth 4000 in
set_option maxHeartbeats 4000000 in
theorem both_B (g : Nat → Addr) (h : Int) (hk : ¬ knI h) {W H W' H' : Int} {ad ad' : Option Addr} {b b' o o' cap cap' : Nat} {l l' : List Int} (w : World) (hs : ISl w ad b o cap l) (hs' : ISl w ad' b' o' cap' l') (ll : l.length ≤ 20000) (ll' : l'.length ≤ 20000) (hl : Lai w g) (hc : acode W H l W' H' l' = 0) : Calls Tryd.prog 21 #[raV W H (.slice ad l.length cap), raV W' H' (.slice ad' l'.length cap'), .int .u8 h] w fun e w' => e = .returned (.tuple #[raV 0 0 (.slice none 0 0), errV g 2]) ∧ Gr w w' := by
  have C1 := hidb (fun w1 (hB : Gr w w1) => alike_any g (W := W) (H := H) (W' := W') (H' := H') w1 (hs.below hB.out) (hs'.below hB.out) ll ll' (hl.below hB.out))
  rw [hc, show evc g 0 = .nilIface from rfl] at C1
  have C2 := hidb (fun w => oneOf_no h hk w)
  have HL := hidb hl
  have fne : ∀ w, (binOp .eql 51 .nilFunc .nilFunc).run Tryd.prog w = .ok (.bool true) w := fun w => by kernel_rfl
  have G0 := hidb ((((Gr.refl w).alloc (.cells #[.int .i64 W, .int .i64 H, .slice ad l.length cap] 27)).alloc (.cells #[.int .i64 W', .int .i64 H', .slice ad' l'.length cap'] 27)).alloc (.cells #[.int .i64 0, .int .i64 0, .slice none 0 0] 27))
  have A0 := hidb (At.ny3 (W := w) (.cells #[.int .i64 W, .int .i64 H, .slice ad l.length cap] 27) (.cells #[.int .i64 W', .int .i64 H', .slice ad' l'.length cap'] 27) (.int .i64 0) (.int .i64 0) (.slice none 0 0) 27)
  clear hs hs' ll ll' hl hc hk
  go_enter Tryd.func21, Tryd.ntmps21
  go_wp2_with fail
  refine (C1.out _ G0.out).mono ?_
  rintro e w1 ⟨rfl, hB⟩
  replace G0 := hidb (Gr.step G0.out hB)
  have A1 := At.below hB.out A0.out
  obtain ⟨a0, a1, a2⟩ := A1.c3
  obtain ⟨f0, f1, f2⟩ := A1.f3
  have AH := A1.has (n := 3) rfl
  have cE : w1.cell? ⟨1, 0, none⟩ = some (errV g 2) := (HL.out.below G0.out.out).cell 2 (by decide)
  have hne : ¬ w.heap.size + 1 + 1 = 1 := by have : 1 < w.heap.size := lt_of_cell (HL.out.cell 2 (by decide)); omega
  have hne' : ¬ 1 = w.heap.size + 1 + 1 := fun e => hne e.symm
  clear hB A0 A1
  go_wp2_with fail
  refine (C2.out _).mono ?_
  rintro e w2 ⟨rfl, rfl⟩
  go_upto_region 6 with fail
  go_region
  all_goals
    go_wp2
    refine bodyPost_ret (v := .tuple #[raV 0 0 (.slice none 0 0), errV g 2]) (by simp [results, Tryd.results21, go_sem, a0, a1, a2]) rfl ⟨rfl, ?_⟩
    first | exact ((G0.out.set (by omega) _ _).set (by omega) _ _).set (by omega) _ _ | exact (((G0.out.set (by omega) _ _).set (by omega) _ _).set (by omega) _ _).drew | exact (((G0.out.set (by omega) _ _).set (by omega) _ _).set (by omega) _ _).drewN _ | exact ((G0.out.drew.set (by omega) _ _).set (by omega) _ _).set (by omega) _ _
set_option maxRecDepth 4000 in
set_option maxHeartbeats 4000000 in
theorem rasters_any (g : Nat → Addr) (w : World) (hl : Lai w g) : Calls Tryd.prog 6 #[] w fun e w' => e = .returned (.bool true) ∧ Gr w w' := by
  have G0 := hidb (((Gr.refl w).alloc (.cells #[.int .i64 3] 3)).alloc (.cells #[.int .i64 1, .int .i64 1, .slice (some ⟨w.heap.size, 0, none⟩) 1 1] 27))
  have A0 := hidb (((At.new1 w (.int .i64 3) 3).alloc (.cells #[.int .i64 1, .int .i64 1, .slice (some ⟨w.heap.size, 0, none⟩) 1 1] 27)).isl (l := [3]) 1)
  have HL := hidb hl
  have CB := hidb (fun W (hG : Gr w W) (hA : ISl W (some ⟨w.heap.size, 0, none⟩) w.heap.size 0 1 [3]) => both_D g 43 (.inl rfl) (W := 1) (H := 1) (W' := 1) (H' := 1) W (l := [3]) (l' := [3]) hA hA (by decide) (by decide) (hl.below (Gr.out hG)) (by decide) (by decide))
  clear hl
  go_enter Tryd.func6, Tryd.ntmps6
  go_wp2_with fail
  refine (CB.out _ G0.out A0.out).mono ?_
  rintro e w1 ⟨B, rfl, hAB, _, hB⟩
  have G1 := hidb ((Gr.step G0.out hB.out).alloc (.cells #[.int .i64 1, .int .i64 1, .slice (some ⟨B, 0, none⟩) 1 1] 27))
  have AB := hidb (hAB.alloc (.cells #[.int .i64 1, .int .i64 1, .slice (some ⟨B, 0, none⟩) 1 1] 27))
  clear hB hAB G0 A0 CB
  have CI := hidb (fun W hA hA' => is_any 1 1 (l := [6]) (ad := some ⟨B, 0, none⟩) (ad' := some ⟨w1.heap.size + 1, 0, none⟩) (b := B) (b' := w1.heap.size + 1) (o := 0) (o' := 0) (cap := 1) (cap' := 1) (by decide) W hA hA')
  have G2 := hidb (G1.out.alloc (.cells #[.int .i64 6] 3))
  have A2 := hidb ((AB.out.alloc (.cells #[.int .i64 6] 3)).isl (l := [6]) 1)
  have A3 := hidb ((At.nx1 (W := w1) (.cells #[.int .i64 1, .int .i64 1, .slice (some ⟨B, 0, none⟩) 1 1] 27) (.int .i64 6) 3).isl (l := [6]) 1)
  clear G1 AB
  go_wp2_with fail
  refine (CI.out _ A2.out A3.out).mono ?_
  rintro e w2 ⟨rfl, hB⟩
  have G3 := hidb (Gr.step G2.out hB.out)
  clear hB
  go_wp2
  go_ret
  exact ⟨rfl, G3.out⟩
end Go.Proofs.YtphpfongdbidoaaDoor
