/-
  drain.Streams, Strahler: what is refused.; DrainStreams: the ways in which little is looked at.
-/
import Derived.Test.YtlhligeicnejbaaDoorQDsG
import Derived.Test.YtlhligeicnejbaaDoorQDsH
import Derived.Test.YtlhligeicnejbaaDoorQDsF
import Derived.Test.YtlhligeicnejbaaDoorQDrV
namespace Go.Proofs.YtlhligeicnejbaaDoor
open Go.RowKit
attribute [local go_sem ↓] Go.wp_at_zero Go.wp_at_succ

set_option maxRecDepth 4000 in
set_option maxHeartbeats 4000000 in
theorem streamsOf_no (g : Nat → Addr) {W H : Int} {ad : Option Addr} {b o cap : Nat} {l : List Int} (q : Int) (w : World) (h : ISl w ad b o cap l) (ll : l.length ≤ 20000) (hl : Lai w g) (hv : ¬ vcode W H l = 0) : Calls Tryd.prog 15 #[raV W H (.slice ad l.length cap), .int .i64 q] w fun e w' => e = .returned (.tuple #[.agg #[.pointer none, .slice none 0 0, .slice none 0 0], errV g (vcode W H l - 1)]) ∧ Gr w w' := by
  have PX : Hid (PF w ((w.alloc (.cells #[.int .i64 W, .int .i64 H, .slice ad l.length cap] 32)).alloc (.cells #[.pointer none, .slice none 0 0, .slice none 0 0] 49)) w.heap.size [.int .i64 W, .int .i64 H, .slice ad l.length cap]) := ⟨(At.new3 _ _ _ _ _).alloc _, ((Gr.refl w).alloc _).alloc _⟩
  have PR : Hid (At ((w.alloc (.cells #[.int .i64 W, .int .i64 H, .slice ad l.length cap] 32)).alloc (.cells #[.pointer none, .slice none 0 0, .slice none 0 0] 49)) (w.heap.size + 1) [.pointer none, .slice none 0 0, .slice none 0 0]) := At.nx3 _ _ _ _ _
  have C1 := hidb (valid_lai g W H ad b o cap l _ (h.below PX.out.gr.out) ll (hl.below PX.out.gr.out))
  rw [evc_of hv] at C1
  generalize vcode W H l - 1 = ei at *
  clear h ll hl hv
  unfold raV at C1 ⊢
  go_enter Tryd.func15, Tryd.ntmps15
  go_upto_region 1 with fail
  generalize (w.alloc (.cells #[.int .i64 W, .int .i64 H, .slice ad l.length cap] 32)).alloc (.cells #[.pointer none, .slice none 0 0, .slice none 0 0] 49) = w1 at *
  obtain ⟨T, hT⟩ : ∃ z, z = w.heap.size := ⟨_, rfl⟩
  obtain ⟨R, hR⟩ : ∃ z, z = w.heap.size + 1 := ⟨_, rfl⟩
  have HR := hidb (show w.heap.size ≤ R by omega)
  rw [← hR] at PR ⊢
  rw [← hT] at PX ⊢
  clear hR hT
  obtain ⟨q0, q1, q2⟩ := PX.out.a.c3
  go_wp2_with fail
  refine C1.out.mono ?_
  rintro e w2 ⟨rfl, hB⟩
  clear q0 q1 q2
  have PR2 := At.below hB.out PR.out
  obtain ⟨x0, x1, x2⟩ := PR2.c3
  obtain ⟨y0, y1, y2⟩ := PR2.f3
  have HG := hidb (Gr.step PX.out.gr hB.out)
  clear PR2 hB
  go_wp2
  refine bodyPost_ret (v := .tuple #[.agg #[.pointer none, .slice none 0 0, .slice none 0 0], errV g ei]) (by simp [results, Tryd.results15, go_sem, x0, x1, x2]) rfl ⟨rfl, ?_⟩
  exact ((HG.out.set HR.out _ _).set HR.out _ _).set HR.out _ _
set_option maxRecDepth 4000 in
set_option maxHeartbeats 4000000 in
theorem streamsOf_bad (g : Nat → Addr) {m n Lb Lo Lcap : Nat} {l : List Int} (q : Int) (hq : ¬ 1 ≤ q) (w : World) (hR : Rs w Lb Lo Lcap l) (ok : Ok l m n) (hv : vcode m n l = 0) (hl : Lai w g) : Calls Tryd.prog 15 #[raV m n (.slice (some ⟨Lb, Lo, none⟩) l.length Lcap), .int .i64 q] w fun e w' => e = .returned (.tuple #[.agg #[.pointer none, .slice none 0 0, .slice none 0 0], errV g 2]) ∧ Gr w w' := by
  have hlen := ok.len_le
  have PX : Hid (PF w ((w.alloc (.cells #[.int .i64 (m : Int), .int .i64 (n : Int), .slice (some ⟨Lb, Lo, none⟩) l.length Lcap] 32)).alloc (.cells #[.pointer none, .slice none 0 0, .slice none 0 0] 49)) w.heap.size [.int .i64 (m : Int), .int .i64 (n : Int), .slice (some ⟨Lb, Lo, none⟩) l.length Lcap]) := ⟨(At.new3 _ _ _ _ _).alloc _, ((Gr.refl w).alloc _).alloc _⟩
  have PR : Hid (At ((w.alloc (.cells #[.int .i64 (m : Int), .int .i64 (n : Int), .slice (some ⟨Lb, Lo, none⟩) l.length Lcap] 32)).alloc (.cells #[.pointer none, .slice none 0 0, .slice none 0 0] 49)) (w.heap.size + 1) [.pointer none, .slice none 0 0, .slice none 0 0]) := At.nx3 _ _ _ _ _
  have C1 := hidb (valid_lai g m n _ Lb Lo Lcap l _ (hR.below PX.out.gr.out).isl (by omega) (hl.below PX.out.gr.out))
  rw [hv, show evc g 0 = .nilIface from rfl] at C1
  have HLa := hidb hl
  have hq' : q < 1 := by omega
  have hne : ¬ w.heap.size + 1 = 0 := by
    have := World.block_lt_of_cell? w _ (show w.cell? ⟨0, 0, none⟩ = some (errV g 2) from hl.cell 2 (by decide))
    dsimp only at this
    omega
  clear hR ok hv hlen hq
  unfold raV at C1 ⊢
  go_enter Tryd.func15, Tryd.ntmps15
  go_upto_region 1 with fail
  generalize (w.alloc (.cells #[.int .i64 (m : Int), .int .i64 (n : Int), .slice (some ⟨Lb, Lo, none⟩) l.length Lcap] 32)).alloc (.cells #[.pointer none, .slice none 0 0, .slice none 0 0] 49) = w1 at *
  obtain ⟨T, hT⟩ : ∃ z, z = w.heap.size := ⟨_, rfl⟩
  obtain ⟨R, hR⟩ : ∃ z, z = w.heap.size + 1 := ⟨_, rfl⟩
  have HR := hidb (show w.heap.size ≤ R by omega)
  rw [← hR] at PR hne ⊢
  rw [← hT] at PX ⊢
  clear hR hT
  have hne2 : ¬ 0 = R := fun e => hne e.symm
  obtain ⟨q0, q1, q2⟩ := PX.out.a.c3
  go_wp2_with fail
  refine C1.out.mono ?_
  rintro e w2 ⟨rfl, hB⟩
  clear q0 q1 q2
  have PR2 := At.below hB.out PR.out
  obtain ⟨x0, x1, x2⟩ := PR2.c3
  obtain ⟨y0, y1, y2⟩ := PR2.f3
  have HG := hidb (Gr.step PX.out.gr hB.out)
  have cE := (show World.cell? _ ⟨0, 0, none⟩ = some (errV g 2) from (HLa.out.below HG.out.out).cell 2 (by decide))
  clear PR2 hB
  go_upto_region 5 with fail
  go_region
  all_goals
    go_wp2
    refine bodyPost_ret (v := .tuple #[.agg #[.pointer none, .slice none 0 0, .slice none 0 0], errV g 2]) (by simp [results, Tryd.results15, go_sem, x0, x1, x2]) rfl ⟨rfl, ?_⟩
    first | exact ((HG.out.drew.set HR.out _ _).set HR.out _ _).set HR.out _ _ | exact (((HG.out.set HR.out _ _).set HR.out _ _).set HR.out _ _).drew
set_option maxRecDepth 4000 in
set_option maxHeartbeats 4000000 in
theorem streams_err (g : Nat → Addr) {W H : Int} {v : Value} (q : Int) (i : Nat) (w : World) (hs : ∀ W2, Gr w W2 → Calls Tryd.prog 15 #[raV W H v, .int .i64 q] W2 fun e w' => e = .returned (.tuple #[.agg #[.pointer none, .slice none 0 0, .slice none 0 0], errV g i]) ∧ Gr W2 w') : Calls Tryd.prog 6 #[raV W H v, .int .i64 q] w fun e w' => e = .returned (.tuple #[.slice none 0 0, errV g i]) ∧ Gr w w' := by
  have PX : Hid (PF w (w.alloc (.cells #[.int .i64 W, .int .i64 H, v] 32)) w.heap.size [.int .i64 W, .int .i64 H, v]) := ⟨At.new3 _ _ _ _ _, (Gr.refl w).alloc _⟩
  have C1 := hidb (hs _ PX.out.gr)
  clear hs
  unfold raV at C1 ⊢
  go_enter Tryd.func6, Tryd.ntmps6
  go_upto_region 1 with fail
  generalize w.alloc (.cells #[.int .i64 W, .int .i64 H, v] 32) = w1 at *
  obtain ⟨q0, q1, q2⟩ := PX.out.a.c3
  go_wp2_with fail
  refine C1.out.mono ?_
  rintro e w2 ⟨rfl, hB⟩
  have HG := hidb (Gr.step PX.out.gr hB.out)
  clear q0 q1 q2 hB
  go_wp2
  go_ret2
  exact ⟨rfl, HG.out.alloc _⟩
set_option maxRecDepth 4000 in
set_option maxHeartbeats 4000000 in
theorem strahler_err (g : Nat → Addr) {W H : Int} {v : Value} (q : Int) (i : Nat) (w : World) (hs : ∀ W2, Gr w W2 → Calls Tryd.prog 15 #[raV W H v, .int .i64 q] W2 fun e w' => e = .returned (.tuple #[.agg #[.pointer none, .slice none 0 0, .slice none 0 0], errV g i]) ∧ Gr W2 w') : Calls Tryd.prog 7 #[raV W H v, .int .i64 q] w fun e w' => e = .returned (.tuple #[.slice none 0 0, errV g i]) ∧ Gr w w' := by
  have PX : Hid (PF w (w.alloc (.cells #[.int .i64 W, .int .i64 H, v] 32)) w.heap.size [.int .i64 W, .int .i64 H, v]) := ⟨At.new3 _ _ _ _ _, (Gr.refl w).alloc _⟩
  have C1 := hidb (hs _ PX.out.gr)
  clear hs
  unfold raV at C1 ⊢
  go_enter Tryd.func7, Tryd.ntmps7
  go_upto_region 1 with fail
  generalize w.alloc (.cells #[.int .i64 W, .int .i64 H, v] 32) = w1 at *
  obtain ⟨q0, q1, q2⟩ := PX.out.a.c3
  go_wp2_with fail
  refine C1.out.mono ?_
  rintro e w2 ⟨rfl, hB⟩
  have HG := hidb (Gr.step PX.out.gr hB.out)
  clear q0 q1 q2 hB
  go_wp2
  go_ret2
  exact ⟨rfl, HG.out.alloc _⟩
end Go.Proofs.YtlhligeicnejbaaDoor
namespace Go.Proofs.YtlhligeicnejbaaDoor
open Go.RowKit
attribute [local go_sem ↓] Go.wp_at_zero Go.wp_at_succ

set_option maxRecDepth 4000 in
set_option maxHeartbeats 4000000 in
theorem dstreams_no (g : Nat → Addr) (u c : Value) (w : World) (hl : Laid w g) (h1 : ∀ W, Gr w W → Calls Tryd.prog 5 #[u] W fun e w' => e = .returned (.bool false) ∧ w' = W) : Calls Tryd.prog 3 #[u, c] w fun e w' => e = .returned (.bool true) ∧ Gr w w' := by
  have CR := hidb (drains_any g w hl.lai)
  have S1 := hidb h1
  clear hl h1
  go_enter Tryd.func3, Tryd.ntmps3
  go_wp2_with fail
  refine CR.out.mono ?_
  rintro e w1 ⟨rfl, hB⟩
  have G := hidb hB
  clear hB
  go_wp2_with fail
  refine (S1.out _ G.out).mono ?_
  rintro e w2 ⟨rfl, rfl⟩
  go_wp2
  go_ret
  exact ⟨rfl, G.out⟩
set_option maxRecDepth 4000 in
set_option maxHeartbeats 8000000 in
theorem dstreams_A (g : Nat → Addr) {pb po : Nat} {W H : Int} {ad : Option Addr} {b o cap : Nat} {l : List Int} (q : Int) (w : World) (hl : Laid w g) (hR : Rin w pb po W H ad b o cap l) (ll : l.length ≤ 80) (hv : ¬ vcode W H l = 0) : Calls Tryd.prog 3 #[.pointer (some ⟨pb, po, none⟩), .int .i64 q] w fun e w' => e = .returned (.bool true) ∧ Gr w w' := by
  have CR := hidb (drains_any g w hl.lai)
  have S1 := hidb (fun W1 (hG : Gr w W1) => small4_any pb po W H ad l.length cap W1 (hR.below hG).pt)
  rw [decide_eq_true ll] at S1
  have C1 := hidb (fun W1 (hG : Gr w W1) => streams_err g q (vcode W H l - 1) W1 (fun W2 h2 => streamsOf_no g q W2 (hR.below (Gr.step hG h2.out)).sl (by omega) (hl.below (Gr.step hG h2.out).out).lai hv))
  have C2 := hidb (fun W1 (hG : Gr w W1) => strahler_err g q (vcode W H l - 1) W1 (fun W2 h2 => streamsOf_no g q W2 (hR.below (Gr.step hG h2.out)).sl (by omega) (hl.below (Gr.step hG h2.out).out).lai hv))
  have CW := hidb (fun W1 (hG : Gr w W1) => rasterError_any pb po W H ad b o cap l W1 (hR.below hG).pt (hR.below hG).sl (by omega))
  have hc8 : vcode W H l ≤ 8 := by unfold vcode; split; omega; split; omega; split <;> omega
  have CE := hidb (fun W1 (hG : Gr w W1) => coded_evc g (vcode W H l) hc8 W1 (hl.below hG.out))
  rw [evc_of hv] at CE
  have HR := hidb hR
  have hv' : (0 : Int) < (vcode W H l : Int) := by omega
  obtain ⟨vc, hvc⟩ : ∃ z : Int, z = (vcode W H l : Int) := ⟨_, rfl⟩
  rw [← hvc] at CW CE hv'
  have hv0 : ¬ vc = 0 := by omega
  generalize vcode W H l - 1 = ei at *
  clear hl hR ll hv hc8 hvc
  unfold raV at C1 C2
  go_enter Tryd.func3, Tryd.ntmps3
  go_wp2_with fail
  refine CR.out.mono ?_
  rintro e w1 ⟨rfl, hB⟩
  have G := hidb hB
  clear hB
  go_wp2_with fail
  refine (S1.out _ G.out).mono ?_
  rintro e w2 ⟨rfl, rfl⟩
  obtain ⟨p0, p1, p2⟩ := (HR.out.below G.out).pt.all
  go_wp2_with fail
  refine (C1.out _ G.out).mono ?_
  rintro e w3 ⟨rfl, hB3⟩
  replace G := hidb (Gr.step G.out hB3.out)
  clear hB3 p0 p1 p2
  obtain ⟨p0, p1, p2⟩ := (HR.out.below G.out).pt.all
  go_wp2_with fail
  refine (C2.out _ G.out).mono ?_
  rintro e w5 ⟨rfl, hB5⟩
  replace G := hidb (Gr.step G.out hB5.out)
  clear hB5 p0 p1 p2
  go_wp2_with fail
  refine (CW.out _ G.out).mono ?_
  rintro e w7 ⟨rfl, hB7⟩
  replace G := hidb (Gr.step G.out hB7.out)
  clear hB7
  go_wp2_with fail
  refine (CE.out _ G.out).mono ?_
  rintro e w8 ⟨rfl, hB8⟩
  replace G := hidb (Gr.step G.out hB8.out)
  clear hB8
  go_wp2_with fail
  refine (CE.out _ G.out).mono ?_
  rintro e w9 ⟨rfl, hB9⟩
  replace G := hidb (Gr.step G.out hB9.out)
  clear hB9
  go_wp2
  go_ret
  exact ⟨rfl, G.out⟩
set_option maxRecDepth 4000 in
set_option maxHeartbeats 8000000 in
theorem dstreams_B (g : Nat → Addr) {m n pb po b o cap : Nat} {l : List Int} (q : Int) (hq : ¬ 1 ≤ q) (w : World) (hl : Laid w g) (hR : Rin w pb po m n (some ⟨b, o, none⟩) b o cap l) (hr : Rs w b o cap l) (ok : Ok l m n) (ll : l.length ≤ 80) (hv : vcode m n l = 0) : Calls Tryd.prog 3 #[.pointer (some ⟨pb, po, none⟩), .int .i64 q] w fun e w' => e = .returned (.bool true) ∧ Gr w w' := by
  have CR := hidb (drains_any g w hl.lai)
  have S1 := hidb (fun W1 (hG : Gr w W1) => small4_any pb po m n (some ⟨b, o, none⟩) l.length cap W1 (hR.below hG).pt)
  rw [decide_eq_true ll] at S1
  have C1 := hidb (fun W1 (hG : Gr w W1) => streams_err g q 2 W1 (fun W2 h2 => streamsOf_bad g q hq W2 (hr.below (Gr.step hG h2.out).out) ok hv (hl.below (Gr.step hG h2.out).out).lai))
  have C2 := hidb (fun W1 (hG : Gr w W1) => strahler_err g q 2 W1 (fun W2 h2 => streamsOf_bad g q hq W2 (hr.below (Gr.step hG h2.out).out) ok hv (hl.below (Gr.step hG h2.out).out).lai))
  have CW := hidb (fun W1 (hG : Gr w W1) => rasterError_any pb po m n (some ⟨b, o, none⟩) b o cap l W1 (hR.below hG).pt (hR.below hG).sl (by omega))
  rw [hv] at CW
  have CE := hidb (fun W1 (hG : Gr w W1) => coded_evc g 3 (by decide) W1 (hl.below hG.out))
  rw [show evc g 3 = errV g 2 from rfl] at CE
  have HR := hidb hR
  have hq' : q < 1 := by omega
  clear hl hR hr ok ll hv hq
  unfold raV at C1 C2
  go_enter Tryd.func3, Tryd.ntmps3
  go_wp2_with fail
  refine CR.out.mono ?_
  rintro e w1 ⟨rfl, hB⟩
  have G := hidb hB
  clear hB
  go_wp2_with fail
  refine (S1.out _ G.out).mono ?_
  rintro e w2 ⟨rfl, rfl⟩
  obtain ⟨p0, p1, p2⟩ := (HR.out.below G.out).pt.all
  go_wp2_with fail
  refine (C1.out _ G.out).mono ?_
  rintro e w3 ⟨rfl, hB3⟩
  replace G := hidb (Gr.step G.out hB3.out)
  clear hB3 p0 p1 p2
  obtain ⟨p0, p1, p2⟩ := (HR.out.below G.out).pt.all
  go_wp2_with fail
  refine (C2.out _ G.out).mono ?_
  rintro e w5 ⟨rfl, hB5⟩
  replace G := hidb (Gr.step G.out hB5.out)
  clear hB5 p0 p1 p2
  go_wp2_with fail
  refine (CW.out _ G.out).mono ?_
  rintro e w7 ⟨rfl, hB7⟩
  replace G := hidb (Gr.step G.out hB7.out)
  clear hB7
  go_wp2_with fail
  refine (CE.out _ G.out).mono ?_
  rintro e w8 ⟨rfl, hB8⟩
  replace G := hidb (Gr.step G.out hB8.out)
  clear hB8
  go_wp2_with fail
  refine (CE.out _ G.out).mono ?_
  rintro e w9 ⟨rfl, hB9⟩
  replace G := hidb (Gr.step G.out hB9.out)
  clear hB9
  go_wp2
  go_ret
  exact ⟨rfl, G.out⟩
end Go.Proofs.YtlhligeicnejbaaDoor
