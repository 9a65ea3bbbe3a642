/-
  sight.Stops where something is wrong.
-/
import Derived.Test.YtpdiefmmenfpaaaDoorQSsH
namespace Go.Proofs.YtpdiefmmenfpaaaDoor
open Go.RowKit Go.Shelf
attribute [local go_sem] Oper.semAt_some

set_option maxRecDepth 100000 in
set_option maxHeartbeats 4000000 in
theorem stops_no (g : Nat → Addr) {W H : Int} {ad : Option Addr} {b o cap : Nat} {l : List Int} (f t e u : Int) (w : World) (h : ISl w ad b o cap l) (ll : l.length ≤ 20000) (hl : Lai w g) (hv : ¬ vcode W H l = 0) : Calls Tryd.prog 20 #[raV W H (.slice ad l.length cap), loV f t e u] w fun e w' => e = .returned (.tuple #[.slice none 0 0, errV g (vcode W H l - 1)]) ∧ Gr w w' := by
  have C1 := hidb (fun W' (hG : Gr w W') => right_no g f t e u W' (h.below hG.out) ll (hl.below hG.out) hv)
  generalize vcode W H l - 1 = ei at *
  clear h ll hl hv
  have F0 := hidb (KG.new w (.int .i64 W) (.int .i64 H) (.slice ad l.length cap) (.int .i64 f) (.int .i64 t) (.int .i64 e) (.int .i64 u) 35 50)
  have F := hidb ((F0.out.below ((Gr.refl _).alloc (.cells #[.slice none 0 0] 36)).out).below ((Gr.refl _).alloc (.cells #[.nilIface] 30)).out)
  have R2 := hidb ((At.ny1 (W := w) (.cells #[.int .i64 W, .int .i64 H, (.slice ad l.length cap)] 35) (.cells #[.int .i64 f, .int .i64 t, .int .i64 e, .int .i64 u] 50) (.slice none 0 0) 36).alloc (.cells #[.nilIface] 30))
  have R3 := hidb (At.nz1 (W := w) (.cells #[.int .i64 W, .int .i64 H, (.slice ad l.length cap)] 35) (.cells #[.int .i64 f, .int .i64 t, .int .i64 e, .int .i64 u] 50) (.cells #[.slice none 0 0] 36) .nilIface 30)
  clear F0
  refine (callsIn_wide (n := 3)).1 ?_
  refine callsIn_of_wp_marks Tryd.func20 rfl trivial ?_ rfl
  simp only [Tryd.ntmps20, List.size_toArray, List.length_cons, List.length_nil, Nat.reduceAdd, Nat.reduceSub, Array.replicate_succ, Array.replicate_zero, List.push_toArray, List.append_toArray, List.nil_append, List.cons_append]
  obtain ⟨q0, q1, q2⟩ := F.out.a0.c3
  obtain ⟨s0, s1, s2, s3⟩ := F.out.a1.c4
  gi_wp2_with fail
  refine ⟨trivial, (callsIn_wide.2 (C1.out _ F.out.gr)).mono ?_⟩
  rintro ee w1 ⟨rfl, hB⟩
  replace F := hidb (F.out.below hB.out)
  replace R2 := hidb (R2.out.below hB.out)
  replace R3 := hidb (R3.out.below hB.out)
  clear hB q0 q1 q2 C1 s0 s1 s2 s3
  have p0 := R2.out.c1
  have p1 := R2.out.fz1
  have p2 := R3.out.c1
  have p3 := R3.out.fz1
  gi_wp2
  have A2 := (At.fill1 (R2.out.has rfl) (.slice none 0 0)).skip (c := w.heap.size + 1 + 1 + 1) (by omega) 0 (errV g ei)
  have A3 := At.fill1 ((R3.out.skip (c := w.heap.size + 1 + 1) (by omega) 0 (.slice none 0 0)).has rfl) (errV g ei)
  have c2 := A2.c1
  have c3 := A3.c1
  refine ⟨.tuple #[.slice none 0 0, errV g ei], ?_, rfl, hidb ((F.out.gr.out.setCell (p := ⟨w.heap.size + 1 + 1, 0, none⟩) (by simp; omega) _).setCell (p := ⟨w.heap.size + 1 + 1 + 1, 0, none⟩) (by simp; omega) _)⟩
  simp [results, Tryd.f20, go_sem, c2, c3]
set_option maxRecDepth 100000 in
set_option maxHeartbeats 4000000 in
theorem stops_bad (g : Nat → Addr) {m n b o cap : Nat} {l : List Int} (f t e u : Int) (w : World) (h : Rs w b o cap l) (ok : Ok l m n) (hv : vcode m n l = 0) (hl : Lai w g) (hb : loB l.length f t e u = false) : Calls Tryd.prog 20 #[raV m n (.slice (some ⟨b, o, none⟩) l.length cap), loV f t e u] w fun e w' => e = .returned (.tuple #[.slice none 0 0, errV g 3]) ∧ Gr w w' := by
  have C1 := hidb (fun W' (hG : Gr w W') => right_any g f t e u W' (h.below hG.out) ok hv (hl.below hG.out))
  rw [hb, if_neg (by decide)] at C1
  clear h ok hl hv hb
  have F0 := hidb (KG.new w (.int .i64 m) (.int .i64 n) (.slice (some ⟨b, o, none⟩) l.length cap) (.int .i64 f) (.int .i64 t) (.int .i64 e) (.int .i64 u) 35 50)
  have F := hidb ((F0.out.below ((Gr.refl _).alloc (.cells #[.slice none 0 0] 36)).out).below ((Gr.refl _).alloc (.cells #[.nilIface] 30)).out)
  have R2 := hidb ((At.ny1 (W := w) (.cells #[.int .i64 m, .int .i64 n, (.slice (some ⟨b, o, none⟩) l.length cap)] 35) (.cells #[.int .i64 f, .int .i64 t, .int .i64 e, .int .i64 u] 50) (.slice none 0 0) 36).alloc (.cells #[.nilIface] 30))
  have R3 := hidb (At.nz1 (W := w) (.cells #[.int .i64 m, .int .i64 n, (.slice (some ⟨b, o, none⟩) l.length cap)] 35) (.cells #[.int .i64 f, .int .i64 t, .int .i64 e, .int .i64 u] 50) (.cells #[.slice none 0 0] 36) .nilIface 30)
  clear F0
  refine (callsIn_wide (n := 3)).1 ?_
  refine callsIn_of_wp_marks Tryd.func20 rfl trivial ?_ rfl
  simp only [Tryd.ntmps20, List.size_toArray, List.length_cons, List.length_nil, Nat.reduceAdd, Nat.reduceSub, Array.replicate_succ, Array.replicate_zero, List.push_toArray, List.append_toArray, List.nil_append, List.cons_append]
  obtain ⟨q0, q1, q2⟩ := F.out.a0.c3
  obtain ⟨s0, s1, s2, s3⟩ := F.out.a1.c4
  gi_wp2_with fail
  refine ⟨trivial, (callsIn_wide.2 (C1.out _ F.out.gr)).mono ?_⟩
  rintro ee w1 ⟨rfl, hB⟩
  replace F := hidb (F.out.below hB.out)
  replace R2 := hidb (R2.out.below hB.out)
  replace R3 := hidb (R3.out.below hB.out)
  clear hB q0 q1 q2 C1 s0 s1 s2 s3
  have p0 := R2.out.c1
  have p1 := R2.out.fz1
  have p2 := R3.out.c1
  have p3 := R3.out.fz1
  gi_wp2
  have A2 := (At.fill1 (R2.out.has rfl) (.slice none 0 0)).skip (c := w.heap.size + 1 + 1 + 1) (by omega) 0 (errV g 3)
  have A3 := At.fill1 ((R3.out.skip (c := w.heap.size + 1 + 1) (by omega) 0 (.slice none 0 0)).has rfl) (errV g 3)
  have c2 := A2.c1
  have c3 := A3.c1
  refine ⟨.tuple #[.slice none 0 0, errV g 3], ?_, rfl, hidb ((F.out.gr.out.setCell (p := ⟨w.heap.size + 1 + 1, 0, none⟩) (by simp; omega) _).setCell (p := ⟨w.heap.size + 1 + 1 + 1, 0, none⟩) (by simp; omega) _)⟩
  simp [results, Tryd.f20, go_sem, c2, c3]
end Go.Proofs.YtpdiefmmenfpaaaDoor
