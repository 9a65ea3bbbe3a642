/-
  sight.right, lineOf.
-/
import Derived.Test.YtpdiefmmenfpaaaDoorQSiB
namespace Go.Proofs.YtpdiefmmenfpaaaDoor
open Go.RowKit
attribute [local go_sem ↓] Go.wp_at_zero Go.wp_at_succ

/-- A look's value; is it right? -/
abbrev loV (f t e u : Int) : Value := .agg #[.int .i64 f, .int .i64 t, .int .i64 e, .int .i64 u]
def loB (N : Nat) (f t e u : Int) : Bool := inI 0 ((N : Int) - 1) f && (inI 0 ((N : Int) - 1) t && (inI 0 1048576 e && inI 0 1048576 u))
/-- Two boxes of a call's own. -/
structure KG (w W : World) (B : Nat) (k0 k1 : List Value) : Prop where
  a0 : At W B k0
  a1 : At W (B + 1) k1
  gr : Gr w W
theorem KG.below {w W w' : World} {B : Nat} {k0 k1 : List Value} (h : KG w W B k0 k1) (hB : Below W.heap.size W w') : KG w w' B k0 k1 := ⟨h.a0.below hB, h.a1.below hB, Gr.step h.gr hB⟩
theorem KG.new (w : World) (a b c d e f g : Value) (t t' : Nat) : KG w ((w.alloc (.cells #[a, b, c] t)).alloc (.cells #[d, e, f, g] t')) w.heap.size [a, b, c] [d, e, f, g] := ⟨(At.new3 w a b c t).alloc _, At.nx4 _ d e f g t', ((Gr.refl w).alloc _).alloc _⟩
set_option maxRecDepth 4000 in
set_option maxHeartbeats 4000000 in
theorem right_no (g : Nat → Addr) {W H : Int} {ad : Option Addr} {b o cap : Nat} {l : List Int} (f t e u : Int) (w : World) (h : ISl w ad b o cap l) (ll : l.length ≤ 20000) (hl : Lai w g) (hv : ¬ vcode W H l = 0) : Calls Tryd.prog 37 #[raV W H (.slice ad l.length cap), loV f t e u] w fun e w' => e = .returned (errV g (vcode W H l - 1)) ∧ Gr w w' := by
  have F := hidb (KG.new w (.int .i64 W) (.int .i64 H) (.slice ad l.length cap) (.int .i64 f) (.int .i64 t) (.int .i64 e) (.int .i64 u) 35 50)
  have C1 := hidb (valid_lai g W H ad b o cap l _ (h.below F.out.gr.out) ll (hl.below F.out.gr.out))
  rw [evc_of hv] at C1
  generalize vcode W H l - 1 = ei at *
  clear h ll hl hv
  go_enter Tryd.func37, Tryd.ntmps37
  obtain ⟨q0, q1, q2⟩ := F.out.a0.c3
  go_wp2_with fail
  refine C1.out.mono ?_
  rintro e w1 ⟨rfl, hB⟩
  have G := hidb (Gr.step F.out.gr hB.out)
  clear hB F q0 q1 q2 C1
  go_wp2
  go_ret
  exact ⟨rfl, G.out⟩
set_option maxRecDepth 4000 in
set_option maxHeartbeats 8000000 in
theorem right_any (g : Nat → Addr) {m n b o cap : Nat} {l : List Int} (f t e u : Int) (w : World) (h : Rs w b o cap l) (ok : Ok l m n) (hv : vcode m n l = 0) (hl : Lai w g) : Calls Tryd.prog 37 #[raV m n (.slice (some ⟨b, o, none⟩) l.length cap), loV f t e u] w fun ee w' => ee = .returned (if loB l.length f t e u = true then .nilIface else errV g 3) ∧ Gr w w' := by
  have hlen := ok.len_le
  have F := hidb (KG.new w (.int .i64 m) (.int .i64 n) (.slice (some ⟨b, o, none⟩) l.length cap) (.int .i64 f) (.int .i64 t) (.int .i64 e) (.int .i64 u) 35 50)
  have C1 := hidb (valid_lai g m n (some ⟨b, o, none⟩) b o cap l _ (h.isl.below F.out.gr.out) (by omega) (hl.below F.out.gr.out))
  rw [hv, show evc g 0 = .nilIface from rfl] at C1
  obtain ⟨N1, hN1, e1⟩ : ∃ z : Int, z = (l.length : Int) - 1 ∧ IntKind.i64.wrap ((l.length : Int) - 1) = z := ⟨_, rfl, wrap_in (by omega) (by omega)⟩
  have D1 := hidb (fun W => swithin_any f 0 N1 W)
  have D2 := hidb (fun W => swithin_any t 0 N1 W)
  have D3 := hidb (fun W => swithin_any e 0 1048576 W)
  have D4 := hidb (fun W => swithin_any u 0 1048576 W)
  unfold loB
  rw [← hN1]
  have HL := hidb (fun W (hG : Gr w W) => (hl.below hG.out).cell 3 (by decide))
  have HV := hidb (lt_of_cell (hl.cell 3 (by decide)))
  generalize inI 0 N1 f = b1 at *
  generalize inI 0 N1 t = b2 at *
  generalize inI 0 1048576 e = b3 at *
  generalize inI 0 1048576 u = b4 at *
  generalize l.length = N at *
  clear h ok hv hl hN1 hlen
  go_enter Tryd.func37, Tryd.ntmps37
  obtain ⟨q0, q1, q2⟩ := F.out.a0.c3
  go_wp2_with fail
  refine C1.out.mono ?_
  rintro ee w1 ⟨rfl, hB⟩
  replace F := hidb (F.out.below hB.out)
  clear hB q0 q1 q2 C1
  obtain ⟨q0, q1, q2⟩ := F.out.a0.c3
  obtain ⟨r0, r1, r2, r3⟩ := F.out.a1.c4
  have cE : w1.cell? ⟨0, 0, none⟩ = some (errV g 3) := HL.out w1 F.out.gr
  have G := hidb F.out.gr
  clear F HL HV
  go_wp2_with fail
  refine (D1.out _).mono ?_
  rintro ee w2 ⟨rfl, rfl⟩
  cases b1
  · go_wp2
    go_ret
    exact ⟨by simp, G.out⟩
  · go_wp2_with fail
    refine (D2.out _).mono ?_
    rintro ee w2 ⟨rfl, rfl⟩
    cases b2
    · go_wp2
      go_ret
      exact ⟨by simp, G.out⟩
    · go_wp2_with fail
      refine (D3.out _).mono ?_
      rintro ee w2 ⟨rfl, rfl⟩
      cases b3
      · go_wp2
        go_ret
        exact ⟨by simp, G.out⟩
      · go_wp2_with fail
        refine (D4.out _).mono ?_
        rintro ee w2 ⟨rfl, rfl⟩
        cases b4
        · go_wp2
          go_ret
          exact ⟨by simp, G.out⟩
        · go_wp2
          go_ret
          exact ⟨by simp, G.out⟩
end Go.Proofs.YtpdiefmmenfpaaaDoor
