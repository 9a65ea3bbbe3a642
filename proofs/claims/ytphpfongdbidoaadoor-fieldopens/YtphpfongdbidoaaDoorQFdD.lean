/-
  field.alike.
-/
import Derived.Test.YtphpfongdbidoaaDoorQFdE
namespace Go.Proofs.YtphpfongdbidoaaDoor
open Go.RowKit

theorem errV_ne (g : Nat → Addr) (i : Nat) : ¬ errV g i = .nilIface := by intro h; cases h
theorem evc_ne (g : Nat → Addr) {c : Nat} (h : ¬ c = 0) : ∃ i, evc g c = errV g i := ⟨_, by unfold evc; rw [if_neg h]⟩
set_option maxRecDepth 4000 in
set_option maxHeartbeats 4000000 in
theorem alike_any (g : Nat → Addr) {W H W' H' : Int} {ad ad' : Option Addr} {b b' o o' cap cap' : Nat} {l l' : List Int} (w : World) (h : ISl w ad b o cap l) (h' : ISl w ad' b' o' cap' l') (ll : l.length ≤ 20000) (ll' : l'.length ≤ 20000) (hl : Lai w g) : Calls Tryd.prog 36 #[raV W H (.slice ad l.length cap), raV W' H' (.slice ad' l'.length cap')] w fun e w' => e = .returned (evc g (acode W H l W' H' l')) ∧ Gr w w' := by
  have HL := hidb hl
  have C1 := hidb (fun w1 (hB : Gr w w1) => valid_lai g W H ad b o cap l w1 (h.below hB.out) ll (hl.below hB.out))
  have C2 := hidb (fun w1 (hB : Gr w w1) => valid_lai g W' H' ad' b' o' cap' l' w1 (h'.below hB.out) ll' (hl.below hB.out))
  have G0 := ((Gr.refl w).alloc (.cells #[.int .i64 W, .int .i64 H, .slice ad l.length cap] 27)).alloc (.cells #[.int .i64 W', .int .i64 H', .slice ad' l'.length cap'] 27)
  have A1 := (At.new3 w (.int .i64 W) (.int .i64 H) (.slice ad l.length cap) 27).alloc (.cells #[.int .i64 W', .int .i64 H', .slice ad' l'.length cap'] 27)
  have A2 := At.nx3 (W := w) (.cells #[.int .i64 W, .int .i64 H, .slice ad l.length cap] 27) (.int .i64 W') (.int .i64 H') (.slice ad' l'.length cap') 27
  clear h h' ll ll' hl
  unfold acode
  generalize vcode W H l = e1 at *
  generalize vcode W' H' l' = e2 at *
  by_cases c1 : e1 = 0
  · rw [if_pos c1]
    rw [c1, show evc g 0 = .nilIface from rfl] at C1
    by_cases c2 : e2 = 0
    · rw [if_pos c2]
      rw [c2, show evc g 0 = .nilIface from rfl] at C2
      by_cases c3 : W = W'
      · by_cases c4 : H = H'
        · rw [if_pos ⟨c3, c4⟩]
          subst c3 c4
          clear c1 c2
          have HA1 := hidb A1
          have HA2 := hidb A2
          have HG0 := hidb G0
          clear A1 A2 G0
          go_enter Tryd.func36, Tryd.ntmps36
          go_wp2_with fail
          refine (C1.out _ HG0.out).mono ?_
          rintro e w1 ⟨rfl, hB⟩
          replace HA1 := hidb (At.below hB.out HA1.out)
          replace HA2 := hidb (At.below hB.out HA2.out)
          replace HG0 := hidb (Gr.step HG0.out hB)
          clear hB
          obtain ⟨a0, a1, a2⟩ := HA2.out.c3
          go_wp2_with fail
          clear a0 a1 a2
          refine (C2.out _ HG0.out).mono ?_
          rintro e w2 ⟨rfl, hB⟩
          replace HA1 := hidb (At.below hB.out HA1.out)
          replace HA2 := hidb (At.below hB.out HA2.out)
          replace HG0 := hidb (Gr.step HG0.out hB)
          clear hB
          obtain ⟨a0, a1, a2⟩ := HA1.out.c3
          obtain ⟨b0, b1, b2⟩ := HA2.out.c3
          have cE : w2.cell? ⟨1, 0, none⟩ = some (errV g 2) := (HL.out.below HG0.out.out).cell 2 (by decide)
          go_wp2
          go_ret
          exact ⟨rfl, HG0.out⟩
        · rw [if_neg (fun h => c4 h.2)]
          subst c3
          clear c1 c2
          have HA1 := hidb A1
          have HA2 := hidb A2
          have HG0 := hidb G0
          clear A1 A2 G0
          go_enter Tryd.func36, Tryd.ntmps36
          go_wp2_with fail
          refine (C1.out _ HG0.out).mono ?_
          rintro e w1 ⟨rfl, hB⟩
          replace HA1 := hidb (At.below hB.out HA1.out)
          replace HA2 := hidb (At.below hB.out HA2.out)
          replace HG0 := hidb (Gr.step HG0.out hB)
          clear hB
          obtain ⟨a0, a1, a2⟩ := HA2.out.c3
          go_wp2_with fail
          clear a0 a1 a2
          refine (C2.out _ HG0.out).mono ?_
          rintro e w2 ⟨rfl, hB⟩
          replace HA1 := hidb (At.below hB.out HA1.out)
          replace HA2 := hidb (At.below hB.out HA2.out)
          replace HG0 := hidb (Gr.step HG0.out hB)
          clear hB
          obtain ⟨a0, a1, a2⟩ := HA1.out.c3
          obtain ⟨b0, b1, b2⟩ := HA2.out.c3
          have cE : w2.cell? ⟨1, 0, none⟩ = some (errV g 2) := (HL.out.below HG0.out.out).cell 2 (by decide)
          go_wp2
          go_ret
          exact ⟨rfl, HG0.out⟩
      · rw [if_neg (fun h => c3 h.1)]
        clear c1 c2
        have HA1 := hidb A1
        have HA2 := hidb A2
        have HG0 := hidb G0
        clear A1 A2 G0
        go_enter Tryd.func36, Tryd.ntmps36
        go_wp2_with fail
        refine (C1.out _ HG0.out).mono ?_
        rintro e w1 ⟨rfl, hB⟩
        replace HA1 := hidb (At.below hB.out HA1.out)
        replace HA2 := hidb (At.below hB.out HA2.out)
        replace HG0 := hidb (Gr.step HG0.out hB)
        clear hB
        obtain ⟨a0, a1, a2⟩ := HA2.out.c3
        go_wp2_with fail
        clear a0 a1 a2
        refine (C2.out _ HG0.out).mono ?_
        rintro e w2 ⟨rfl, hB⟩
        replace HA1 := hidb (At.below hB.out HA1.out)
        replace HA2 := hidb (At.below hB.out HA2.out)
        replace HG0 := hidb (Gr.step HG0.out hB)
        clear hB
        obtain ⟨a0, a1, a2⟩ := HA1.out.c3
        obtain ⟨b0, b1, b2⟩ := HA2.out.c3
        have cE : w2.cell? ⟨1, 0, none⟩ = some (errV g 2) := (HL.out.below HG0.out.out).cell 2 (by decide)
        go_wp2
        go_ret
        exact ⟨rfl, HG0.out⟩
    · rw [if_neg c2]
      obtain ⟨i, hi⟩ := evc_ne g c2
      rw [hi] at C2 ⊢
      clear c1 c2 hi
      have HA1 := hidb A1
      have HA2 := hidb A2
      have HG0 := hidb G0
      clear A1 A2 G0
      go_enter Tryd.func36, Tryd.ntmps36
      go_wp2_with fail
      refine (C1.out _ HG0.out).mono ?_
      rintro e w1 ⟨rfl, hB⟩
      replace HA1 := hidb (At.below hB.out HA1.out)
      replace HA2 := hidb (At.below hB.out HA2.out)
      replace HG0 := hidb (Gr.step HG0.out hB)
      clear hB
      obtain ⟨a0, a1, a2⟩ := HA2.out.c3
      go_wp2_with fail
      refine (C2.out _ HG0.out).mono ?_
      rintro e w2 ⟨rfl, hB⟩
      replace HG0 := hidb (Gr.step HG0.out hB)
      clear hB
      go_wp2
      go_ret
      exact ⟨rfl, HG0.out⟩
  · rw [if_neg c1]
    obtain ⟨i, hi⟩ := evc_ne g c1
    rw [hi] at C1 ⊢
    clear c1 hi
    have HG0 := hidb G0
    clear A1 A2 G0
    go_enter Tryd.func36, Tryd.ntmps36
    go_wp2_with fail
    refine (C1.out _ HG0.out).mono ?_
    rintro e w1 ⟨rfl, hB⟩
    replace HG0 := hidb (Gr.step HG0.out hB)
    clear hB
    go_wp2
    go_ret
    exact ⟨rfl, HG0.out⟩
end Go.Proofs.YtphpfongdbidoaaDoor
