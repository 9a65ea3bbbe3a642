/-
  mercatorref3.RastersError.; field.alike.
-/
import Derived.Test.YtbhgibmobgojkaaDoorQJ1
namespace Go.Proofs.YtbhgibmobgojkaaDoor
open Go.RowKit

theorem vcode_lt (W H : Int) (l : List Int) : vcode W H l < 5 := by unfold vcode; split <;> (try split) <;> (try split) <;> omega
set_option maxRecDepth 4000 in
set_option maxHeartbeats 4000000 in
theorem rastersError_any {pb po qb qo : Nat} {W H W' H' : Int} {ad ad' : Option Addr} {b b' o o' cap cap' : Nat} {l l' : List Int} (w : World) (hp : PtR w pb po W H (.slice ad l.length cap)) (hq : PtR w qb qo W' H' (.slice ad' l'.length cap')) (h : ISl w ad b o cap l) (h' : ISl w ad' b' o' cap' l') (ll : l.length ≤ 20000) (ll' : l'.length ≤ 20000) : Calls Tryd.prog 10 #[.pointer (some ⟨pb, po, none⟩), .pointer (some ⟨qb, qo, none⟩)] w fun e w' => e = .returned (.int .i64 (acode W H l W' H' l' : Int)) ∧ Gr w w' := by
  have HP := hidb hp
  have HQ := hidb hq
  have C1 := hidb (rasterError_any pb po W H ad b o cap l w hp h ll)
  have C2 := hidb (fun w1 (hB : Gr w w1) => rasterError_any qb qo W' H' ad' b' o' cap' l' w1 (hq.below hB.out) (h'.below hB.out) ll')
  have v1 := vcode_lt W H l
  have v2 := vcode_lt W' H' l'
  clear hp hq h h' ll ll'
  unfold acode
  generalize vcode W H l = e1 at *
  generalize vcode W' H' l' = e2 at *
  by_cases c1 : e1 = 0
  · rw [if_pos c1]
    rw [c1] at C1
    by_cases c2 : e2 = 0
    · rw [if_pos c2]
      rw [c2] at C2
      by_cases c3 : W = W'
      · by_cases c4 : H = H'
        · rw [if_pos ⟨c3, c4⟩]
          subst c3 c4
          clear v1 v2 c1 c2
          go_enter Tryd.func10, Tryd.ntmps10
          go_wp2_with fail
          refine C1.out.mono ?_
          rintro e w1 ⟨rfl, hB⟩
          have G1 := hidb (Gr.step (Gr.refl w) hB)
          clear hB
          go_wp2_with fail
          refine (C2.out _ G1.out).mono ?_
          rintro e w2 ⟨rfl, hB⟩
          have G2 := hidb (Gr.step G1.out hB)
          clear hB
          obtain ⟨p0, p1, p2⟩ := HP.out.below G2.out.out
          obtain ⟨q0, q1, q2⟩ := HQ.out.below G2.out.out
          go_upto_region 4 with fail
          go_quiet (fail)
          go_wp2
          go_ret
          exact ⟨rfl, by first | exact G2.out | exact G2.out.drewN _ | exact G2.out.drew⟩
        · rw [if_neg (fun h => c4 h.2)]
          subst c3
          clear v1 v2 c1 c2
          go_enter Tryd.func10, Tryd.ntmps10
          go_wp2_with fail
          refine C1.out.mono ?_
          rintro e w1 ⟨rfl, hB⟩
          have G1 := hidb (Gr.step (Gr.refl w) hB)
          clear hB
          go_wp2_with fail
          refine (C2.out _ G1.out).mono ?_
          rintro e w2 ⟨rfl, hB⟩
          have G2 := hidb (Gr.step G1.out hB)
          clear hB
          obtain ⟨p0, p1, p2⟩ := HP.out.below G2.out.out
          obtain ⟨q0, q1, q2⟩ := HQ.out.below G2.out.out
          go_upto_region 4 with fail
          go_quiet (fail)
          go_wp2
          go_ret
          exact ⟨rfl, by first | exact G2.out | exact G2.out.drewN _ | exact G2.out.drew⟩
      · rw [if_neg (fun h => c3 h.1)]
        clear v1 v2 c1 c2
        go_enter Tryd.func10, Tryd.ntmps10
        go_wp2_with fail
        refine C1.out.mono ?_
        rintro e w1 ⟨rfl, hB⟩
        have G1 := hidb (Gr.step (Gr.refl w) hB)
        clear hB
        go_wp2_with fail
        refine (C2.out _ G1.out).mono ?_
        rintro e w2 ⟨rfl, hB⟩
        have G2 := hidb (Gr.step G1.out hB)
        clear hB
        obtain ⟨p0, p1, p2⟩ := HP.out.below G2.out.out
        obtain ⟨q0, q1, q2⟩ := HQ.out.below G2.out.out
        go_upto_region 4 with fail
        go_quiet (fail)
        go_wp2
        go_ret
        exact ⟨rfl, by first | exact G2.out | exact G2.out.drewN _ | exact G2.out.drew⟩
    · rw [if_neg c2]
      have c2' : ¬ (e2 : Int) = 0 := by omega
      clear v1 v2 c1 c2
      generalize (e2 : Int) = z at *
      have e0 : (z == 0) = false := by simpa using c2'
      go_enter Tryd.func10, Tryd.ntmps10
      go_wp2_with fail
      refine C1.out.mono ?_
      rintro e w1 ⟨rfl, hB⟩
      have G1 := hidb (Gr.step (Gr.refl w) hB)
      clear hB
      go_wp2_with fail
      refine (C2.out _ G1.out).mono ?_
      rintro e w2 ⟨rfl, hB⟩
      have G2 := hidb (Gr.step G1.out hB)
      clear hB
      obtain ⟨p0, p1, p2⟩ := HP.out.below G2.out.out
      obtain ⟨q0, q1, q2⟩ := HQ.out.below G2.out.out
      go_upto_region 4 with fail
      go_quiet (fail)
      go_wp2
      go_ret
      exact ⟨rfl, by first | exact G2.out | exact G2.out.drewN _ | exact G2.out.drew⟩
  · rw [if_neg c1]
    have c1' : ¬ (e1 : Int) = 0 := by omega
    clear v1 v2 c1
    generalize (e1 : Int) = z at *
    go_enter Tryd.func10, Tryd.ntmps10
    go_wp2_with fail
    refine C1.out.mono ?_
    rintro e w1 ⟨rfl, hB⟩
    have G2 := hidb (Gr.step (Gr.refl w) hB)
    clear hB
    obtain ⟨p0, p1, p2⟩ := HP.out.below G2.out.out
    obtain ⟨q0, q1, q2⟩ := HQ.out.below G2.out.out
    go_upto_region 4 with fail
    go_quiet (fail)
    go_wp2
    go_ret
    exact ⟨rfl, by first | exact G2.out | exact G2.out.drewN _ | exact G2.out.drew⟩
end Go.Proofs.YtbhgibmobgojkaaDoor
namespace Go.Proofs.YtbhgibmobgojkaaDoor
open Go.RowKit

theorem errV_ne (g : Nat → Addr) (i : Nat) : ¬ errV g i = .nilIface := by intro h; cases h
theorem evc_ne (g : Nat → Addr) {c : Nat} (h : ¬ c = 0) : ∃ i, evc g c = errV g i := ⟨_, by unfold evc; rw [if_neg h]⟩
set_option maxRecDepth 4000 in
set_option maxHeartbeats 4000000 in
theorem alike_any (g : Nat → Addr) {W H W' H' : Int} {ad ad' : Option Addr} {b b' o o' cap cap' : Nat} {l l' : List Int} (w : World) (h : ISl w ad b o cap l) (h' : ISl w ad' b' o' cap' l') (ll : l.length ≤ 20000) (ll' : l'.length ≤ 20000) (hl : Laid w g) : Calls Tryd.prog 26 #[raV W H (.slice ad l.length cap), raV W' H' (.slice ad' l'.length cap')] w fun e w' => e = .returned (evc g (acode W H l W' H' l')) ∧ Gr w w' := by
  have HL := hidb hl
  have C1 := hidb (fun w1 (hB : Gr w w1) => valid_any g W H ad b o cap l w1 (h.below hB.out) ll (hl.below hB.out))
  have C2 := hidb (fun w1 (hB : Gr w w1) => valid_any g W' H' ad' b' o' cap' l' w1 (h'.below hB.out) ll' (hl.below hB.out))
  have G0 := ((Gr.refl w).alloc (.cells #[.int .i64 W, .int .i64 H, .slice ad l.length cap] 27)).alloc (.cells #[.int .i64 W', .int .i64 H', .slice ad' l'.length cap'] 27)
  have A1 := (At.new3 w (.int .i64 W) (.int .i64 H) (.slice ad l.length cap) 27).alloc (.cells #[.int .i64 W', .int .i64 H', .slice ad' l'.length cap'] 27)
  have A2 := At.nx3 (W := w) (.cells #[.int .i64 W, .int .i64 H, .slice ad l.length cap] 27) (.int .i64 W') (.int .i64 H') (.slice ad' l'.length cap') 27
  clear h h' ll ll' hl
  unfold acode
  generalize vcode W H l = e1 at *
  generalize vcode W' H' l' = e2 at *
  by_cases c1 : e1 = 0
  · rw [if_pos c1]
    rw [c1, show evc g 0 = .nilIface from rfl] at C1
    by_cases c2 : e2 = 0
    · rw [if_pos c2]
      rw [c2, show evc g 0 = .nilIface from rfl] at C2
      by_cases c3 : W = W'
      · by_cases c4 : H = H'
        · rw [if_pos ⟨c3, c4⟩]
          subst c3 c4
          clear c1 c2
          have HA1 := hidb A1
          have HA2 := hidb A2
          have HG0 := hidb G0
          clear A1 A2 G0
          go_enter Tryd.func26, Tryd.ntmps26
          go_wp2_with fail
          refine (C1.out _ HG0.out).mono ?_
          rintro e w1 ⟨rfl, hB⟩
          replace HA1 := hidb (At.below hB.out HA1.out)
          replace HA2 := hidb (At.below hB.out HA2.out)
          replace HG0 := hidb (Gr.step HG0.out hB)
          clear hB
          obtain ⟨a0, a1, a2⟩ := HA2.out.c3
          go_wp2_with fail
          clear a0 a1 a2
          refine (C2.out _ HG0.out).mono ?_
          rintro e w2 ⟨rfl, hB⟩
          replace HA1 := hidb (At.below hB.out HA1.out)
          replace HA2 := hidb (At.below hB.out HA2.out)
          replace HG0 := hidb (Gr.step HG0.out hB)
          clear hB
          obtain ⟨a0, a1, a2⟩ := HA1.out.c3
          obtain ⟨b0, b1, b2⟩ := HA2.out.c3
          have cE : w2.cell? ⟨0, 0, none⟩ = some (errV g 2) := (HL.out.below HG0.out.out).cell 2 (by decide)
          go_wp2
          go_ret
          exact ⟨rfl, HG0.out⟩
        · rw [if_neg (fun h => c4 h.2)]
          subst c3
          clear c1 c2
          have HA1 := hidb A1
          have HA2 := hidb A2
          have HG0 := hidb G0
          clear A1 A2 G0
          go_enter Tryd.func26, Tryd.ntmps26
          go_wp2_with fail
          refine (C1.out _ HG0.out).mono ?_
          rintro e w1 ⟨rfl, hB⟩
          replace HA1 := hidb (At.below hB.out HA1.out)
          replace HA2 := hidb (At.below hB.out HA2.out)
          replace HG0 := hidb (Gr.step HG0.out hB)
          clear hB
          obtain ⟨a0, a1, a2⟩ := HA2.out.c3
          go_wp2_with fail
          clear a0 a1 a2
          refine (C2.out _ HG0.out).mono ?_
          rintro e w2 ⟨rfl, hB⟩
          replace HA1 := hidb (At.below hB.out HA1.out)
          replace HA2 := hidb (At.below hB.out HA2.out)
          replace HG0 := hidb (Gr.step HG0.out hB)
          clear hB
          obtain ⟨a0, a1, a2⟩ := HA1.out.c3
          obtain ⟨b0, b1, b2⟩ := HA2.out.c3
          have cE : w2.cell? ⟨0, 0, none⟩ = some (errV g 2) := (HL.out.below HG0.out.out).cell 2 (by decide)
          go_wp2
          go_ret
          exact ⟨rfl, HG0.out⟩
      · rw [if_neg (fun h => c3 h.1)]
        clear c1 c2
        have HA1 := hidb A1
        have HA2 := hidb A2
        have HG0 := hidb G0
        clear A1 A2 G0
        go_enter Tryd.func26, Tryd.ntmps26
        go_wp2_with fail
        refine (C1.out _ HG0.out).mono ?_
        rintro e w1 ⟨rfl, hB⟩
        replace HA1 := hidb (At.below hB.out HA1.out)
        replace HA2 := hidb (At.below hB.out HA2.out)
        replace HG0 := hidb (Gr.step HG0.out hB)
        clear hB
        obtain ⟨a0, a1, a2⟩ := HA2.out.c3
        go_wp2_with fail
        clear a0 a1 a2
        refine (C2.out _ HG0.out).mono ?_
        rintro e w2 ⟨rfl, hB⟩
        replace HA1 := hidb (At.below hB.out HA1.out)
        replace HA2 := hidb (At.below hB.out HA2.out)
        replace HG0 := hidb (Gr.step HG0.out hB)
        clear hB
        obtain ⟨a0, a1, a2⟩ := HA1.out.c3
        obtain ⟨b0, b1, b2⟩ := HA2.out.c3
        have cE : w2.cell? ⟨0, 0, none⟩ = some (errV g 2) := (HL.out.below HG0.out.out).cell 2 (by decide)
        go_wp2
        go_ret
        exact ⟨rfl, HG0.out⟩
    · rw [if_neg c2]
      obtain ⟨i, hi⟩ := evc_ne g c2
      rw [hi] at C2 ⊢
      clear c1 c2 hi
      have HA1 := hidb A1
      have HA2 := hidb A2
      have HG0 := hidb G0
      clear A1 A2 G0
      go_enter Tryd.func26, Tryd.ntmps26
      go_wp2_with fail
      refine (C1.out _ HG0.out).mono ?_
      rintro e w1 ⟨rfl, hB⟩
      replace HA1 := hidb (At.below hB.out HA1.out)
      replace HA2 := hidb (At.below hB.out HA2.out)
      replace HG0 := hidb (Gr.step HG0.out hB)
      clear hB
      obtain ⟨a0, a1, a2⟩ := HA2.out.c3
      go_wp2_with fail
      refine (C2.out _ HG0.out).mono ?_
      rintro e w2 ⟨rfl, hB⟩
      replace HG0 := hidb (Gr.step HG0.out hB)
      clear hB
      go_wp2
      go_ret
      exact ⟨rfl, HG0.out⟩
  · rw [if_neg c1]
    obtain ⟨i, hi⟩ := evc_ne g c1
    rw [hi] at C1 ⊢
    clear c1 hi
    have HG0 := hidb G0
    clear A1 A2 G0
    go_enter Tryd.func26, Tryd.ntmps26
    go_wp2_with fail
    refine (C1.out _ HG0.out).mono ?_
    rintro e w1 ⟨rfl, hB⟩
    replace HG0 := hidb (Gr.step HG0.out hB)
    clear hB
    go_wp2
    go_ret
    exact ⟨rfl, HG0.out⟩
end Go.Proofs.YtbhgibmobgojkaaDoor
