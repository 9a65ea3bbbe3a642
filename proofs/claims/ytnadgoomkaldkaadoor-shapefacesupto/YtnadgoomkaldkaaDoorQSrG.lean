/-
  shape.meet, tangled.
-/
import Derived.Test.YtnadgoomkaldkaaDoorQSrE
namespace Go.Proofs.YtnadgoomkaldkaaDoor
open Go.RowKit
attribute [local go_sem ↓] Go.wp_at_zero Go.wp_at_succ

/-- Two pieces meet. -/
def mtP (p q : Pc) : Prop := nrP p q ∧ ((ptP p q ∧ ptP q p) ∨ hlP p q.1 ∨ hlP p q.2 ∨ hlP q p.1 ∨ hlP q p.2 ∨ twP p q)
instance (p q : Pc) : Decidable (mtP p q) := by unfold mtP; exact inferInstance
set_option maxRecDepth 4000 in
set_option maxHeartbeats 16000000 in
theorem meet_any {p q : Pc} (hp : okP p) (hq : okP q) (w : World) : Calls Tryd.prog 44 #[pv p, pv q] w fun e w' => e = .returned (.bool (decide (mtP p q))) ∧ Gr w w' := by
  have C0 := hidb (fun w => near_any p q w)
  have C1 := hidb (fun w => parts_any hp hq w)
  have C2 := hidb (fun w => parts_any hq hp w)
  have C3 := hidb (fun w => holds_any hp hq.1 w)
  have C4 := hidb (fun w => holds_any hp hq.2 w)
  have C5 := hidb (fun w => holds_any hq hp.1 w)
  have C6 := hidb (fun w => holds_any hq hp.2 w)
  have C7 := hidb (fun w => twin_any p q w)
  generalize hr : decide (mtP p q) = res
  have ht : nrP p q → (ptP p q ∧ ptP q p) ∨ hlP p q.1 ∨ hlP p q.2 ∨ hlP q p.1 ∨ hlP q p.2 → res = true := fun h k => by
    rw [← hr]; refine decide_eq_true ⟨h, ?_⟩
    rcases k with k | k | k | k | k
    · exact .inl k
    · exact .inr (.inl k)
    · exact .inr (.inr (.inl k))
    · exact .inr (.inr (.inr (.inl k)))
    · exact .inr (.inr (.inr (.inr (.inl k))))
  have hf : ¬ nrP p q → res = false := fun h => by rw [← hr]; exact decide_eq_false (fun k => h k.1)
  have hw : nrP p q → ¬ (ptP p q ∧ ptP q p) → ¬ hlP p q.1 → ¬ hlP p q.2 → ¬ hlP q p.1 → ¬ hlP q p.2 → decide (twP p q) = res := fun h0 h1 h2 h3 h4 h5 => by
    rw [← hr]
    refine decide_eq_decide.2 ⟨fun hx => ⟨h0, .inr (.inr (.inr (.inr (.inr hx))))⟩, fun hx => ?_⟩
    rcases hx.2 with k | k | k | k | k | k
    · exact absurd k h1
    · exact absurd k h2
    · exact absurd k h3
    · exact absurd k h4
    · exact absurd k h5
    · exact k
  clear hr hp hq
  generalize decide (twP p q) = bt at *
  have FA := (At.new4 w (.int .i64 p.1.1) (.int .i64 p.1.2) (.int .i64 p.2.1) (.int .i64 p.2.2) 84).alloc (.cells #[.int .i64 q.1.1, .int .i64 q.1.2, .int .i64 q.2.1, .int .i64 q.2.2] 84)
  have FB : At ((w.alloc (.cells #[.int .i64 p.1.1, .int .i64 p.1.2, .int .i64 p.2.1, .int .i64 p.2.2] 84)).alloc (.cells #[.int .i64 q.1.1, .int .i64 q.1.2, .int .i64 q.2.1, .int .i64 q.2.2] 84)) (w.heap.size + 1) (pcs q) := by
    have := At.new4 (w.alloc (.cells #[.int .i64 p.1.1, .int .i64 p.1.2, .int .i64 p.2.1, .int .i64 p.2.2] 84)) (.int .i64 q.1.1) (.int .i64 q.1.2) (.int .i64 q.2.1) (.int .i64 q.2.2) 84
    simpa using this
  have HG := hidb (((Gr.refl w).alloc (.cells #[.int .i64 p.1.1, .int .i64 p.1.2, .int .i64 p.2.1, .int .i64 p.2.2] 84)).alloc (.cells #[.int .i64 q.1.1, .int .i64 q.1.2, .int .i64 q.2.1, .int .i64 q.2.2] 84))
  go_enter Tryd.func44, Tryd.ntmps44
  go_upto_region 1 with fail
  generalize (w.alloc (.cells #[.int .i64 p.1.1, .int .i64 p.1.2, .int .i64 p.2.1, .int .i64 p.2.2] 84)).alloc (.cells #[.int .i64 q.1.1, .int .i64 q.1.2, .int .i64 q.2.1, .int .i64 q.2.2] 84) = W1 at *
  obtain ⟨a0, a1, a2, a3⟩ := FA.c4
  obtain ⟨b0, b1, b2, b3⟩ := FB.c4
  by_cases k0 : nrP p q
  all_goals first | rw [decide_eq_true k0] at C0 | rw [decide_eq_false k0] at C0
  · skip
    go_wp2_with fail
    refine (C0.out _).mono ?_
    rintro e w2 ⟨rfl, hB⟩
    replace FA := At.below hB.out FA
    replace FB := At.below hB.out FB
    replace HG := hidb (Gr.step HG.out hB.out)
    clear a0 a1 a2 a3 b0 b1 b2 b3 hB
    obtain ⟨a0, a1, a2, a3⟩ := FA.c4
    obtain ⟨b0, b1, b2, b3⟩ := FB.c4
    by_cases k1 : ptP p q
    · rw [decide_eq_true k1] at C1
      go_wp2_with fail
      refine (C1.out _).mono ?_
      rintro e w3 ⟨rfl, hB⟩
      replace FA := At.below hB.out FA
      replace FB := At.below hB.out FB
      replace HG := hidb (Gr.step HG.out hB.out)
      clear a0 a1 a2 a3 b0 b1 b2 b3 hB
      obtain ⟨a0, a1, a2, a3⟩ := FA.c4
      obtain ⟨b0, b1, b2, b3⟩ := FB.c4
      by_cases k2 : ptP q p
      · rw [decide_eq_true k2] at C2
        obtain rfl := ht k0 (.inl ⟨k1, k2⟩)
        go_wp2_with fail
        refine (C2.out _).mono ?_
        rintro e w4 ⟨rfl, hB⟩
        replace FA := At.below hB.out FA
        replace FB := At.below hB.out FB
        replace HG := hidb (Gr.step HG.out hB.out)
        clear a0 a1 a2 a3 b0 b1 b2 b3 hB
        obtain ⟨a0, a1, a2, a3⟩ := FA.c4
        obtain ⟨b0, b1, b2, b3⟩ := FB.c4
        go_wp2
        go_ret
        exact ⟨rfl, HG.out⟩
      · rw [decide_eq_false k2] at C2
        go_wp2_with fail
        refine (C2.out _).mono ?_
        rintro e w4 ⟨rfl, hB⟩
        replace FA := At.below hB.out FA
        replace FB := At.below hB.out FB
        replace HG := hidb (Gr.step HG.out hB.out)
        clear a0 a1 a2 a3 b0 b1 b2 b3 hB
        obtain ⟨a0, a1, a2, a3⟩ := FA.c4
        obtain ⟨b0, b1, b2, b3⟩ := FB.c4
        by_cases k3 : hlP p q.1
        · rw [decide_eq_true k3] at C3
          obtain rfl := ht k0 (.inr (.inl k3))
          go_wp2_with fail
          refine (C3.out _).mono ?_
          rintro e w20 ⟨rfl, hB⟩
          replace FA := At.below hB.out FA
          replace FB := At.below hB.out FB
          replace HG := hidb (Gr.step HG.out hB.out)
          clear a0 a1 a2 a3 b0 b1 b2 b3 hB
          obtain ⟨a0, a1, a2, a3⟩ := FA.c4
          obtain ⟨b0, b1, b2, b3⟩ := FB.c4
          go_wp2
          go_ret
          exact ⟨rfl, HG.out⟩
        · rw [decide_eq_false k3] at C3
          go_wp2_with fail
          refine (C3.out _).mono ?_
          rintro e w20 ⟨rfl, hB⟩
          replace FA := At.below hB.out FA
          replace FB := At.below hB.out FB
          replace HG := hidb (Gr.step HG.out hB.out)
          clear a0 a1 a2 a3 b0 b1 b2 b3 hB
          obtain ⟨a0, a1, a2, a3⟩ := FA.c4
          obtain ⟨b0, b1, b2, b3⟩ := FB.c4
          by_cases k4 : hlP p q.2
          · rw [decide_eq_true k4] at C4
            obtain rfl := ht k0 (.inr (.inr (.inl k4)))
            go_wp2_with fail
            refine (C4.out _).mono ?_
            rintro e w21 ⟨rfl, hB⟩
            replace FA := At.below hB.out FA
            replace FB := At.below hB.out FB
            replace HG := hidb (Gr.step HG.out hB.out)
            clear a0 a1 a2 a3 b0 b1 b2 b3 hB
            obtain ⟨a0, a1, a2, a3⟩ := FA.c4
            obtain ⟨b0, b1, b2, b3⟩ := FB.c4
            go_wp2
            go_ret
            exact ⟨rfl, HG.out⟩
          · rw [decide_eq_false k4] at C4
            go_wp2_with fail
            refine (C4.out _).mono ?_
            rintro e w21 ⟨rfl, hB⟩
            replace FA := At.below hB.out FA
            replace FB := At.below hB.out FB
            replace HG := hidb (Gr.step HG.out hB.out)
            clear a0 a1 a2 a3 b0 b1 b2 b3 hB
            obtain ⟨a0, a1, a2, a3⟩ := FA.c4
            obtain ⟨b0, b1, b2, b3⟩ := FB.c4
            by_cases k5 : hlP q p.1
            · rw [decide_eq_true k5] at C5
              obtain rfl := ht k0 (.inr (.inr (.inr (.inl k5))))
              go_wp2_with fail
              refine (C5.out _).mono ?_
              rintro e w22 ⟨rfl, hB⟩
              replace FA := At.below hB.out FA
              replace FB := At.below hB.out FB
              replace HG := hidb (Gr.step HG.out hB.out)
              clear a0 a1 a2 a3 b0 b1 b2 b3 hB
              obtain ⟨a0, a1, a2, a3⟩ := FA.c4
              obtain ⟨b0, b1, b2, b3⟩ := FB.c4
              go_wp2
              go_ret
              exact ⟨rfl, HG.out⟩
            · rw [decide_eq_false k5] at C5
              go_wp2_with fail
              refine (C5.out _).mono ?_
              rintro e w22 ⟨rfl, hB⟩
              replace FA := At.below hB.out FA
              replace FB := At.below hB.out FB
              replace HG := hidb (Gr.step HG.out hB.out)
              clear a0 a1 a2 a3 b0 b1 b2 b3 hB
              obtain ⟨a0, a1, a2, a3⟩ := FA.c4
              obtain ⟨b0, b1, b2, b3⟩ := FB.c4
              by_cases k6 : hlP q p.2
              · rw [decide_eq_true k6] at C6
                obtain rfl := ht k0 (.inr (.inr (.inr (.inr k6))))
                go_wp2_with fail
                refine (C6.out _).mono ?_
                rintro e w23 ⟨rfl, hB⟩
                replace FA := At.below hB.out FA
                replace FB := At.below hB.out FB
                replace HG := hidb (Gr.step HG.out hB.out)
                clear a0 a1 a2 a3 b0 b1 b2 b3 hB
                obtain ⟨a0, a1, a2, a3⟩ := FA.c4
                obtain ⟨b0, b1, b2, b3⟩ := FB.c4
                go_wp2
                go_ret
                exact ⟨rfl, HG.out⟩
              · rw [decide_eq_false k6] at C6
                go_wp2_with fail
                refine (C6.out _).mono ?_
                rintro e w23 ⟨rfl, hB⟩
                replace FA := At.below hB.out FA
                replace FB := At.below hB.out FB
                replace HG := hidb (Gr.step HG.out hB.out)
                clear a0 a1 a2 a3 b0 b1 b2 b3 hB
                obtain ⟨a0, a1, a2, a3⟩ := FA.c4
                obtain ⟨b0, b1, b2, b3⟩ := FB.c4
                obtain rfl := hw k0 (fun h => k2 h.2) k3 k4 k5 k6
                go_wp2_with fail
                refine (C7.out _).mono ?_
                rintro e w30 ⟨rfl, hB⟩
                replace FA := At.below hB.out FA
                replace FB := At.below hB.out FB
                replace HG := hidb (Gr.step HG.out hB.out)
                clear a0 a1 a2 a3 b0 b1 b2 b3 hB
                obtain ⟨a0, a1, a2, a3⟩ := FA.c4
                obtain ⟨b0, b1, b2, b3⟩ := FB.c4
                go_wp2
                go_ret
                exact ⟨rfl, HG.out⟩
    · rw [decide_eq_false k1] at C1
      go_wp2_with fail
      refine (C1.out _).mono ?_
      rintro e w3 ⟨rfl, hB⟩
      replace FA := At.below hB.out FA
      replace FB := At.below hB.out FB
      replace HG := hidb (Gr.step HG.out hB.out)
      clear a0 a1 a2 a3 b0 b1 b2 b3 hB
      obtain ⟨a0, a1, a2, a3⟩ := FA.c4
      obtain ⟨b0, b1, b2, b3⟩ := FB.c4
      by_cases k3 : hlP p q.1
      · rw [decide_eq_true k3] at C3
        obtain rfl := ht k0 (.inr (.inl k3))
        go_wp2_with fail
        refine (C3.out _).mono ?_
        rintro e w20 ⟨rfl, hB⟩
        replace FA := At.below hB.out FA
        replace FB := At.below hB.out FB
        replace HG := hidb (Gr.step HG.out hB.out)
        clear a0 a1 a2 a3 b0 b1 b2 b3 hB
        obtain ⟨a0, a1, a2, a3⟩ := FA.c4
        obtain ⟨b0, b1, b2, b3⟩ := FB.c4
        go_wp2
        go_ret
        exact ⟨rfl, HG.out⟩
      · rw [decide_eq_false k3] at C3
        go_wp2_with fail
        refine (C3.out _).mono ?_
        rintro e w20 ⟨rfl, hB⟩
        replace FA := At.below hB.out FA
        replace FB := At.below hB.out FB
        replace HG := hidb (Gr.step HG.out hB.out)
        clear a0 a1 a2 a3 b0 b1 b2 b3 hB
        obtain ⟨a0, a1, a2, a3⟩ := FA.c4
        obtain ⟨b0, b1, b2, b3⟩ := FB.c4
        by_cases k4 : hlP p q.2
        · rw [decide_eq_true k4] at C4
          obtain rfl := ht k0 (.inr (.inr (.inl k4)))
          go_wp2_with fail
          refine (C4.out _).mono ?_
          rintro e w21 ⟨rfl, hB⟩
          replace FA := At.below hB.out FA
          replace FB := At.below hB.out FB
          replace HG := hidb (Gr.step HG.out hB.out)
          clear a0 a1 a2 a3 b0 b1 b2 b3 hB
          obtain ⟨a0, a1, a2, a3⟩ := FA.c4
          obtain ⟨b0, b1, b2, b3⟩ := FB.c4
          go_wp2
          go_ret
          exact ⟨rfl, HG.out⟩
        · rw [decide_eq_false k4] at C4
          go_wp2_with fail
          refine (C4.out _).mono ?_
          rintro e w21 ⟨rfl, hB⟩
          replace FA := At.below hB.out FA
          replace FB := At.below hB.out FB
          replace HG := hidb (Gr.step HG.out hB.out)
          clear a0 a1 a2 a3 b0 b1 b2 b3 hB
          obtain ⟨a0, a1, a2, a3⟩ := FA.c4
          obtain ⟨b0, b1, b2, b3⟩ := FB.c4
          by_cases k5 : hlP q p.1
          · rw [decide_eq_true k5] at C5
            obtain rfl := ht k0 (.inr (.inr (.inr (.inl k5))))
            go_wp2_with fail
            refine (C5.out _).mono ?_
            rintro e w22 ⟨rfl, hB⟩
            replace FA := At.below hB.out FA
            replace FB := At.below hB.out FB
            replace HG := hidb (Gr.step HG.out hB.out)
            clear a0 a1 a2 a3 b0 b1 b2 b3 hB
            obtain ⟨a0, a1, a2, a3⟩ := FA.c4
            obtain ⟨b0, b1, b2, b3⟩ := FB.c4
            go_wp2
            go_ret
            exact ⟨rfl, HG.out⟩
          · rw [decide_eq_false k5] at C5
            go_wp2_with fail
            refine (C5.out _).mono ?_
            rintro e w22 ⟨rfl, hB⟩
            replace FA := At.below hB.out FA
            replace FB := At.below hB.out FB
            replace HG := hidb (Gr.step HG.out hB.out)
            clear a0 a1 a2 a3 b0 b1 b2 b3 hB
            obtain ⟨a0, a1, a2, a3⟩ := FA.c4
            obtain ⟨b0, b1, b2, b3⟩ := FB.c4
            by_cases k6 : hlP q p.2
            · rw [decide_eq_true k6] at C6
              obtain rfl := ht k0 (.inr (.inr (.inr (.inr k6))))
              go_wp2_with fail
              refine (C6.out _).mono ?_
              rintro e w23 ⟨rfl, hB⟩
              replace FA := At.below hB.out FA
              replace FB := At.below hB.out FB
              replace HG := hidb (Gr.step HG.out hB.out)
              clear a0 a1 a2 a3 b0 b1 b2 b3 hB
              obtain ⟨a0, a1, a2, a3⟩ := FA.c4
              obtain ⟨b0, b1, b2, b3⟩ := FB.c4
              go_wp2
              go_ret
              exact ⟨rfl, HG.out⟩
            · rw [decide_eq_false k6] at C6
              go_wp2_with fail
              refine (C6.out _).mono ?_
              rintro e w23 ⟨rfl, hB⟩
              replace FA := At.below hB.out FA
              replace FB := At.below hB.out FB
              replace HG := hidb (Gr.step HG.out hB.out)
              clear a0 a1 a2 a3 b0 b1 b2 b3 hB
              obtain ⟨a0, a1, a2, a3⟩ := FA.c4
              obtain ⟨b0, b1, b2, b3⟩ := FB.c4
              obtain rfl := hw k0 (fun h => k1 h.1) k3 k4 k5 k6
              go_wp2_with fail
              refine (C7.out _).mono ?_
              rintro e w30 ⟨rfl, hB⟩
              replace FA := At.below hB.out FA
              replace FB := At.below hB.out FB
              replace HG := hidb (Gr.step HG.out hB.out)
              clear a0 a1 a2 a3 b0 b1 b2 b3 hB
              obtain ⟨a0, a1, a2, a3⟩ := FA.c4
              obtain ⟨b0, b1, b2, b3⟩ := FB.c4
              go_wp2
              go_ret
              exact ⟨rfl, HG.out⟩
  · obtain rfl := hf k0
    go_wp2_with fail
    refine (C0.out _).mono ?_
    rintro e w2 ⟨rfl, hB⟩
    replace FA := At.below hB.out FA
    replace FB := At.below hB.out FB
    replace HG := hidb (Gr.step HG.out hB.out)
    clear a0 a1 a2 a3 b0 b1 b2 b3 hB
    obtain ⟨a0, a1, a2, a3⟩ := FA.c4
    obtain ⟨b0, b1, b2, b3⟩ := FB.c4
    go_wp2
    go_ret
    exact ⟨rfl, HG.out⟩
theorem pslice (b n cap i : Nat) (h : i ≤ cap) (w : World) : (Instr.slice 56 (.slice (some ⟨b, 0, none⟩) n cap) none (some (.int .i64 (i : Int))) none).run Tryd.prog w = .ok (.slice (some ⟨b, 0, none⟩) i cap) w := by
  have hu : Tryd.prog.underlying 56 = some (.slice (Tryd.prog.elem 56)) := by kernel_rfl
  have hs : (sizeOf (Tryd.prog.elem 56)).run Tryd.prog w = .ok 4 w := by kernel_rfl
  rw [run_slice_h w 56 _ _ _ hu .i64 _ (by omega) (by omega), hs]
  simp [Result.andThen, sliced, Addr.add]
/-- Two of the pieces meet. -/
def tgP (L : List Pc) : Prop := ∃ i, i < L.length ∧ ∃ k, k < i ∧ mtP (px L i) (px L k)
instance (L : List Pc) : Decidable (tgP L) := by unfold tgP; exact inferInstance
set_option maxRecDepth 4000 in
set_option maxHeartbeats 8000000 in
theorem tangled_any {ad : Option Addr} {b cap : Nat} {L : List Pc} (ll : L.length ≤ 5000) (hok : ∀ i, i < L.length → okP (px L i)) (w : World) (h : PSl w ad b cap L) : Calls Tryd.prog 27 #[.slice ad L.length cap] w fun e w' => e = .returned (.bool (decide (tgP L))) ∧ Gr w w' := by
  generalize hr : decide (tgP L) = res
  have HT : Hid (∀ i, i < L.length → ∀ k, k < i → mtP (px L i) (px L k) → res = true) := fun i hi k hk hm => by rw [← hr]; exact decide_eq_true ⟨i, hi, k, hk, hm⟩
  have HF : Hid ((∀ i, i < L.length → ∀ k, k < i → ¬ mtP (px L i) (px L k)) → res = false) := fun hh => by rw [← hr]; exact decide_eq_false (fun ⟨i, hi, k, hk, hm⟩ => hh i hi k hk hm)
  have HR := hidb h
  have HOK := hidb hok
  clear hr hok
  obtain ⟨n, hn⟩ : ∃ n, n = L.length := ⟨_, rfl⟩
  have HX := hidb (fun k (hk : k < n) => h.ix (k := k) (by rw [← hn]; exact hk))
  have HA := hidb (fun k (hk : k < n) => h.ad k (by rw [← hn]; exact hk))
  have HNn := hidb hn
  rw [← hn] at HX HA HT HF HOK ll ⊢
  have HL := hidb ll
  clear hn h
  go_enter Tryd.func27, Tryd.ntmps27
  go_wp2
  go_loopw [9] (fun t wr => ∃ (i : Nat), i ≤ n ∧ t = .int .i64 (i : Int) ∧ Hid (∀ j, j < i → ∀ k, k < j → ¬ mtP (px L j) (px L k)) ∧ Hid (Gr w wr)) (fun t _ => n - (intOf t).toNat)
  case atStart => exact ⟨0, Nat.zero_le _, rfl, (by intro j hj; omega), Gr.refl _⟩
  case round =>
    obtain ⟨i, hi, rfl, HI, HG⟩ := hrel
    by_cases h1 : ¬ i < n
    · have h1' : ¬ (i : Int) < (n : Int) := by omega
      obtain rfl : i = n := by omega
      obtain rfl := HF.out HI.out
      clear h1
      go_wp2
      go_ret
      exact ⟨rfl, HG.out⟩
    · have h1' : (i : Int) < (n : Int) := by omega
      have hin : i < n := by omega
      have HIN := hidb hin
      have ix := HX.out i hin
      obtain ⟨had, hcap⟩ := HA.out i hin
      obtain ⟨⟨c0, c1, c2, c3⟩, cb⟩ := (HR.out.gr HG.out).row i (by rw [← HNn.out]; exact hin)
      have hsl := pslice b n cap i (by rw [HNn.out] at hin; omega)
      have e1 : IntKind.i64.wrap ((i : Int) + 1) = ((i + 1 : Nat) : Int) := by rw [show (i : Int) + 1 = ((i + 1 : Nat) : Int) by omega]; exact wr_in (by omega) (by omega)
      have HE1 := hidb e1
      have hpi := HOK.out i hin
      have HPI := hidb hpi
      have HTi := hidb (HT.out i hin)
      have HPe := hidb (fun (k : Nat) => (HOK.out k))
      subst had
      have HcI := hidb hcap
      generalize hpp : px L i = p at *
      have HPP := hidb hpp
      have FP := At.new4 wr (.int .i64 p.1.1) (.int .i64 p.1.2) (.int .i64 p.2.1) (.int .i64 p.2.2) 84
      have HG1 := hidb (HG.out.alloc (.cells #[.int .i64 p.1.1, .int .i64 p.1.2, .int .i64 p.2.1, .int .i64 p.2.2] 84))
      obtain ⟨B, hB⟩ : ∃ B, B = wr.heap.size := ⟨_, rfl⟩
      clear h1 e1 hpi hpp hcap cb
      go_upto_region 4 with fail
      rw [← hB] at FP ⊢
      generalize wr.alloc (.cells #[.int .i64 p.1.1, .int .i64 p.1.2, .int .i64 p.2.1, .int .i64 p.2.2] 84) = W1 at *
      have HFP := hidb FP
      clear hB HG c0 c1 c2 c3 FP
      go_wp2
      clear hsl
      go_loopw [18] (fun t wx => ∃ (k : Nat), k ≤ i ∧ t = .int .i64 (k : Int) ∧ Hid (∀ j, j < k → ¬ mtP p (px L j)) ∧ Hid (Gr W1 wx)) (fun t _ => i - (intOf t).toNat)
      case atStart => exact ⟨0, Nat.zero_le _, rfl, (by intro j hj; omega), Gr.refl _⟩
      case round =>
        obtain ⟨k, hk, rfl, HK, HG⟩ := hrel
        by_cases h2 : ¬ k < i
        · have h2' : ¬ (k : Int) < (i : Int) := by omega
          obtain rfl : k = i := by omega
          have HI2 : Hid (∀ j, j < k + 1 → ∀ m, m < j → ¬ mtP (px L j) (px L m)) := fun j hj => by
            rcases Nat.lt_succ_iff_lt_or_eq.1 hj with c | c
            · exact HI.out j c
            · subst c; rw [HPP.out]; exact HK.out
          have e1 := HE1.out
          clear h2
          go_wp2
          go_roundw
          case rel => exact ⟨k + 1, HIN.out, by go_num, HI2, Gr.step HG1.out HG.out.out⟩
          case measure => have := HIN.out; simp [intOf]; omega
        · have h2' : (k : Int) < (i : Int) := by omega
          have hki : k < i := by omega
          have HKI := hidb hki
          have ix2 := pindex b i cap k hki
          obtain ⟨⟨c0, c1, c2, c3⟩, cb⟩ := (HR.out.gr (Gr.step HG1.out HG.out.out)).row k (by rw [← HNn.out]; have := HIN.out; omega)
          have e2 : IntKind.i64.wrap ((k : Int) + 1) = ((k + 1 : Nat) : Int) := by rw [show (k : Int) + 1 = ((k + 1 : Nat) : Int) by omega]; exact wr_in (by omega) (by have := HIN.out; have := HL.out; omega)
          have HM := hidb (fun w => meet_any HPI.out (HPe.out k (by have := HIN.out; omega)) w)
          have HTk := hidb (HTi.out k hki)
          have HK2 : Hid (¬ mtP p (px L k) → ∀ j, j < k + 1 → ¬ mtP p (px L j)) := fun hh j hj => by
            rcases Nat.lt_succ_iff_lt_or_eq.1 hj with c | c
            · exact HK.out j c
            · subst c; exact hh
          have HE2 := hidb e2
          generalize px L k = q at *
          have FP := (At.below HG.out.out HFP.out).alloc (.cells #[.int .i64 q.1.1, .int .i64 q.1.2, .int .i64 q.2.1, .int .i64 q.2.2] 84)
          have FQ := At.new4 wr (.int .i64 q.1.1) (.int .i64 q.1.2) (.int .i64 q.2.1) (.int .i64 q.2.2) 84
          have HG2 := hidb (HG.out.alloc (.cells #[.int .i64 q.1.1, .int .i64 q.1.2, .int .i64 q.2.1, .int .i64 q.2.2] 84))
          clear h2 hki e2 cb
          go_upto_region 7 with fail
          clear c0 c1 c2 c3 ix2
          generalize wr.alloc (.cells #[.int .i64 q.1.1, .int .i64 q.1.2, .int .i64 q.2.1, .int .i64 q.2.2] 84) = W2 at *
          obtain ⟨a0, a1, a2, a3⟩ := FP.c4
          obtain ⟨b0, b1, b2, b3⟩ := FQ.c4
          go_wp2_with fail
          refine (HM.out _).mono ?_
          rintro e w5 ⟨rfl, hB⟩
          replace HG2 := hidb (Gr.step HG2.out hB.out)
          clear a0 a1 a2 a3 b0 b1 b2 b3 hB FP FQ
          by_cases d : mtP p q
          · rw [decide_eq_true d]
            obtain rfl := HTk.out d
            clear d
            go_wp2
            go_ret
            exact ⟨rfl, Gr.step HG1.out HG2.out⟩
          · rw [decide_eq_false d]
            have HK3 := hidb (HK2.out d)
            have e2 := HE2.out
            clear d
            go_wp2
            go_roundw
            case rel => exact ⟨k + 1, HKI.out, by go_num, HK3, HG2⟩
            case measure => have := HKI.out; simp [intOf]; omega
end Go.Proofs.YtnadgoomkaldkaaDoor
