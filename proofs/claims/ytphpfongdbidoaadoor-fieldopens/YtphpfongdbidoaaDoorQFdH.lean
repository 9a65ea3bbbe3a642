/-
  field.Both of rasters that are alike.
-/
import Derived.Test.YtphpfongdbidoaaDoorQFdG
namespace Go.Proofs.YtphpfongdbidoaaDoor
open Go.RowKit

theorem keep1 {W : World} {b i c j : Nat} {v : Value} (h : W.cell? ⟨b, i, none⟩ = some v) (hne : ¬ c = b) (u : Value) : (W.setCell ⟨c, j, none⟩ u).cell? ⟨b, i, none⟩ = some v := by
  have hn : ¬ b = c := fun e => hne e.symm
  simp [go_sem, h]
/-- What lies in memory while Both goes from cell to cell. -/
structure BI (w wr : World) (P B C : Nat) (W H W' H' : Int) (v v' u : Value) (c : List Int) : Prop where
  p0 : At wr P [.int .i64 W, .int .i64 H, v]
  p1 : At wr (P + 1) [.int .i64 W', .int .i64 H', v']
  p2 : At wr (P + 1 + 1) [.int .i64 0, .int .i64 0, .slice none 0 0]
  pc : At wr C [.int .i64 W, .int .i64 H, u]
  pb : At wr B (ir c)
  gr : Gr w wr
  le : w.heap.size ≤ P
  lb : P + 1 + 1 < B
  lc : B < C
theorem BI.below {w wr w' : World} {P B C : Nat} {W H W' H' : Int} {v v' u : Value} {c : List Int} (hB : Below wr.heap.size wr w') (h : BI w wr P B C W H W' H' v v' u c) : BI w w' P B C W H W' H' v v' u c :=
  ⟨At.below hB h.p0, At.below hB h.p1, At.below hB h.p2, At.below hB h.pc, At.below hB h.pb, Gr.step h.gr hB, h.le, h.lb, h.lc⟩
theorem BI.put {w wr : World} {P B C : Nat} {W H W' H' : Int} {v v' u : Value} {c c' : List Int} (h : BI w wr P B C W H W' H' v v' u c) {k : Nat} {x : Int} (hc : (ir c).set k (.int .i64 x) = ir c') : BI w (wr.setCell ⟨B, k, none⟩ (.int .i64 x)) P B C W H W' H' v v' u c' := by
  have h1 := h.lb
  have h2 := h.lc
  have h3 := h.le
  exact ⟨h.p0.skip (by omega) _ _, h.p1.skip (by omega) _ _, h.p2.skip (by omega) _ _, h.pc.skip (by omega) _ _, by rw [← hc]; exact h.pb.put k _, h.gr.set (by omega) _ _, h.le, h.lb, h.lc⟩
theorem BI.drewN {w wr : World} {P B C : Nat} {W H W' H' : Int} {v v' u : Value} {c : List Int} (h : BI w wr P B C W H W' H' v v' u c) (n : Nat) : BI w (wr.drewN n) P B C W H W' H' v v' u c := ⟨h.p0.drewN n, h.p1.drewN n, h.p2.drewN n, h.pc.drewN n, h.pb.drewN n, h.gr.drewN n, h.le, h.lb, h.lc⟩
theorem BI.drew {w wr : World} {P B C : Nat} {W H W' H' : Int} {v v' u : Value} {c : List Int} (h : BI w wr P B C W H W' H' v v' u c) : BI w wr.drew P B C W H W' H' v v' u c := ⟨h.p0.drew, h.p1.drew, h.p2.drew, h.pc.drew, h.pb.drew, h.gr.drew, h.le, h.lb, h.lc⟩
set_option maxRecDepth 4000 in
set_option maxHeartbeats 8000000 in
theorem both_ok43 (g : Nat → Addr) {W H W' H' : Int} {ad ad' : Option Addr} {b b' o o' cap cap' : Nat} {l l' : List Int} (w : World) (hs : ISl w ad b o cap l) (hs' : ISl w ad' b' o' cap' l') (ll : l.length ≤ 20000) (ll' : l'.length ≤ 20000) (hl : Lai w g) (hc : acode W H l W' H' l' = 0) : Calls Tryd.prog 21 #[raV W H (.slice ad l.length cap), raV W' H' (.slice ad' l'.length cap'), .int .u8 43] w fun e w' => Gr w w' ∧ ((vcode W H (bothL 43 l l') = 0 ∧ ∃ B, e = .returned (.tuple #[raV W H (.slice (some ⟨B, 0, none⟩) l.length l.length), .nilIface]) ∧ At w' B (ir (bothL 43 l l')) ∧ w.heap.size ≤ B) ∨ (¬ vcode W H (bothL 43 l l') = 0 ∧ e = .returned (.tuple #[raV 0 0 (.slice none 0 0), evc g (vcode W H (bothL 43 l l'))]))) := by
  have hk : knI 43 := by decide
  obtain ⟨v1, v2, hW, hH⟩ := acode_zero hc
  obtain ⟨⟨w1, w2⟩, ⟨h1, h2⟩, hn, hi1⟩ := vcode_zero v1
  obtain ⟨_, _, hn', hi2⟩ := vcode_zero v2
  have hle : l'.length = l.length := by subst hW hH; omega
  have C1 := hidb (fun w1 (hB : Gr w w1) => alike_any g (W := W) (H := H) (W' := W') (H' := H') w1 (hs.below hB.out) (hs'.below hB.out) ll ll' (hl.below hB.out))
  rw [hc, show evc g 0 = .nilIface from rfl] at C1
  have C2 := hidb (fun w => oneOf_kn 43 hk w)
  have C3 := hidb (fun x y hx hy w => fnN_any 43 hk x y hx hy w)
  have C4 := hidb (fun w => blank_any W H l.length hn ll w)
  have HL := hidb hl
  have HS := hidb hs
  have HS' := hidb hs'
  have HLe := hidb hle
  have HI := hidb hi1
  have HI' := hidb hi2
  rw [show fnN 43 = 45 from rfl] at C2 C3
  clear hk
  obtain ⟨n, hn0⟩ : ∃ n, n = l.length := ⟨_, rfl⟩
  have HN := hidb hn0
  have lln : n ≤ 20000 := by omega
  have X1 : Hid (∀ k : Nat, k < n → ∀ w, (Instr.indexAt 25 (.slice ad n cap) (.int .i64 k)).run Tryd.prog w = .ok (.pointer (some ⟨b, o + k, none⟩)) w) := by rw [hn0]; exact HS.out.ix
  have X2 : Hid (∀ k : Nat, k < n → ∀ w, (Instr.indexAt 25 (.slice ad' n cap') (.int .i64 k)).run Tryd.prog w = .ok (.pointer (some ⟨b', o' + k, none⟩)) w) := by rw [hn0, ← hle]; exact HS'.out.ix
  rw [hle, ← hn0] at C1 ⊢
  rw [← hn0] at C4
  have G0 := hidb ((((Gr.refl w).alloc (.cells #[.int .i64 W, .int .i64 H, .slice ad n cap] 27)).alloc (.cells #[.int .i64 W', .int .i64 H', .slice ad' n cap'] 27)).alloc (.cells #[.int .i64 0, .int .i64 0, .slice none 0 0] 27))
  have A0 := hidb (((At.new3 w (.int .i64 W) (.int .i64 H) (.slice ad n cap) 27).alloc (.cells #[.int .i64 W', .int .i64 H', .slice ad' n cap'] 27)).alloc (.cells #[.int .i64 0, .int .i64 0, .slice none 0 0] 27))
  have A1 := hidb ((At.nx3 (W := w) (.cells #[.int .i64 W, .int .i64 H, .slice ad n cap] 27) (.int .i64 W') (.int .i64 H') (.slice ad' n cap') 27).alloc (.cells #[.int .i64 0, .int .i64 0, .slice none 0 0] 27))
  have A2 := hidb (At.ny3 (W := w) (.cells #[.int .i64 W, .int .i64 H, .slice ad n cap] 27) (.cells #[.int .i64 W', .int .i64 H', .slice ad' n cap'] 27) (.int .i64 0) (.int .i64 0) (.slice none 0 0) 27)
  clear hs hs' ll ll' hl hc v1 v2 hW hH w1 w2 h1 h2 hn hn' hi1 hi2 hle hn0
  go_enter Tryd.func21, Tryd.ntmps21
  go_wp2_with fail
  refine (C1.out _ G0.out).mono ?_
  rintro e w1 ⟨rfl, hB⟩
  replace G0 := hidb (Gr.step G0.out hB)
  replace A0 := hidb (At.below hB.out A0.out)
  replace A1 := hidb (At.below hB.out A1.out)
  replace A2 := hidb (At.below hB.out A2.out)
  have hP : Hid (w.heap.size ≤ w.heap.size) := Nat.le_refl _
  obtain ⟨P, hPe⟩ : ∃ P, P = w.heap.size := ⟨_, rfl⟩
  rw [← hPe] at A0 A1 A2 hP ⊢
  have LE : Hid (w.heap.size ≤ P) := by rw [hPe]; exact Nat.le_refl _
  clear hB hP hPe
  go_wp2_with fail
  refine (C2.out _).mono ?_
  rintro e w2 ⟨rfl, rfl⟩
  have fne : ∀ w, (binOp .eql 51 (.func (.func 45) #[] #[]) .nilFunc).run Tryd.prog w = .ok (.bool false) w := fun w => by kernel_rfl
  obtain ⟨a0, a1, a2⟩ := A0.out.c3
  go_wp2_with fail
  refine (C4.out _).mono ?_
  rintro e w3 ⟨B, rfl, hAB, hPB, hB⟩
  have I0 : Hid (BI w (w3.alloc (.cells #[.int .i64 W, .int .i64 H, .slice (some ⟨B, 0, none⟩) n n] 27)) P B w3.heap.size W H W' H' (.slice ad n cap) (.slice ad' n cap') (.slice (some ⟨B, 0, none⟩) n n) (soFar 43 l l' 0)) := by
    have hb := At.lt A2.out
    refine ⟨(At.below hB.out A0.out).alloc _, (At.below hB.out A1.out).alloc _, (At.below hB.out A2.out).alloc _, At.new3 _ _ _ _ _, ?_, (Gr.step G0.out hB.out).alloc _, LE.out, by omega, hAB.lt⟩
    rw [soFar_zero, ← HN.out]
    exact hAB.alloc _
  clear A0 A1 A2 hAB hPB hB a0 a1 a2 G0
  go_wp2
  generalize w3.alloc (.cells #[.int .i64 W, .int .i64 H, .slice (some ⟨B, 0, none⟩) n n] 27) = w4 at *
  generalize w3.heap.size = C at *
  go_loopw [34] (fun t wr => ∃ (k : Nat), k ≤ n ∧ t = .int .i64 (k : Int) ∧ Hid (BI w wr P B C W H W' H' (.slice ad n cap) (.slice ad' n cap') (.slice (some ⟨B, 0, none⟩) n n) (soFar 43 l l' k))) (fun t _ => n - (intOf t).toNat)
  case atStart => exact ⟨0, Nat.zero_le _, rfl, I0⟩
  case round =>
    clear I0
    obtain ⟨k, hk, rfl, IK⟩ := hrel
    by_cases h1 : k < n
    · have h1l : k < l.length := by rw [← HN.out]; exact h1
      have h1r : k < l'.length := by rw [HLe.out]; exact h1l
      have c0 := (HS.out.below IK.out.gr.out).cell h1l
      have c1 := (HS'.out.below IK.out.gr.out).cell h1r
      have ix := X1.out k h1
      have ix' := X2.out k h1
      have ixB := fun w => iindex B 0 n n k h1 w
      simp only [Nat.zero_add] at ixB
      obtain ⟨_, _, q0⟩ := IK.out.p0.c3
      obtain ⟨_, _, q1⟩ := IK.out.p1.c3
      obtain ⟨_, _, q2⟩ := IK.out.pc.c3
      have CB := (IK.out.pb.1 k (by simp [soFar, bothL, HLe.out]; omega))
      obtain ⟨cb, fb⟩ := CB
      have HX := hidb (HI.out l[k] (List.getElem_mem _))
      have HY := hidb (HI'.out l'[k] (List.getElem_mem _))
      have HST := hidb (soFar_set (h := 43) HLe.out h1l)
      generalize l[k] = x at *
      generalize l'[k] = y at *
      generalize (ir (soFar 43 l l' k))[k]'_ = z at *
      have lb := IK.out.lb
      have lc := IK.out.lc
      have lp := IK.out.le
      have n1 : ¬ B = C := by omega
      have n2 : ¬ B = P := by omega
      have n3 : ¬ B = P + 1 := by omega
      have n4 : ¬ B = b := by have : b < w.heap.size := lt_of_cell (HS.out.cell h1l); omega
      have n5 : ¬ B = b' := by have : b' < w.heap.size := lt_of_cell (HS'.out.cell h1r); omega
      clear lb lc lp
      go_upto_region 11 with fail
      go_region_held3 (fun w' => w'.cell? ⟨C, 2, none⟩ = some (.slice (some ⟨B, 0, none⟩) n n) ∧ w'.cell? ⟨P, 2, none⟩ = some (.slice ad n cap) ∧ w'.cell? ⟨P + 1, 2, none⟩ = some (.slice ad' n cap') ∧ w'.cell? ⟨b, o + k, none⟩ = some (.int .i64 x) ∧ w'.cell? ⟨b', o' + k, none⟩ = some (.int .i64 y)) (first | exact ⟨q2, q0, q1, c0, c1⟩ | exact ⟨keep1 q2 n1 _, keep1 q0 n2 _, keep1 q1 n3 _, keep1 c0 n4 _, keep1 c1 n5 _⟩)
        ((with_reducible refine (C3.out x y HX.out HY.out _).mono ?_; rintro e w8 ⟨rfl, rfl⟩))
      all_goals
        clear q0 q1 q2 c0 c1 ix ix' ixB cb fb n1 n2 n3 n4 n5
        go_wp2
        go_roundw
        case rel => exact ⟨k + 1, by omega, by go_num, by first | exact IK.out.put HST.out | exact (IK.out.put HST.out).drew⟩
        case measure => simp [intOf]; omega
    · have hkn : k = n := by omega
      have IE : Hid (BI w wr P B C W H W' H' (.slice ad n cap) (.slice ad' n cap') (.slice (some ⟨B, 0, none⟩) n n) (bothL 43 l l')) := by
        have := IK.out
        rw [hkn, HN.out, soFar_end HLe.out] at this
        rw [HN.out]
        exact this
      clear hkn IK
      have LB : Hid ((bothL 43 l l').length = n) := by rw [HN.out]; exact bothL_len HLe.out
      have C5 := hidb (fun w5 (hB : Gr w w5) hA => valid_lai g W H (some ⟨B, 0, none⟩) B 0 n (bothL 43 l l') w5 hA (by rw [LB.out]; exact lln) (HL.out.below hB.out))
      rw [LB.out] at C5
      obtain ⟨q0, q1, q2⟩ := IE.out.pc.c3
      go_wp2_with fail
      refine (C5.out _ IE.out.gr (At.isl IE.out.pb n)).mono ?_
      rintro e w5 ⟨rfl, hB⟩
      replace IE := hidb (IE.out.below hB.out)
      clear hB q0 q1 q2
      obtain ⟨q0, q1, q2⟩ := IE.out.pc.c3
      obtain ⟨r0, r1, r2⟩ := IE.out.p2.c3
      obtain ⟨f0, f1, f2⟩ := IE.out.p2.f3
      have RH := IE.out.p2.has (n := 3) rfl
      have lb := IE.out.lb
      have lc := IE.out.lc
      have lp := IE.out.le
      by_cases cv : vcode W H (bothL 43 l l') = 0
      · rw [cv, show evc g 0 = .nilIface from rfl]
        clear lp
        go_wp2
        refine bodyPost_ret (v := .tuple #[raV W H (.slice (some ⟨B, 0, none⟩) n n), .nilIface]) (by simp [results, Tryd.results21, go_sem, r0, r1, r2]) rfl ⟨?_, .inl ⟨cv, B, rfl, ?_, by have lp := IE.out.le; omega⟩⟩
        · have lp := IE.out.le
          exact ((IE.out.gr.set (by omega) _ _).set (by omega) _ _).set (by omega) _ _
        · exact ((IE.out.pb.skip (by omega) _ _).skip (by omega) _ _).skip (by omega) _ _
      · obtain ⟨i, hi⟩ := evc_ne g cv
        rw [hi]
        clear lp
        go_wp2
        refine bodyPost_ret (v := .tuple #[raV 0 0 (.slice none 0 0), errV g i]) (by simp [results, Tryd.results21, go_sem, r0, r1, r2]) rfl ⟨?_, .inr ⟨cv, by rw [hi]⟩⟩
        have lp := IE.out.le
        exact ((IE.out.gr.set (by omega) _ _).set (by omega) _ _).set (by omega) _ _
set_option maxRecDepth 4000 in
set_option maxHeartbeats 8000000 in
theorem both_ok45 (g : Nat → Addr) {W H W' H' : Int} {ad ad' : Option Addr} {b b' o o' cap cap' : Nat} {l l' : List Int} (w : World) (hs : ISl w ad b o cap l) (hs' : ISl w ad' b' o' cap' l') (ll : l.length ≤ 20000) (ll' : l'.length ≤ 20000) (hl : Lai w g) (hc : acode W H l W' H' l' = 0) : Calls Tryd.prog 21 #[raV W H (.slice ad l.length cap), raV W' H' (.slice ad' l'.length cap'), .int .u8 45] w fun e w' => Gr w w' ∧ ((vcode W H (bothL 45 l l') = 0 ∧ ∃ B, e = .returned (.tuple #[raV W H (.slice (some ⟨B, 0, none⟩) l.length l.length), .nilIface]) ∧ At w' B (ir (bothL 45 l l')) ∧ w.heap.size ≤ B) ∨ (¬ vcode W H (bothL 45 l l') = 0 ∧ e = .returned (.tuple #[raV 0 0 (.slice none 0 0), evc g (vcode W H (bothL 45 l l'))]))) := by
  have hk : knI 45 := by decide
  obtain ⟨v1, v2, hW, hH⟩ := acode_zero hc
  obtain ⟨⟨w1, w2⟩, ⟨h1, h2⟩, hn, hi1⟩ := vcode_zero v1
  obtain ⟨_, _, hn', hi2⟩ := vcode_zero v2
  have hle : l'.length = l.length := by subst hW hH; omega
  have C1 := hidb (fun w1 (hB : Gr w w1) => alike_any g (W := W) (H := H) (W' := W') (H' := H') w1 (hs.below hB.out) (hs'.below hB.out) ll ll' (hl.below hB.out))
  rw [hc, show evc g 0 = .nilIface from rfl] at C1
  have C2 := hidb (fun w => oneOf_kn 45 hk w)
  have C3 := hidb (fun x y hx hy w => fnN_any 45 hk x y hx hy w)
  have C4 := hidb (fun w => blank_any W H l.length hn ll w)
  have HL := hidb hl
  have HS := hidb hs
  have HS' := hidb hs'
  have HLe := hidb hle
  have HI := hidb hi1
  have HI' := hidb hi2
  rw [show fnN 45 = 46 from rfl] at C2 C3
  clear hk
  obtain ⟨n, hn0⟩ : ∃ n, n = l.length := ⟨_, rfl⟩
  have HN := hidb hn0
  have lln : n ≤ 20000 := by omega
  have X1 : Hid (∀ k : Nat, k < n → ∀ w, (Instr.indexAt 25 (.slice ad n cap) (.int .i64 k)).run Tryd.prog w = .ok (.pointer (some ⟨b, o + k, none⟩)) w) := by rw [hn0]; exact HS.out.ix
  have X2 : Hid (∀ k : Nat, k < n → ∀ w, (Instr.indexAt 25 (.slice ad' n cap') (.int .i64 k)).run Tryd.prog w = .ok (.pointer (some ⟨b', o' + k, none⟩)) w) := by rw [hn0, ← hle]; exact HS'.out.ix
  rw [hle, ← hn0] at C1 ⊢
  rw [← hn0] at C4
  have G0 := hidb ((((Gr.refl w).alloc (.cells #[.int .i64 W, .int .i64 H, .slice ad n cap] 27)).alloc (.cells #[.int .i64 W', .int .i64 H', .slice ad' n cap'] 27)).alloc (.cells #[.int .i64 0, .int .i64 0, .slice none 0 0] 27))
  have A0 := hidb (((At.new3 w (.int .i64 W) (.int .i64 H) (.slice ad n cap) 27).alloc (.cells #[.int .i64 W', .int .i64 H', .slice ad' n cap'] 27)).alloc (.cells #[.int .i64 0, .int .i64 0, .slice none 0 0] 27))
  have A1 := hidb ((At.nx3 (W := w) (.cells #[.int .i64 W, .int .i64 H, .slice ad n cap] 27) (.int .i64 W') (.int .i64 H') (.slice ad' n cap') 27).alloc (.cells #[.int .i64 0, .int .i64 0, .slice none 0 0] 27))
  have A2 := hidb (At.ny3 (W := w) (.cells #[.int .i64 W, .int .i64 H, .slice ad n cap] 27) (.cells #[.int .i64 W', .int .i64 H', .slice ad' n cap'] 27) (.int .i64 0) (.int .i64 0) (.slice none 0 0) 27)
  clear hs hs' ll ll' hl hc v1 v2 hW hH w1 w2 h1 h2 hn hn' hi1 hi2 hle hn0
  go_enter Tryd.func21, Tryd.ntmps21
  go_wp2_with fail
  refine (C1.out _ G0.out).mono ?_
  rintro e w1 ⟨rfl, hB⟩
  replace G0 := hidb (Gr.step G0.out hB)
  replace A0 := hidb (At.below hB.out A0.out)
  replace A1 := hidb (At.below hB.out A1.out)
  replace A2 := hidb (At.below hB.out A2.out)
  have hP : Hid (w.heap.size ≤ w.heap.size) := Nat.le_refl _
  obtain ⟨P, hPe⟩ : ∃ P, P = w.heap.size := ⟨_, rfl⟩
  rw [← hPe] at A0 A1 A2 hP ⊢
  have LE : Hid (w.heap.size ≤ P) := by rw [hPe]; exact Nat.le_refl _
  clear hB hP hPe
  go_wp2_with fail
  refine (C2.out _).mono ?_
  rintro e w2 ⟨rfl, rfl⟩
  have fne : ∀ w, (binOp .eql 51 (.func (.func 46) #[] #[]) .nilFunc).run Tryd.prog w = .ok (.bool false) w := fun w => by kernel_rfl
  obtain ⟨a0, a1, a2⟩ := A0.out.c3
  go_wp2_with fail
  refine (C4.out _).mono ?_
  rintro e w3 ⟨B, rfl, hAB, hPB, hB⟩
  have I0 : Hid (BI w (w3.alloc (.cells #[.int .i64 W, .int .i64 H, .slice (some ⟨B, 0, none⟩) n n] 27)) P B w3.heap.size W H W' H' (.slice ad n cap) (.slice ad' n cap') (.slice (some ⟨B, 0, none⟩) n n) (soFar 45 l l' 0)) := by
    have hb := At.lt A2.out
    refine ⟨(At.below hB.out A0.out).alloc _, (At.below hB.out A1.out).alloc _, (At.below hB.out A2.out).alloc _, At.new3 _ _ _ _ _, ?_, (Gr.step G0.out hB.out).alloc _, LE.out, by omega, hAB.lt⟩
    rw [soFar_zero, ← HN.out]
    exact hAB.alloc _
  clear A0 A1 A2 hAB hPB hB a0 a1 a2 G0
  go_wp2
  generalize w3.alloc (.cells #[.int .i64 W, .int .i64 H, .slice (some ⟨B, 0, none⟩) n n] 27) = w4 at *
  generalize w3.heap.size = C at *
  go_loopw [34] (fun t wr => ∃ (k : Nat), k ≤ n ∧ t = .int .i64 (k : Int) ∧ Hid (BI w wr P B C W H W' H' (.slice ad n cap) (.slice ad' n cap') (.slice (some ⟨B, 0, none⟩) n n) (soFar 45 l l' k))) (fun t _ => n - (intOf t).toNat)
  case atStart => exact ⟨0, Nat.zero_le _, rfl, I0⟩
  case round =>
    clear I0
    obtain ⟨k, hk, rfl, IK⟩ := hrel
    by_cases h1 : k < n
    · have h1l : k < l.length := by rw [← HN.out]; exact h1
      have h1r : k < l'.length := by rw [HLe.out]; exact h1l
      have c0 := (HS.out.below IK.out.gr.out).cell h1l
      have c1 := (HS'.out.below IK.out.gr.out).cell h1r
      have ix := X1.out k h1
      have ix' := X2.out k h1
      have ixB := fun w => iindex B 0 n n k h1 w
      simp only [Nat.zero_add] at ixB
      obtain ⟨_, _, q0⟩ := IK.out.p0.c3
      obtain ⟨_, _, q1⟩ := IK.out.p1.c3
      obtain ⟨_, _, q2⟩ := IK.out.pc.c3
      have CB := (IK.out.pb.1 k (by simp [soFar, bothL, HLe.out]; omega))
      obtain ⟨cb, fb⟩ := CB
      have HX := hidb (HI.out l[k] (List.getElem_mem _))
      have HY := hidb (HI'.out l'[k] (List.getElem_mem _))
      have HST := hidb (soFar_set (h := 45) HLe.out h1l)
      generalize l[k] = x at *
      generalize l'[k] = y at *
      generalize (ir (soFar 45 l l' k))[k]'_ = z at *
      have lb := IK.out.lb
      have lc := IK.out.lc
      have lp := IK.out.le
      have n1 : ¬ B = C := by omega
      have n2 : ¬ B = P := by omega
      have n3 : ¬ B = P + 1 := by omega
      have n4 : ¬ B = b := by have : b < w.heap.size := lt_of_cell (HS.out.cell h1l); omega
      have n5 : ¬ B = b' := by have : b' < w.heap.size := lt_of_cell (HS'.out.cell h1r); omega
      clear lb lc lp
      go_upto_region 11 with fail
      go_region_held3 (fun w' => w'.cell? ⟨C, 2, none⟩ = some (.slice (some ⟨B, 0, none⟩) n n) ∧ w'.cell? ⟨P, 2, none⟩ = some (.slice ad n cap) ∧ w'.cell? ⟨P + 1, 2, none⟩ = some (.slice ad' n cap') ∧ w'.cell? ⟨b, o + k, none⟩ = some (.int .i64 x) ∧ w'.cell? ⟨b', o' + k, none⟩ = some (.int .i64 y)) (first | exact ⟨q2, q0, q1, c0, c1⟩ | exact ⟨keep1 q2 n1 _, keep1 q0 n2 _, keep1 q1 n3 _, keep1 c0 n4 _, keep1 c1 n5 _⟩)
        ((with_reducible refine (C3.out x y HX.out HY.out _).mono ?_; rintro e w8 ⟨rfl, rfl⟩))
      all_goals
        clear q0 q1 q2 c0 c1 ix ix' ixB cb fb n1 n2 n3 n4 n5
        go_wp2
        go_roundw
        case rel => exact ⟨k + 1, by omega, by go_num, by first | exact IK.out.put HST.out | exact (IK.out.put HST.out).drew⟩
        case measure => simp [intOf]; omega
    · have hkn : k = n := by omega
      have IE : Hid (BI w wr P B C W H W' H' (.slice ad n cap) (.slice ad' n cap') (.slice (some ⟨B, 0, none⟩) n n) (bothL 45 l l')) := by
        have := IK.out
        rw [hkn, HN.out, soFar_end HLe.out] at this
        rw [HN.out]
        exact this
      clear hkn IK
      have LB : Hid ((bothL 45 l l').length = n) := by rw [HN.out]; exact bothL_len HLe.out
      have C5 := hidb (fun w5 (hB : Gr w w5) hA => valid_lai g W H (some ⟨B, 0, none⟩) B 0 n (bothL 45 l l') w5 hA (by rw [LB.out]; exact lln) (HL.out.below hB.out))
      rw [LB.out] at C5
      obtain ⟨q0, q1, q2⟩ := IE.out.pc.c3
      go_wp2_with fail
      refine (C5.out _ IE.out.gr (At.isl IE.out.pb n)).mono ?_
      rintro e w5 ⟨rfl, hB⟩
      replace IE := hidb (IE.out.below hB.out)
      clear hB q0 q1 q2
      obtain ⟨q0, q1, q2⟩ := IE.out.pc.c3
      obtain ⟨r0, r1, r2⟩ := IE.out.p2.c3
      obtain ⟨f0, f1, f2⟩ := IE.out.p2.f3
      have RH := IE.out.p2.has (n := 3) rfl
      have lb := IE.out.lb
      have lc := IE.out.lc
      have lp := IE.out.le
      by_cases cv : vcode W H (bothL 45 l l') = 0
      · rw [cv, show evc g 0 = .nilIface from rfl]
        clear lp
        go_wp2
        refine bodyPost_ret (v := .tuple #[raV W H (.slice (some ⟨B, 0, none⟩) n n), .nilIface]) (by simp [results, Tryd.results21, go_sem, r0, r1, r2]) rfl ⟨?_, .inl ⟨cv, B, rfl, ?_, by have lp := IE.out.le; omega⟩⟩
        · have lp := IE.out.le
          exact ((IE.out.gr.set (by omega) _ _).set (by omega) _ _).set (by omega) _ _
        · exact ((IE.out.pb.skip (by omega) _ _).skip (by omega) _ _).skip (by omega) _ _
      · obtain ⟨i, hi⟩ := evc_ne g cv
        rw [hi]
        clear lp
        go_wp2
        refine bodyPost_ret (v := .tuple #[raV 0 0 (.slice none 0 0), errV g i]) (by simp [results, Tryd.results21, go_sem, r0, r1, r2]) rfl ⟨?_, .inr ⟨cv, by rw [hi]⟩⟩
        have lp := IE.out.le
        exact ((IE.out.gr.set (by omega) _ _).set (by omega) _ _).set (by omega) _ _
set_option maxRecDepth 4000 in
set_option maxHeartbeats 8000000 in
theorem both_ok62 (g : Nat → Addr) {W H W' H' : Int} {ad ad' : Option Addr} {b b' o o' cap cap' : Nat} {l l' : List Int} (w : World) (hs : ISl w ad b o cap l) (hs' : ISl w ad' b' o' cap' l') (ll : l.length ≤ 20000) (ll' : l'.length ≤ 20000) (hl : Lai w g) (hc : acode W H l W' H' l' = 0) : Calls Tryd.prog 21 #[raV W H (.slice ad l.length cap), raV W' H' (.slice ad' l'.length cap'), .int .u8 62] w fun e w' => Gr w w' ∧ ((vcode W H (bothL 62 l l') = 0 ∧ ∃ B, e = .returned (.tuple #[raV W H (.slice (some ⟨B, 0, none⟩) l.length l.length), .nilIface]) ∧ At w' B (ir (bothL 62 l l')) ∧ w.heap.size ≤ B) ∨ (¬ vcode W H (bothL 62 l l') = 0 ∧ e = .returned (.tuple #[raV 0 0 (.slice none 0 0), evc g (vcode W H (bothL 62 l l'))]))) := by
  have hk : knI 62 := by decide
  obtain ⟨v1, v2, hW, hH⟩ := acode_zero hc
  obtain ⟨⟨w1, w2⟩, ⟨h1, h2⟩, hn, hi1⟩ := vcode_zero v1
  obtain ⟨_, _, hn', hi2⟩ := vcode_zero v2
  have hle : l'.length = l.length := by subst hW hH; omega
  have C1 := hidb (fun w1 (hB : Gr w w1) => alike_any g (W := W) (H := H) (W' := W') (H' := H') w1 (hs.below hB.out) (hs'.below hB.out) ll ll' (hl.below hB.out))
  rw [hc, show evc g 0 = .nilIface from rfl] at C1
  have C2 := hidb (fun w => oneOf_kn 62 hk w)
  have C3 := hidb (fun x y hx hy w => fnN_any 62 hk x y hx hy w)
  have C4 := hidb (fun w => blank_any W H l.length hn ll w)
  have HL := hidb hl
  have HS := hidb hs
  have HS' := hidb hs'
  have HLe := hidb hle
  have HI := hidb hi1
  have HI' := hidb hi2
  rw [show fnN 62 = 28 from rfl] at C2 C3
  clear hk
  obtain ⟨n, hn0⟩ : ∃ n, n = l.length := ⟨_, rfl⟩
  have HN := hidb hn0
  have lln : n ≤ 20000 := by omega
  have X1 : Hid (∀ k : Nat, k < n → ∀ w, (Instr.indexAt 25 (.slice ad n cap) (.int .i64 k)).run Tryd.prog w = .ok (.pointer (some ⟨b, o + k, none⟩)) w) := by rw [hn0]; exact HS.out.ix
  have X2 : Hid (∀ k : Nat, k < n → ∀ w, (Instr.indexAt 25 (.slice ad' n cap') (.int .i64 k)).run Tryd.prog w = .ok (.pointer (some ⟨b', o' + k, none⟩)) w) := by rw [hn0, ← hle]; exact HS'.out.ix
  rw [hle, ← hn0] at C1 ⊢
  rw [← hn0] at C4
  have G0 := hidb ((((Gr.refl w).alloc (.cells #[.int .i64 W, .int .i64 H, .slice ad n cap] 27)).alloc (.cells #[.int .i64 W', .int .i64 H', .slice ad' n cap'] 27)).alloc (.cells #[.int .i64 0, .int .i64 0, .slice none 0 0] 27))
  have A0 := hidb (((At.new3 w (.int .i64 W) (.int .i64 H) (.slice ad n cap) 27).alloc (.cells #[.int .i64 W', .int .i64 H', .slice ad' n cap'] 27)).alloc (.cells #[.int .i64 0, .int .i64 0, .slice none 0 0] 27))
  have A1 := hidb ((At.nx3 (W := w) (.cells #[.int .i64 W, .int .i64 H, .slice ad n cap] 27) (.int .i64 W') (.int .i64 H') (.slice ad' n cap') 27).alloc (.cells #[.int .i64 0, .int .i64 0, .slice none 0 0] 27))
  have A2 := hidb (At.ny3 (W := w) (.cells #[.int .i64 W, .int .i64 H, .slice ad n cap] 27) (.cells #[.int .i64 W', .int .i64 H', .slice ad' n cap'] 27) (.int .i64 0) (.int .i64 0) (.slice none 0 0) 27)
  clear hs hs' ll ll' hl hc v1 v2 hW hH w1 w2 h1 h2 hn hn' hi1 hi2 hle hn0
  go_enter Tryd.func21, Tryd.ntmps21
  go_wp2_with fail
  refine (C1.out _ G0.out).mono ?_
  rintro e w1 ⟨rfl, hB⟩
  replace G0 := hidb (Gr.step G0.out hB)
  replace A0 := hidb (At.below hB.out A0.out)
  replace A1 := hidb (At.below hB.out A1.out)
  replace A2 := hidb (At.below hB.out A2.out)
  have hP : Hid (w.heap.size ≤ w.heap.size) := Nat.le_refl _
  obtain ⟨P, hPe⟩ : ∃ P, P = w.heap.size := ⟨_, rfl⟩
  rw [← hPe] at A0 A1 A2 hP ⊢
  have LE : Hid (w.heap.size ≤ P) := by rw [hPe]; exact Nat.le_refl _
  clear hB hP hPe
  go_wp2_with fail
  refine (C2.out _).mono ?_
  rintro e w2 ⟨rfl, rfl⟩
  have fne : ∀ w, (binOp .eql 51 (.func (.func 28) #[] #[]) .nilFunc).run Tryd.prog w = .ok (.bool false) w := fun w => by kernel_rfl
  obtain ⟨a0, a1, a2⟩ := A0.out.c3
  go_wp2_with fail
  refine (C4.out _).mono ?_
  rintro e w3 ⟨B, rfl, hAB, hPB, hB⟩
  have I0 : Hid (BI w (w3.alloc (.cells #[.int .i64 W, .int .i64 H, .slice (some ⟨B, 0, none⟩) n n] 27)) P B w3.heap.size W H W' H' (.slice ad n cap) (.slice ad' n cap') (.slice (some ⟨B, 0, none⟩) n n) (soFar 62 l l' 0)) := by
    have hb := At.lt A2.out
    refine ⟨(At.below hB.out A0.out).alloc _, (At.below hB.out A1.out).alloc _, (At.below hB.out A2.out).alloc _, At.new3 _ _ _ _ _, ?_, (Gr.step G0.out hB.out).alloc _, LE.out, by omega, hAB.lt⟩
    rw [soFar_zero, ← HN.out]
    exact hAB.alloc _
  clear A0 A1 A2 hAB hPB hB a0 a1 a2 G0
  go_wp2
  generalize w3.alloc (.cells #[.int .i64 W, .int .i64 H, .slice (some ⟨B, 0, none⟩) n n] 27) = w4 at *
  generalize w3.heap.size = C at *
  go_loopw [34] (fun t wr => ∃ (k : Nat), k ≤ n ∧ t = .int .i64 (k : Int) ∧ Hid (BI w wr P B C W H W' H' (.slice ad n cap) (.slice ad' n cap') (.slice (some ⟨B, 0, none⟩) n n) (soFar 62 l l' k))) (fun t _ => n - (intOf t).toNat)
  case atStart => exact ⟨0, Nat.zero_le _, rfl, I0⟩
  case round =>
    clear I0
    obtain ⟨k, hk, rfl, IK⟩ := hrel
    by_cases h1 : k < n
    · have h1l : k < l.length := by rw [← HN.out]; exact h1
      have h1r : k < l'.length := by rw [HLe.out]; exact h1l
      have c0 := (HS.out.below IK.out.gr.out).cell h1l
      have c1 := (HS'.out.below IK.out.gr.out).cell h1r
      have ix := X1.out k h1
      have ix' := X2.out k h1
      have ixB := fun w => iindex B 0 n n k h1 w
      simp only [Nat.zero_add] at ixB
      obtain ⟨_, _, q0⟩ := IK.out.p0.c3
      obtain ⟨_, _, q1⟩ := IK.out.p1.c3
      obtain ⟨_, _, q2⟩ := IK.out.pc.c3
      have CB := (IK.out.pb.1 k (by simp [soFar, bothL, HLe.out]; omega))
      obtain ⟨cb, fb⟩ := CB
      have HX := hidb (HI.out l[k] (List.getElem_mem _))
      have HY := hidb (HI'.out l'[k] (List.getElem_mem _))
      have HST := hidb (soFar_set (h := 62) HLe.out h1l)
      generalize l[k] = x at *
      generalize l'[k] = y at *
      generalize (ir (soFar 62 l l' k))[k]'_ = z at *
      have lb := IK.out.lb
      have lc := IK.out.lc
      have lp := IK.out.le
      have n1 : ¬ B = C := by omega
      have n2 : ¬ B = P := by omega
      have n3 : ¬ B = P + 1 := by omega
      have n4 : ¬ B = b := by have : b < w.heap.size := lt_of_cell (HS.out.cell h1l); omega
      have n5 : ¬ B = b' := by have : b' < w.heap.size := lt_of_cell (HS'.out.cell h1r); omega
      clear lb lc lp
      go_upto_region 11 with fail
      go_region_held3 (fun w' => w'.cell? ⟨C, 2, none⟩ = some (.slice (some ⟨B, 0, none⟩) n n) ∧ w'.cell? ⟨P, 2, none⟩ = some (.slice ad n cap) ∧ w'.cell? ⟨P + 1, 2, none⟩ = some (.slice ad' n cap') ∧ w'.cell? ⟨b, o + k, none⟩ = some (.int .i64 x) ∧ w'.cell? ⟨b', o' + k, none⟩ = some (.int .i64 y)) (first | exact ⟨q2, q0, q1, c0, c1⟩ | exact ⟨keep1 q2 n1 _, keep1 q0 n2 _, keep1 q1 n3 _, keep1 c0 n4 _, keep1 c1 n5 _⟩)
        ((with_reducible refine (C3.out x y HX.out HY.out _).mono ?_; rintro e w8 ⟨rfl, rfl⟩))
      all_goals
        clear q0 q1 q2 c0 c1 ix ix' ixB cb fb n1 n2 n3 n4 n5
        go_wp2
        go_roundw
        case rel => exact ⟨k + 1, by omega, by go_num, by first | exact IK.out.put HST.out | exact (IK.out.put HST.out).drew⟩
        case measure => simp [intOf]; omega
    · have hkn : k = n := by omega
      have IE : Hid (BI w wr P B C W H W' H' (.slice ad n cap) (.slice ad' n cap') (.slice (some ⟨B, 0, none⟩) n n) (bothL 62 l l')) := by
        have := IK.out
        rw [hkn, HN.out, soFar_end HLe.out] at this
        rw [HN.out]
        exact this
      clear hkn IK
      have LB : Hid ((bothL 62 l l').length = n) := by rw [HN.out]; exact bothL_len HLe.out
      have C5 := hidb (fun w5 (hB : Gr w w5) hA => valid_lai g W H (some ⟨B, 0, none⟩) B 0 n (bothL 62 l l') w5 hA (by rw [LB.out]; exact lln) (HL.out.below hB.out))
      rw [LB.out] at C5
      obtain ⟨q0, q1, q2⟩ := IE.out.pc.c3
      go_wp2_with fail
      refine (C5.out _ IE.out.gr (At.isl IE.out.pb n)).mono ?_
      rintro e w5 ⟨rfl, hB⟩
      replace IE := hidb (IE.out.below hB.out)
      clear hB q0 q1 q2
      obtain ⟨q0, q1, q2⟩ := IE.out.pc.c3
      obtain ⟨r0, r1, r2⟩ := IE.out.p2.c3
      obtain ⟨f0, f1, f2⟩ := IE.out.p2.f3
      have RH := IE.out.p2.has (n := 3) rfl
      have lb := IE.out.lb
      have lc := IE.out.lc
      have lp := IE.out.le
      by_cases cv : vcode W H (bothL 62 l l') = 0
      · rw [cv, show evc g 0 = .nilIface from rfl]
        clear lp
        go_wp2
        refine bodyPost_ret (v := .tuple #[raV W H (.slice (some ⟨B, 0, none⟩) n n), .nilIface]) (by simp [results, Tryd.results21, go_sem, r0, r1, r2]) rfl ⟨?_, .inl ⟨cv, B, rfl, ?_, by have lp := IE.out.le; omega⟩⟩
        · have lp := IE.out.le
          exact ((IE.out.gr.set (by omega) _ _).set (by omega) _ _).set (by omega) _ _
        · exact ((IE.out.pb.skip (by omega) _ _).skip (by omega) _ _).skip (by omega) _ _
      · obtain ⟨i, hi⟩ := evc_ne g cv
        rw [hi]
        clear lp
        go_wp2
        refine bodyPost_ret (v := .tuple #[raV 0 0 (.slice none 0 0), errV g i]) (by simp [results, Tryd.results21, go_sem, r0, r1, r2]) rfl ⟨?_, .inr ⟨cv, by rw [hi]⟩⟩
        have lp := IE.out.le
        exact ((IE.out.gr.set (by omega) _ _).set (by omega) _ _).set (by omega) _ _
set_option maxRecDepth 4000 in
set_option maxHeartbeats 8000000 in
theorem both_ok60 (g : Nat → Addr) {W H W' H' : Int} {ad ad' : Option Addr} {b b' o o' cap cap' : Nat} {l l' : List Int} (w : World) (hs : ISl w ad b o cap l) (hs' : ISl w ad' b' o' cap' l') (ll : l.length ≤ 20000) (ll' : l'.length ≤ 20000) (hl : Lai w g) (hc : acode W H l W' H' l' = 0) : Calls Tryd.prog 21 #[raV W H (.slice ad l.length cap), raV W' H' (.slice ad' l'.length cap'), .int .u8 60] w fun e w' => Gr w w' ∧ ((vcode W H (bothL 60 l l') = 0 ∧ ∃ B, e = .returned (.tuple #[raV W H (.slice (some ⟨B, 0, none⟩) l.length l.length), .nilIface]) ∧ At w' B (ir (bothL 60 l l')) ∧ w.heap.size ≤ B) ∨ (¬ vcode W H (bothL 60 l l') = 0 ∧ e = .returned (.tuple #[raV 0 0 (.slice none 0 0), evc g (vcode W H (bothL 60 l l'))]))) := by
  have hk : knI 60 := by decide
  obtain ⟨v1, v2, hW, hH⟩ := acode_zero hc
  obtain ⟨⟨w1, w2⟩, ⟨h1, h2⟩, hn, hi1⟩ := vcode_zero v1
  obtain ⟨_, _, hn', hi2⟩ := vcode_zero v2
  have hle : l'.length = l.length := by subst hW hH; omega
  have C1 := hidb (fun w1 (hB : Gr w w1) => alike_any g (W := W) (H := H) (W' := W') (H' := H') w1 (hs.below hB.out) (hs'.below hB.out) ll ll' (hl.below hB.out))
  rw [hc, show evc g 0 = .nilIface from rfl] at C1
  have C2 := hidb (fun w => oneOf_kn 60 hk w)
  have C3 := hidb (fun x y hx hy w => fnN_any 60 hk x y hx hy w)
  have C4 := hidb (fun w => blank_any W H l.length hn ll w)
  have HL := hidb hl
  have HS := hidb hs
  have HS' := hidb hs'
  have HLe := hidb hle
  have HI := hidb hi1
  have HI' := hidb hi2
  rw [show fnN 60 = 29 from rfl] at C2 C3
  clear hk
  obtain ⟨n, hn0⟩ : ∃ n, n = l.length := ⟨_, rfl⟩
  have HN := hidb hn0
  have lln : n ≤ 20000 := by omega
  have X1 : Hid (∀ k : Nat, k < n → ∀ w, (Instr.indexAt 25 (.slice ad n cap) (.int .i64 k)).run Tryd.prog w = .ok (.pointer (some ⟨b, o + k, none⟩)) w) := by rw [hn0]; exact HS.out.ix
  have X2 : Hid (∀ k : Nat, k < n → ∀ w, (Instr.indexAt 25 (.slice ad' n cap') (.int .i64 k)).run Tryd.prog w = .ok (.pointer (some ⟨b', o' + k, none⟩)) w) := by rw [hn0, ← hle]; exact HS'.out.ix
  rw [hle, ← hn0] at C1 ⊢
  rw [← hn0] at C4
  have G0 := hidb ((((Gr.refl w).alloc (.cells #[.int .i64 W, .int .i64 H, .slice ad n cap] 27)).alloc (.cells #[.int .i64 W', .int .i64 H', .slice ad' n cap'] 27)).alloc (.cells #[.int .i64 0, .int .i64 0, .slice none 0 0] 27))
  have A0 := hidb (((At.new3 w (.int .i64 W) (.int .i64 H) (.slice ad n cap) 27).alloc (.cells #[.int .i64 W', .int .i64 H', .slice ad' n cap'] 27)).alloc (.cells #[.int .i64 0, .int .i64 0, .slice none 0 0] 27))
  have A1 := hidb ((At.nx3 (W := w) (.cells #[.int .i64 W, .int .i64 H, .slice ad n cap] 27) (.int .i64 W') (.int .i64 H') (.slice ad' n cap') 27).alloc (.cells #[.int .i64 0, .int .i64 0, .slice none 0 0] 27))
  have A2 := hidb (At.ny3 (W := w) (.cells #[.int .i64 W, .int .i64 H, .slice ad n cap] 27) (.cells #[.int .i64 W', .int .i64 H', .slice ad' n cap'] 27) (.int .i64 0) (.int .i64 0) (.slice none 0 0) 27)
  clear hs hs' ll ll' hl hc v1 v2 hW hH w1 w2 h1 h2 hn hn' hi1 hi2 hle hn0
  go_enter Tryd.func21, Tryd.ntmps21
  go_wp2_with fail
  refine (C1.out _ G0.out).mono ?_
  rintro e w1 ⟨rfl, hB⟩
  replace G0 := hidb (Gr.step G0.out hB)
  replace A0 := hidb (At.below hB.out A0.out)
  replace A1 := hidb (At.below hB.out A1.out)
  replace A2 := hidb (At.below hB.out A2.out)
  have hP : Hid (w.heap.size ≤ w.heap.size) := Nat.le_refl _
  obtain ⟨P, hPe⟩ : ∃ P, P = w.heap.size := ⟨_, rfl⟩
  rw [← hPe] at A0 A1 A2 hP ⊢
  have LE : Hid (w.heap.size ≤ P) := by rw [hPe]; exact Nat.le_refl _
  clear hB hP hPe
  go_wp2_with fail
  refine (C2.out _).mono ?_
  rintro e w2 ⟨rfl, rfl⟩
  have fne : ∀ w, (binOp .eql 51 (.func (.func 29) #[] #[]) .nilFunc).run Tryd.prog w = .ok (.bool false) w := fun w => by kernel_rfl
  obtain ⟨a0, a1, a2⟩ := A0.out.c3
  go_wp2_with fail
  refine (C4.out _).mono ?_
  rintro e w3 ⟨B, rfl, hAB, hPB, hB⟩
  have I0 : Hid (BI w (w3.alloc (.cells #[.int .i64 W, .int .i64 H, .slice (some ⟨B, 0, none⟩) n n] 27)) P B w3.heap.size W H W' H' (.slice ad n cap) (.slice ad' n cap') (.slice (some ⟨B, 0, none⟩) n n) (soFar 60 l l' 0)) := by
    have hb := At.lt A2.out
    refine ⟨(At.below hB.out A0.out).alloc _, (At.below hB.out A1.out).alloc _, (At.below hB.out A2.out).alloc _, At.new3 _ _ _ _ _, ?_, (Gr.step G0.out hB.out).alloc _, LE.out, by omega, hAB.lt⟩
    rw [soFar_zero, ← HN.out]
    exact hAB.alloc _
  clear A0 A1 A2 hAB hPB hB a0 a1 a2 G0
  go_wp2
  generalize w3.alloc (.cells #[.int .i64 W, .int .i64 H, .slice (some ⟨B, 0, none⟩) n n] 27) = w4 at *
  generalize w3.heap.size = C at *
  go_loopw [34] (fun t wr => ∃ (k : Nat), k ≤ n ∧ t = .int .i64 (k : Int) ∧ Hid (BI w wr P B C W H W' H' (.slice ad n cap) (.slice ad' n cap') (.slice (some ⟨B, 0, none⟩) n n) (soFar 60 l l' k))) (fun t _ => n - (intOf t).toNat)
  case atStart => exact ⟨0, Nat.zero_le _, rfl, I0⟩
  case round =>
    clear I0
    obtain ⟨k, hk, rfl, IK⟩ := hrel
    by_cases h1 : k < n
    · have h1l : k < l.length := by rw [← HN.out]; exact h1
      have h1r : k < l'.length := by rw [HLe.out]; exact h1l
      have c0 := (HS.out.below IK.out.gr.out).cell h1l
      have c1 := (HS'.out.below IK.out.gr.out).cell h1r
      have ix := X1.out k h1
      have ix' := X2.out k h1
      have ixB := fun w => iindex B 0 n n k h1 w
      simp only [Nat.zero_add] at ixB
      obtain ⟨_, _, q0⟩ := IK.out.p0.c3
      obtain ⟨_, _, q1⟩ := IK.out.p1.c3
      obtain ⟨_, _, q2⟩ := IK.out.pc.c3
      have CB := (IK.out.pb.1 k (by simp [soFar, bothL, HLe.out]; omega))
      obtain ⟨cb, fb⟩ := CB
      have HX := hidb (HI.out l[k] (List.getElem_mem _))
      have HY := hidb (HI'.out l'[k] (List.getElem_mem _))
      have HST := hidb (soFar_set (h := 60) HLe.out h1l)
      generalize l[k] = x at *
      generalize l'[k] = y at *
      generalize (ir (soFar 60 l l' k))[k]'_ = z at *
      have lb := IK.out.lb
      have lc := IK.out.lc
      have lp := IK.out.le
      have n1 : ¬ B = C := by omega
      have n2 : ¬ B = P := by omega
      have n3 : ¬ B = P + 1 := by omega
      have n4 : ¬ B = b := by have : b < w.heap.size := lt_of_cell (HS.out.cell h1l); omega
      have n5 : ¬ B = b' := by have : b' < w.heap.size := lt_of_cell (HS'.out.cell h1r); omega
      clear lb lc lp
      go_upto_region 11 with fail
      go_region_held3 (fun w' => w'.cell? ⟨C, 2, none⟩ = some (.slice (some ⟨B, 0, none⟩) n n) ∧ w'.cell? ⟨P, 2, none⟩ = some (.slice ad n cap) ∧ w'.cell? ⟨P + 1, 2, none⟩ = some (.slice ad' n cap') ∧ w'.cell? ⟨b, o + k, none⟩ = some (.int .i64 x) ∧ w'.cell? ⟨b', o' + k, none⟩ = some (.int .i64 y)) (first | exact ⟨q2, q0, q1, c0, c1⟩ | exact ⟨keep1 q2 n1 _, keep1 q0 n2 _, keep1 q1 n3 _, keep1 c0 n4 _, keep1 c1 n5 _⟩)
        ((with_reducible refine (C3.out x y HX.out HY.out _).mono ?_; rintro e w8 ⟨rfl, rfl⟩))
      all_goals
        clear q0 q1 q2 c0 c1 ix ix' ixB cb fb n1 n2 n3 n4 n5
        go_wp2
        go_roundw
        case rel => exact ⟨k + 1, by omega, by go_num, by first | exact IK.out.put HST.out | exact (IK.out.put HST.out).drew⟩
        case measure => simp [intOf]; omega
    · have hkn : k = n := by omega
      have IE : Hid (BI w wr P B C W H W' H' (.slice ad n cap) (.slice ad' n cap') (.slice (some ⟨B, 0, none⟩) n n) (bothL 60 l l')) := by
        have := IK.out
        rw [hkn, HN.out, soFar_end HLe.out] at this
        rw [HN.out]
        exact this
      clear hkn IK
      have LB : Hid ((bothL 60 l l').length = n) := by rw [HN.out]; exact bothL_len HLe.out
      have C5 := hidb (fun w5 (hB : Gr w w5) hA => valid_lai g W H (some ⟨B, 0, none⟩) B 0 n (bothL 60 l l') w5 hA (by rw [LB.out]; exact lln) (HL.out.below hB.out))
      rw [LB.out] at C5
      obtain ⟨q0, q1, q2⟩ := IE.out.pc.c3
      go_wp2_with fail
      refine (C5.out _ IE.out.gr (At.isl IE.out.pb n)).mono ?_
      rintro e w5 ⟨rfl, hB⟩
      replace IE := hidb (IE.out.below hB.out)
      clear hB q0 q1 q2
      obtain ⟨q0, q1, q2⟩ := IE.out.pc.c3
      obtain ⟨r0, r1, r2⟩ := IE.out.p2.c3
      obtain ⟨f0, f1, f2⟩ := IE.out.p2.f3
      have RH := IE.out.p2.has (n := 3) rfl
      have lb := IE.out.lb
      have lc := IE.out.lc
      have lp := IE.out.le
      by_cases cv : vcode W H (bothL 60 l l') = 0
      · rw [cv, show evc g 0 = .nilIface from rfl]
        clear lp
        go_wp2
        refine bodyPost_ret (v := .tuple #[raV W H (.slice (some ⟨B, 0, none⟩) n n), .nilIface]) (by simp [results, Tryd.results21, go_sem, r0, r1, r2]) rfl ⟨?_, .inl ⟨cv, B, rfl, ?_, by have lp := IE.out.le; omega⟩⟩
        · have lp := IE.out.le
          exact ((IE.out.gr.set (by omega) _ _).set (by omega) _ _).set (by omega) _ _
        · exact ((IE.out.pb.skip (by omega) _ _).skip (by omega) _ _).skip (by omega) _ _
      · obtain ⟨i, hi⟩ := evc_ne g cv
        rw [hi]
        clear lp
        go_wp2
        refine bodyPost_ret (v := .tuple #[raV 0 0 (.slice none 0 0), errV g i]) (by simp [results, Tryd.results21, go_sem, r0, r1, r2]) rfl ⟨?_, .inr ⟨cv, by rw [hi]⟩⟩
        have lp := IE.out.le
        exact ((IE.out.gr.set (by omega) _ _).set (by omega) _ _).set (by omega) _ _
end Go.Proofs.YtphpfongdbidoaaDoor
