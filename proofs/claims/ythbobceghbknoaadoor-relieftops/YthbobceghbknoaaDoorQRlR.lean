/-
  Two rows of whole numbers that a call owns; relief.Tops.
-/
import Derived.Test.YthbobceghbknoaaDoorQRlQ
import Derived.Test.YthbobceghbknoaaDoorQJ2
import Derived.Maps.AppendAt
namespace Go.Proofs.YthbobceghbknoaaDoor
open Go.RowKit

/-- Two rows of whole numbers, in blocks of their own. -/
structure Two (W : World) (base : Nat) (v : Value) (l : List Int) (v' : Value) (l' : List Int) : Prop where
  r1 : W.ownsRow base 3 1 v l.length (ir l)
  r2 : W.ownsRow base 3 1 v' l'.length (ir l')
  ne : ∀ k, v.ownBlock = some k → v'.ownBlock ≠ some k
theorem Two.below {W w' : World} {base : Nat} {v v' : Value} {l l' : List Int} (h : Two W base v l v' l') (hB : Below W.heap.size W w') : Two w' base v l v' l' := ⟨own_keep h.r1 hB, own_keep h.r2 hB, h.ne⟩
theorem Two.nil (W : World) (base : Nat) : Two W base (.slice none 0 0) [] (.slice none 0 0) [] := ⟨World.ownsRow_nil _ _ _ _, World.ownsRow_nil _ _ _ _, fun k h => by cases h⟩
theorem two_kept {W w' : World} {base n : Nat} {v v' : Value} {xs : List Value} {o : Obj} (h : W.ownsRow base 3 1 v' n xs) (hg : (W.alloc o).grownBy w' v.ownBlock) (ne : ∀ k, v.ownBlock = some k → v'.ownBlock ≠ some k) : w'.ownsRow base 3 1 v' n xs := by
  refine (h.alloc o).kept hg ?_
  cases e : v'.ownBlock with
  | none => exact .inl rfl
  | some k => exact .inr (fun e2 => ne k e2.symm e)
theorem Two.app1 {W w' : World} {base : Nat} {v v' u : Value} {l l' : List Int} {x : Int} {o : Obj} (h : Two W base v l v' l') (hr : w'.ownsRow base 3 1 u (l.length + 1) (ir l ++ [.int .i64 x])) (hg : (W.alloc o).grownBy w' v.ownBlock) (hat : u.ownBlock = v.ownBlock ∨ u.ownBlock = some (W.heap.size + 1)) : Two w' base u (l ++ [x]) v' l' := by
  refine ⟨by rw [ir_snoc] at hr; simpa using hr, two_kept h.r2 hg h.ne, fun k hk => ?_⟩
  rcases hat with e | e
  · exact h.ne k (by rw [← e]; exact hk)
  · intro e2
    have h1 := (h.r2.lt k e2).2
    rw [e] at hk
    have : W.heap.size + 1 = k := by simpa using hk
    omega
theorem Two.app2 {W w' : World} {base : Nat} {v v' u : Value} {l l' : List Int} {x : Int} {o : Obj} (h : Two W base v l v' l') (hr : w'.ownsRow base 3 1 u (l'.length + 1) (ir l' ++ [.int .i64 x])) (hg : (W.alloc o).grownBy w' v'.ownBlock) (hat : u.ownBlock = v'.ownBlock ∨ u.ownBlock = some (W.heap.size + 1)) : Two w' base v l u (l' ++ [x]) := by
  refine ⟨two_kept h.r1 hg (fun k hk e => h.ne k e hk), by rw [ir_snoc] at hr; simpa using hr, fun k hk => ?_⟩
  rcases hat with e | e
  · rw [e]; exact h.ne k hk
  · intro e2
    have h1 := (h.r1.lt k hk).2
    rw [e] at e2
    have : W.heap.size + 1 = k := by simpa using e2
    omega
theorem at_app {W w' : World} {base e n B : Nat} {v : Value} {xs ys : List Value} {o : Obj} (h : At W B ys) (hO : W.ownsRow base e 1 v n xs) (hb : B < base) (hg : (W.alloc o).grownBy w' v.ownBlock) : At w' B ys := by
  have hne : some B ≠ v.ownBlock := fun e => by have := (hO.lt B e.symm).1; omega
  have hb' := hg.block B (h.alloc o).2 hne
  exact ⟨fun i hi => ⟨(World.cell?_of_block (w := W.alloc o) (a := ⟨B, i, none⟩) hb').trans ((h.alloc o).1 i hi).1, (World.frozen?_of_block (w := W.alloc o) (a := ⟨B, i, none⟩) hb').trans ((h.alloc o).1 i hi).2⟩, Nat.lt_of_lt_of_le (h.alloc o).2 hg.size⟩
/-- The numbers of which something is so. -/
def selL (p : Nat → Bool) (k : Nat) : List Int := ((List.range k).filter p).map fun (i : Nat) => (i : Int)
theorem selL_succ (p : Nat → Bool) (k : Nat) : selL p (k + 1) = if p k = true then selL p k ++ [(k : Int)] else selL p k := by
  unfold selL
  rw [List.range_succ, List.filter_append]
  by_cases h : p k = true
  · simp [h]
  · simp [h]
theorem selL_le (p : Nat → Bool) (k : Nat) : (selL p k).length ≤ k := by
  unfold selL
  rw [List.length_map]
  exact Nat.le_trans (List.length_filter_le _ _) (by simp)
theorem own_le {w : World} {base base' e size n : Nat} {v : Value} {xs : List Value} (h : w.ownsRow base e size v n xs) (hb : base' ≤ base) : w.ownsRow base' e size v n xs := by
  obtain ⟨h1, h2⟩ := h
  refine ⟨h1, ?_⟩
  rcases h2 with h2 | ⟨g, cap, cur, rfl, h3, h4, h5⟩
  · exact .inl h2
  · exact .inr ⟨g, cap, cur, rfl, Nat.le_trans hb h3, h4, h5⟩
theorem Two.mono {W : World} {base base' : Nat} {v v' : Value} {l l' : List Int} (h : Two W base v l v' l') (hb : base' ≤ base) : Two W base' v l v' l' := ⟨own_le h.r1 hb, own_le h.r2 hb, h.ne⟩
set_option maxRecDepth 4000 in
set_option maxHeartbeats 4000000 in
theorem tops_A (g : Nat → Addr) {W H : Int} {ad : Option Addr} {b o cap : Nat} {l : List Int} (w : World) (h : ISl w ad b o cap l) (ll : l.length ≤ 20000) (hl : Laid w g) (hv : ¬ vcode W H l = 0) : Calls Tryd.prog 13 #[raV W H (.slice ad l.length cap)] w fun e w' => e = .returned (.tuple #[.slice none 0 0, .slice none 0 0, errV g (vcode W H l - 1)]) ∧ Gr w w' := by
  have G0 := hidb ((Gr.refl w).alloc (.cells #[.int .i64 W, .int .i64 H, .slice ad l.length cap] 31))
  have C1 := hidb (valid_any g W H ad b o cap l _ (h.below G0.out.out) ll (hl.below G0.out.out))
  rw [evc_of hv] at C1
  generalize vcode W H l - 1 = ei at *
  clear h ll hl hv
  go_enter Tryd.func13, Tryd.ntmps13
  go_wp2_with fail
  refine C1.out.mono ?_
  rintro e w1 ⟨rfl, hB⟩
  have G1 := hidb (Gr.step G0.out hB.out)
  clear hB G0
  go_wp2
  refine bodyPost_ret (v := .tuple #[.slice none 0 0, .slice none 0 0, errV g ei]) (by simp [results, Tryd.results13, go_sem]) rfl ⟨rfl, G1.out⟩
set_option maxRecDepth 4000 in
set_option maxHeartbeats 16000000 in
theorem tops_B (g : Nat → Addr) {m n b o cap : Nat} {l : List Int} (w : World) (h : Rs w b o cap l) (ok : Ok l m n) (hv : vcode m n l = 0) (hl : Laid w g) : Calls Tryd.prog 13 #[raV m n (.slice (some ⟨b, o, none⟩) l.length cap)] w fun e w' => ∃ v v', e = .returned (.tuple #[v, v', .nilIface]) ∧ Two w' w.heap.size v (selL (fun i => decide (Top l m i)) l.length) v' (selL (fun i => decide (Bot l m i)) l.length) ∧ Gr w w' := by
  have ll := ok.len_le
  have G0 := hidb ((Gr.refl w).alloc (.cells #[.int .i64 m, .int .i64 n, .slice (some ⟨b, o, none⟩) l.length cap] 31))
  have A0 := hidb (At.new3 w (.int .i64 m) (.int .i64 n) (.slice (some ⟨b, o, none⟩) l.length cap) 31)
  have C1 := hidb (valid_any g m n (some ⟨b, o, none⟩) b o cap l _ (h.isl.below G0.out.out) (by omega) (hl.below G0.out.out))
  rw [hv, show evc g 0 = .nilIface from rfl] at C1
  have CS := hidb (fun (k : Nat) (hk : k < l.length) W1 (hG : Gr w W1) => stands_any k hk W1 (h.below hG.out) ok)
  obtain ⟨i0, hi, hz0, hz1, hz2⟩ := info_parts infoJ
  have HL := hidb ll
  clear h ok hl hv ll
  go_enter Tryd.func13, Tryd.ntmps13
  go_wp2_with fail
  refine C1.out.mono ?_
  rintro e w1 ⟨rfl, hB⟩
  have HG := hidb (Gr.step G0.out hB.out)
  have HA := hidb (At.below hB.out A0.out)
  clear hB G0 A0 C1
  obtain ⟨a0, a1, a2⟩ := HA.out.c3
  go_wp2
  clear a0 a1 a2
  generalize hln : l.length = ln at *
  have HLn := hidb hln
  clear hln
  go_loopw [6, 7, 19] (fun v v' t wr => ∃ (k : Nat) (ad ad' : Option Addr) (cp cp' : Nat), k ≤ ln ∧ t = .int .i64 (k : Int) ∧ v = .slice ad (selL (fun i => decide (Top l m i)) k).length cp ∧ v' = .slice ad' (selL (fun i => decide (Bot l m i)) k).length cp' ∧ Hid (Two wr (w.heap.size + 1) v (selL (fun i => decide (Top l m i)) k) v' (selL (fun i => decide (Bot l m i)) k)) ∧ Hid (At wr w.heap.size [.int .i64 m, .int .i64 n, .slice (some ⟨b, o, none⟩) ln cap]) ∧ Hid (Gr w wr)) (fun _ _ t _ => ln - (intOf t).toNat)
  case atStart => exact ⟨0, none, none, 0, 0, Nat.zero_le _, rfl, rfl, rfl, hidb (by simpa [selL] using Two.nil _ _), HA, HG⟩
  case round =>
    clear HA HG
    obtain ⟨k, ad, ad', cp, cp', hk, rfl, rfl, rfl, HTw, HA, HG⟩ := hrel
    by_cases h1 : k < ln
    · have h1' : (k : Int) < (ln : Int) := by omega
      have KS := hidb (CS.out k h1)
      have l1 := selL_le (fun i => decide (Top l m i)) k
      have l2 := selL_le (fun i => decide (Bot l m i)) k
      have HL1 := hidb l1
      have HL2 := hidb l2
      have HBs := hidb HA.out.lt
      have e5 : IntKind.i64.wrap ((k : Int) + 1) = ((k + 1 : Nat) : Int) := wrap_in (by omega) (by have := HL.out; omega)
      have HS1 := hidb (selL_succ (fun i => decide (Top l m i)) k)
      have HS2 := hidb (selL_succ (fun i => decide (Bot l m i)) k)
      clear l1 l2
      generalize selL (fun i => decide (Top l m i)) k = lt at *
      generalize selL (fun i => decide (Bot l m i)) k = lb at *
      generalize decide (Top l m k) = tb at *
      generalize decide (Bot l m k) = sb at *
      obtain ⟨a0, a1, a2⟩ := HA.out.c3
      go_wp2_with fail
      clear a0 a1 a2
      refine (KS.out _ HG.out).mono ?_
      rintro e w2 ⟨rfl, hB⟩
      replace HG := hidb (Gr.step HG.out hB.out)
      replace HA := hidb (At.below hB.out HA.out)
      replace HTw := hidb (HTw.out.below hB.out)
      replace HBs := hidb HA.out.lt
      clear hB
      cases tb <;> cases sb
      · have HO1 : Hid (selL (fun i => decide (Top l m i)) (k + 1) = lt) := by show _ = _; have := HS1.out; simpa using this
        have HO2 : Hid (selL (fun i => decide (Bot l m i)) (k + 1) = lb) := by show _ = _; have := HS2.out; simpa using this
        have HN1 : Hid ((selL (fun i => decide (Top l m i)) (k + 1)).length = lt.length) := by show _ = _; rw [HO1.out]
        have HN2 : Hid ((selL (fun i => decide (Bot l m i)) (k + 1)).length = lb.length) := by show _ = _; rw [HO2.out]
        clear HS1 HS2
        go_wp2
        go_roundw
        case rel => exact ⟨k + 1, ad, ad', cp, cp', by omega, rfl, by first | (rw [HN1.out]; done) | (rw [HN1.out]; simp), by first | (rw [HN2.out]; done) | (rw [HN2.out]; simp), hidb (by rw [HO1.out, HO2.out]; simpa using HTw.out), HA, HG⟩
        case measure => simp [intOf]; omega
      · have HO1 : Hid (selL (fun i => decide (Top l m i)) (k + 1) = lt) := by show _ = _; have := HS1.out; simpa using this
        have HO2 : Hid (selL (fun i => decide (Bot l m i)) (k + 1) = lb ++ [(k : Int)]) := by show _ = _; have := HS2.out; simpa using this
        have HN1 : Hid ((selL (fun i => decide (Top l m i)) (k + 1)).length = lt.length) := by show _ = _; rw [HO1.out]
        have HN2 : Hid ((selL (fun i => decide (Bot l m i)) (k + 1)).length = lb.length + 1) := by show _ = _; rw [HO2.out]; simp
        clear HS1 HS2
        have hTw := HTw.out
        go_wp2_with (at_builtin; refine wpList_append_own_at _ rfl _ _ 29 rfl (w.heap.size + 1) 3 i0 (.int .i64 0) 1 8 undI hi hz0 hz1 hz2 rfl (by decide) _ _ _ rfl (hTw.r2.alloc _) ⟨w2.heap.size, 0, none⟩ 1 1 [.int .i64 (k : Int)] rfl rfl ?c1 ?c2 ?c3 ?c4 ?c5 ?_)
        case c1 => intro j u hj; exact news1 hj (by simp [go_sem, Addr.add])
        case c2 => intro u hu; simp at hu; subst hu; rfl
        case c3 => have := HL2.out; have := HL.out; unfold maxLen; omega
        case c4 => have := HL2.out; have := HL.out; omega
        case c5 => have := HBs.out; have := HG.out.out.size; simp; omega
        intro u2 w4 hown' hgrow _ hat
        have HTn2 := hidb (hTw.app2 hown' hgrow hat)
        have HGn2 := hidb (gr_app HG.out hTw.r2 (by omega) hgrow)
        have HAn := hidb (at_app HA.out hTw.r2 (by omega) hgrow)
        clear HA
        have HA := HAn
        clear HAn
        obtain ⟨bb, bc, dd, hv2, _⟩ := own_isl2 (hTw.app2 hown' hgrow hat).r2
        subst hv2
        clear hgrow hown' hat HTw HG hTw
        have HTw := HTn2
        have HG := HGn2
        clear HTn2 HGn2
        go_wp2
        go_roundw
        case rel => exact ⟨k + 1, ad, bb, cp, dd, by omega, rfl, by first | (rw [HN1.out]; done) | (rw [HN1.out]; simp), by first | (rw [HN2.out]; done) | (rw [HN2.out]; simp), hidb (by rw [HO1.out, HO2.out]; simpa using HTw.out), HA, HG⟩
        case measure => simp [intOf]; omega
      · have HO1 : Hid (selL (fun i => decide (Top l m i)) (k + 1) = lt ++ [(k : Int)]) := by show _ = _; have := HS1.out; simpa using this
        have HO2 : Hid (selL (fun i => decide (Bot l m i)) (k + 1) = lb) := by show _ = _; have := HS2.out; simpa using this
        have HN1 : Hid ((selL (fun i => decide (Top l m i)) (k + 1)).length = lt.length + 1) := by show _ = _; rw [HO1.out]; simp
        have HN2 : Hid ((selL (fun i => decide (Bot l m i)) (k + 1)).length = lb.length) := by show _ = _; rw [HO2.out]
        clear HS1 HS2
        have hTw := HTw.out
        go_wp2_with (at_builtin; refine wpList_append_own_at _ rfl _ _ 29 rfl (w.heap.size + 1) 3 i0 (.int .i64 0) 1 8 undI hi hz0 hz1 hz2 rfl (by decide) _ _ _ rfl (hTw.r1.alloc _) ⟨w2.heap.size, 0, none⟩ 1 1 [.int .i64 (k : Int)] rfl rfl ?c1 ?c2 ?c3 ?c4 ?c5 ?_)
        case c1 => intro j u hj; exact news1 hj (by simp [go_sem, Addr.add])
        case c2 => intro u hu; simp at hu; subst hu; rfl
        case c3 => have := HL1.out; have := HL.out; unfold maxLen; omega
        case c4 => have := HL1.out; have := HL.out; omega
        case c5 => have := HBs.out; have := HG.out.out.size; simp; omega
        intro u1 w3 hown' hgrow _ hat
        have HTn1 := hidb (hTw.app1 hown' hgrow hat)
        have HGn1 := hidb (gr_app HG.out hTw.r1 (by omega) hgrow)
        have HAn := hidb (at_app HA.out hTw.r1 (by omega) hgrow)
        clear HA
        have HA := HAn
        clear HAn
        replace HBs := hidb HA.out.lt
        obtain ⟨aa, ab, cc, hv1, _⟩ := own_isl2 (hTw.app1 hown' hgrow hat).r1
        subst hv1
        clear hgrow hown' hat HTw HG hTw
        have HTw := HTn1
        have HG := HGn1
        clear HTn1 HGn1
        go_wp2
        go_roundw
        case rel => exact ⟨k + 1, aa, ad', cc, cp', by omega, rfl, by first | (rw [HN1.out]; done) | (rw [HN1.out]; simp), by first | (rw [HN2.out]; done) | (rw [HN2.out]; simp), hidb (by rw [HO1.out, HO2.out]; simpa using HTw.out), HA, HG⟩
        case measure => simp [intOf]; omega
      · have HO1 : Hid (selL (fun i => decide (Top l m i)) (k + 1) = lt ++ [(k : Int)]) := by show _ = _; have := HS1.out; simpa using this
        have HO2 : Hid (selL (fun i => decide (Bot l m i)) (k + 1) = lb ++ [(k : Int)]) := by show _ = _; have := HS2.out; simpa using this
        have HN1 : Hid ((selL (fun i => decide (Top l m i)) (k + 1)).length = lt.length + 1) := by show _ = _; rw [HO1.out]; simp
        have HN2 : Hid ((selL (fun i => decide (Bot l m i)) (k + 1)).length = lb.length + 1) := by show _ = _; rw [HO2.out]; simp
        clear HS1 HS2
        have hTw := HTw.out
        go_wp2_with (at_builtin; refine wpList_append_own_at _ rfl _ _ 29 rfl (w.heap.size + 1) 3 i0 (.int .i64 0) 1 8 undI hi hz0 hz1 hz2 rfl (by decide) _ _ _ rfl (hTw.r1.alloc _) ⟨w2.heap.size, 0, none⟩ 1 1 [.int .i64 (k : Int)] rfl rfl ?c1 ?c2 ?c3 ?c4 ?c5 ?_)
        case c1 => intro j u hj; exact news1 hj (by simp [go_sem, Addr.add])
        case c2 => intro u hu; simp at hu; subst hu; rfl
        case c3 => have := HL1.out; have := HL.out; unfold maxLen; omega
        case c4 => have := HL1.out; have := HL.out; omega
        case c5 => have := HBs.out; have := HG.out.out.size; simp; omega
        intro u1 w3 hown' hgrow _ hat
        have HTn1 := hidb (hTw.app1 hown' hgrow hat)
        have HGn1 := hidb (gr_app HG.out hTw.r1 (by omega) hgrow)
        have HAn := hidb (at_app HA.out hTw.r1 (by omega) hgrow)
        clear HA
        have HA := HAn
        clear HAn
        replace HBs := hidb HA.out.lt
        obtain ⟨aa, ab, cc, hv1, _⟩ := own_isl2 (hTw.app1 hown' hgrow hat).r1
        subst hv1
        clear hgrow hown' hat HTw HG hTw
        have HTw := HTn1
        have HG := HGn1
        clear HTn1 HGn1
        have hTw := HTw.out
        go_wp2_with (at_builtin; refine wpList_append_own_at _ rfl _ _ 29 rfl (w.heap.size + 1) 3 i0 (.int .i64 0) 1 8 undI hi hz0 hz1 hz2 rfl (by decide) _ _ _ rfl (hTw.r2.alloc _) ⟨w3.heap.size, 0, none⟩ 1 1 [.int .i64 (k : Int)] rfl rfl ?c1 ?c2 ?c3 ?c4 ?c5 ?_)
        case c1 => intro j u hj; exact news1 hj (by simp [go_sem, Addr.add])
        case c2 => intro u hu; simp at hu; subst hu; rfl
        case c3 => have := HL2.out; have := HL.out; unfold maxLen; omega
        case c4 => have := HL2.out; have := HL.out; omega
        case c5 => have := HBs.out; have := HG.out.out.size; simp; omega
        intro u2 w4 hown' hgrow _ hat
        have HTn2 := hidb (hTw.app2 hown' hgrow hat)
        have HGn2 := hidb (gr_app HG.out hTw.r2 (by omega) hgrow)
        have HAn := hidb (at_app HA.out hTw.r2 (by omega) hgrow)
        clear HA
        have HA := HAn
        clear HAn
        obtain ⟨bb, bc, dd, hv2, _⟩ := own_isl2 (hTw.app2 hown' hgrow hat).r2
        subst hv2
        clear hgrow hown' hat HTw HG hTw
        have HTw := HTn2
        have HG := HGn2
        clear HTn2 HGn2
        go_wp2
        go_roundw
        case rel => exact ⟨k + 1, aa, bb, cc, dd, by omega, rfl, by first | (rw [HN1.out]; done) | (rw [HN1.out]; simp), by first | (rw [HN2.out]; done) | (rw [HN2.out]; simp), hidb (by rw [HO1.out, HO2.out]; simpa using HTw.out), HA, HG⟩
        case measure => simp [intOf]; omega
    · have h1' : ¬ (k : Int) < (ln : Int) := by omega
      have hkl : k = ln := by omega
      rw [hkl] at HTw
      have HTn := hidb (Two.mono HTw.out (show w.heap.size ≤ w.heap.size + 1 by omega))
      have HK := hidb hkl
      clear hkl
      go_wp2
      refine bodyPost_ret (v := .tuple #[.slice ad (selL (fun i => decide (Top l m i)) k).length cp, .slice ad' (selL (fun i => decide (Bot l m i)) k).length cp', .nilIface]) (by simp [results, Tryd.results13, go_sem]) rfl ⟨_, _, rfl, ?_, HG.out⟩
      have := HTn.out
      rw [HLn.out]
      rw [HK.out]
      exact this
end Go.Proofs.YthbobceghbknoaaDoor
