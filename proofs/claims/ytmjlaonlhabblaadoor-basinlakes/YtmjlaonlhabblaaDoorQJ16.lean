/-
  basin.lakes.; basin.lakes, walked.; basin.Lakes.
-/
import Derived.Test.YtmjlaonlhabblaaDoorQJ15
import Derived.Test.YtmjlaonlhabblaaDoorQLsD
import Derived.Test.YtmjlaonlhabblaaDoorQJ13
namespace Go.Proofs.YtmjlaonlhabblaaDoor
open Go.RowKit
attribute [local go_sem ↓] Go.wp_at_zero Go.wp_at_succ

theorem PSl.onl {W w' : World} {ad : Option Addr} {b cap A : Nat} {P : List Wt} (h : PSl W ad b cap P) (k : Onl A W w') (hA : ∀ j, j < P.length → b ≠ A) : PSl w' ad b cap P :=
  ⟨fun j hj => by
    obtain ⟨⟨h1, h2⟩, h3⟩ := h.row j hj
    have hb := k.block b h3 (fun e => hA j hj (Option.some.inj e))
    exact ⟨⟨(World.cell?_of_block (w := W) (a := ⟨b, j * 2, none⟩) hb).trans h1, (World.cell?_of_block (w := W) (a := ⟨b, j * 2 + 1, none⟩) hb).trans h2⟩, Nat.lt_of_lt_of_le h3 k.size⟩, h.ix⟩
theorem Gr.onl {w W w' : World} {A : Nat} (h : Gr w W) (k : Onl A W w') (hA : w.heap.size ≤ A) : Gr w w' := by
  have g := h.out
  exact ⟨k.os.trans g.os, k.tape.trans g.tape, k.output.trans g.output, Nat.le_trans g.size k.size, fun i hi => (k.block i (Nat.lt_of_lt_of_le hi g.size) (fun e => by have := Option.some.inj e; omega)).trans (g.block i hi)⟩
/-- What lies in memory while wet cells are joined. -/
structure LK (w W : World) (ad : Option Addr) (b cap GB DB N : Nat) (P : List Wt) (D : List Int) (ρ : Nat → Nat) : Prop where
  p : PSl W ad b cap P
  d : At W DB (ir D)
  g : ∃ LG q, At W GB (ir LG) ∧ Gs LG N q ∧ ∀ i, rt q i = ρ i
  gr : Gr w W
  b : ((∀ j, j < P.length → b ≠ GB) ∧ DB ≠ GB) ∧ w.heap.size ≤ GB
theorem LK.join {w W w' : World} {ad : Option Addr} {b cap GB DB N : Nat} {P : List Wt} {D : List Int} {ρ ρ' : Nat → Nat} (h : LK w W ad b cap GB DB N P D ρ) (k : Onl GB W w') (hg : ∃ LG q, At w' GB (ir LG) ∧ Gs LG N q ∧ ∀ i, rt q i = ρ' i) : LK w w' ad b cap GB DB N P D ρ' :=
  ⟨h.p.onl k h.b.1.1, h.d.onl k h.b.1.2, hg, h.gr.onl k h.b.2, h.b⟩
theorem LK.below {w W w' : World} {ad : Option Addr} {b cap GB DB N : Nat} {P : List Wt} {D : List Int} {ρ : Nat → Nat} (h : LK w W ad b cap GB DB N P D ρ) (hB : Below W.heap.size W w') : LK w w' ad b cap GB DB N P D ρ := by
  obtain ⟨LG, q, a1, a2, a3⟩ := h.g
  exact ⟨h.p.below hB, At.below hB h.d, ⟨LG, q, At.below hB a1, a2, a3⟩, Gr.step h.gr hB, h.b⟩
theorem own_pslb {w : World} {base : Nat} {v : Value} {n : Nat} {P : List Wt} (h : w.ownsRow base 99 2 v n (qr P)) (hn : P.length = n) : ∃ ad b cap, v = .slice ad P.length cap ∧ PSl w ad b cap P ∧ ∀ j, j < P.length → base ≤ b := by
  obtain ⟨ad, b, cap, rfl, hp⟩ := own_psl h hn
  refine ⟨ad, b, cap, rfl, hp, fun j hj => ?_⟩
  have hlt := h.lt
  subst hn
  obtain ⟨h1, h | ⟨g, cap', cur, hv, -⟩⟩ := h
  · obtain ⟨-, h0⟩ := h
    omega
  · simp only [Value.slice.injEq] at hv
    obtain ⟨rfl, -, rfl⟩ := hv
    have e1 := hp.ix j hj w
    rw [pindex g _ cap j hj w] at e1
    have e2 : g = b := by simpa using e1
    rw [← e2]
    exact (hlt g rfl).1
theorem own_islb {w : World} {base : Nat} {v : Value} {n : Nat} {l : List Int} (h : w.ownsRow base 3 1 v n (ir l)) : ∃ ad b cap, v = .slice ad l.length cap ∧ ISl w ad b 0 cap l ∧ base ≤ b := by
  obtain ⟨ad, b, cap, rfl, hp⟩ := own_isl2 h
  by_cases hl : l = []
  · subst hl
    exact ⟨ad, base, cap, rfl, ISl.nil _ _ _ _ _, Nat.le_refl _⟩
  refine ⟨ad, b, cap, rfl, hp, ?_⟩
  have hlt := h.lt
  have h0 : 0 < l.length := List.length_pos_iff.2 hl
  obtain ⟨h1, h | ⟨g, cap', cur, hv, -⟩⟩ := h
  · have hv := h.1
    simp only [Value.slice.injEq] at hv
    omega
  · simp only [Value.slice.injEq] at hv
    obtain ⟨rfl, rfl, rfl⟩ := hv
    have e1 := hp.ix 0 h0 w
    have e3 := iindex g 0 l.length cap 0 h0 w
    rw [e3] at e1
    have e2 : g = b := by simpa using e1
    rw [← e2]
    exact (hlt g rfl).1
theorem wpList_iw {ops : Array Oper} {rest : List Oper} {o : Oper} {a : Act} {Q : Exit → Act → World → Prop} (W : World) (b0 : Nat) (v : Value) (l : List Int) (r : Int) (n B : Nat) (s x : Operand) (hgd : o.guard = none)
    (ho : o.op = .call { callee := .builtin .append, args := #[s, x], argTypes := #[30, 30] }) (hs : a.eval s = v) (hx : a.eval x = .slice (some ⟨B, 0, none⟩) 1 1) (hl : n ≤ 20000)
    (hO : W.ownsRow b0 3 1 v n (ir l)) (hN : At W B [.int .i64 r]) (hb : b0 ≤ W.heap.size) (H : Nat) (hH : W.heap.size = H)
    (h : ∀ g cap w', Hid (w'.ownsRow b0 3 1 (.slice (some ⟨g, 0, none⟩) (n + 1) cap) (n + 1) (ir (l ++ [r]))) → Hid (W.grownBy w' v.ownBlock) → wpList Tryd.prog ops Q rest (a.put o.dst (.slice (some ⟨g, 0, none⟩) (n + 1) cap)) w') : wpList Tryd.prog ops Q (o :: rest) a W := by
  have hml : 30000 ≤ maxLen := by decide
  obtain ⟨i0, hi, hz0, hz1, hz2⟩ := info_parts infoJ
  refine wpList_plain hgd fun _ hK => wp_append_lies W s x _ ho b0 _ i0 (.int .i64 0) 1 8 undI hi hz0 hz1 hz2 rfl (by decide) v n (ir l) hs hO ⟨B, 0, none⟩ 1 1 [.int .i64 r] hx rfl ?_ ?_ (by decide) (by omega) (by omega) hb H hH ?_
  · intro j u hu
    match j with
    | 0 => simp at hu; subst hu; exact (hN.1 0 (by simp)).1
    | j + 1 => simp at hu
  · intro u hu; simp at hu; subst hu; rfl
  · intro g cap w' h1 h2 h3 _
    rw [ir_snoc] at h1
    exact hK _ _ (h g cap w' h1 h2)
/-- What lies in memory while the wet cells are told. -/
structure LW (w W : World) (GB DB base N q : Nat) (D : List Int) (ρ : Nat → Nat) (v : Value) (M : List Nat) : Prop where
  d : At W DB (ir D)
  g : ∃ LG q, At W GB (ir LG) ∧ Gs LG N q ∧ ∀ i, rt q i = ρ i
  r : W.ownsRow base 3 1 v q (ir (on M))
  gr : Gr w W
  b : (DB < base ∧ GB < base) ∧ w.heap.size ≤ GB ∧ base ≤ W.heap.size
theorem LW.app {w W w' : World} {GB DB base N q : Nat} {D : List Int} {ρ : Nat → Nat} {v v' : Value} {M : List Nat} {x : Nat} {ob : Obj} (h : LW w W GB DB base N q D ρ v M) (hown : w'.ownsRow base 3 1 v' (q + 1) (ir (on M ++ [(x : Int)]))) (hg : (W.alloc ob).grownBy w' v.ownBlock) : LW w w' GB DB base N (q + 1) D ρ v' (M ++ [x]) := by
  have hv : ∀ i, i < base → v.ownBlock ≠ some i := fun i hi e => by have := (h.r.lt i e).1; omega
  obtain ⟨LG, q', a1, a2, a3⟩ := h.g
  obtain ⟨⟨b1, b2⟩, b3, b4⟩ := h.b
  refine ⟨At.grow (h.d.alloc ob) hg (hv _ b1), ⟨LG, q', At.grow (a1.alloc ob) hg (hv _ b2), a2, a3⟩, by rw [show on (M ++ [x]) = on M ++ [(x : Int)] by simp [on]]; exact hown, Below.grown (h.gr.alloc ob).out hg (by have := h.gr.out.size; simp; omega) (fun k hk => by have := (h.r.lt k hk).1; omega), ⟨b1, b2⟩, b3, by have := hg.size; simp at this; omega⟩
end Go.Proofs.YtmjlaonlhabblaaDoor
namespace Go.Proofs.YtmjlaonlhabblaaDoor
open Go.RowKit
attribute [local go_sem ↓] Go.wp_at_zero Go.wp_at_succ

set_option maxRecDepth 4000 in
set_option maxHeartbeats 16000000 in
theorem lakes_any {m n Lb Lo Lcap DB : Nat} {l : List Int} (w : World) (ok : Ok l m n) (hD : At w DB (ir (dpK m n l l.length))) : Calls Tryd.prog 34 #[raV m n (.slice (some ⟨Lb, Lo, none⟩) l.length Lcap), .slice (some ⟨DB, 0, none⟩) l.length l.length] w fun e w' => ∃ v, e = .returned v ∧ ∃ base vs, RR w' base v vs (lsK (lak m n l) (wts m n l l.length) (wts m n l l.length).length) ∧ w.heap.size ≤ base ∧ Gr w w' := by
  have hlen := ok.len_le
  have PX : Hid (PF w (w.alloc (.cells #[.int .i64 (m : Int), .int .i64 (n : Int), .slice (some ⟨Lb, Lo, none⟩) l.length Lcap] 32)) w.heap.size [.int .i64 (m : Int), .int .i64 (n : Int), .slice (some ⟨Lb, Lo, none⟩) l.length Lcap]) := ⟨At.new3 _ _ _ _ _, (Gr.refl w).alloc _⟩
  have HAp := hidb (fun W => apart_any l.length (by omega) W)
  have HTo := hidb (fun W => touching_any (Lb := Lb) (Lo := Lo) (Lcap := Lcap) W ok)
  have HMm : Hid (∀ j, j < (prK m n D4 l.length).length → ∃ c, c < l.length ∧ (wx (prK m n D4 l.length) j).1 = (c : Int) ∧ (wx (prK m n D4 l.length) j).2 < l.length) := fun j hj => by
    have h := List.getElem_mem hj
    rw [wx_el hj] at h
    obtain ⟨c, d, hc, _, h1, h2⟩ := prK_mem h
    have h3 := nb_lt h2
    rw [← ok.len] at h3
    exact ⟨c, hc, h1, h3⟩
  have HPl : Hid ((prK m n D4 l.length).length ≤ 70000) := by
    show _ ≤ _
    have : (prK m n D4 l.length).length ≤ l.length * 4 := prK_len m n D4 l.length
    omega
  have HL := hidb (show l.length ≤ 16384 by omega)
  have HWl := hidb (wts_lakes ok)
  obtain ⟨N, hN⟩ : ∃ N, N = l.length := ⟨_, rfl⟩
  have HN := hidb hN
  rw [← hN] at PX HAp HTo HMm HPl HL HWl hD ⊢
  have HDb := hidb hD.lt
  have HD := hidb hD
  clear ok hlen hN hD
  show Calls Tryd.prog 34 #[.agg #[.int .i64 (m : Int), .int .i64 (n : Int), .slice (some ⟨Lb, Lo, none⟩) N Lcap], _] w _
  go_enter Tryd.func34, Tryd.ntmps34
  obtain ⟨q0, q1, q2⟩ := PX.out.a.c3
  go_wp2_with fail
  refine (HAp.out _).mono ?_
  rintro e w1 ⟨GB, rfl, hGA, hGB, hB⟩
  replace HD := hidb (At.below hB.out (HD.out.alloc (.cells #[.int .i64 (m : Int), .int .i64 (n : Int), .slice (some ⟨Lb, Lo, none⟩) N Lcap] 32)))
  replace PX := hidb (PX.out.below hB.out)
  have HG := hidb (show At w1 GB (ir (idK N N)) ∧ w.heap.size < GB ∧ DB ≠ GB from ⟨hGA, by simp at hGB; omega, by have := HDb.out; simp at hGB; omega⟩)
  clear hB hGA hGB q0 q1 q2 HAp
  obtain ⟨q0, q1, q2⟩ := PX.out.a.c3
  go_wp2_with fail
  refine (HTo.out _).mono ?_
  rintro e w2 ⟨v, rfl, base0, hown, hb0, hB⟩
  obtain ⟨ad, b, cap, rfl, hPS, hbb⟩ := own_pslb hown rfl
  replace PX := hidb (PX.out.below hB.out)
  have HPk : Hid (prK m n D4 N = prK m n D4 l.length) := by show _ = _; rw [HN.out]
  generalize prK m n D4 N = P at *
  have E0 : Hid (LK w w2 ad b cap GB DB N P (dpK m n l N) (rho m n l (P.take 0))) := ⟨hPS, At.below hB.out HD.out, ⟨_, id, At.below hB.out HG.out.1, idK_gs N, fun i => rt_id i⟩, PX.out.gr, ⟨fun j hj => by have h1 := hbb j hj; have h2 := HG.out.1.lt; omega, HG.out.2.2⟩, Nat.le_of_lt HG.out.2.1⟩
  have HPS := hidb hPS.ix
  have HGB := hidb HG.out.2.1
  clear q0 q1 q2 hB hown hPS hbb hb0 HTo HD HG
  obtain ⟨M, hM⟩ : ∃ M, M = P.length := ⟨_, rfl⟩
  have HM := hidb hM
  rw [← hM] at HMm HPl HPS ⊢
  clear hM
  go_wp2
  have HD0 := hidb (show ∀ i, i < N → ((0 : Int) < gl (dpK m n l N) i ↔ wetP m n l i) from fun i hi => by rw [HN.out] at hi ⊢; exact dpK_wet hi)
  have HDl : Hid ((dpK m n l N).length = N) := by show _ = _; rw [dpK_len, HN.out]
  generalize dpK m n l N = D at *
  go_loopw [17] (fun t wr => ∃ j : Nat, j ≤ M ∧ t = .int .i64 (j : Int) ∧ Hid (LK w wr ad b cap GB DB N P D (rho m n l (P.take j))) ∧ Hid (PF w wr w.heap.size [.int .i64 (m : Int), .int .i64 (n : Int), .slice (some ⟨Lb, Lo, none⟩) N Lcap])) (fun t _ => M - (intOf t).toNat)
  case atStart => exact ⟨0, Nat.zero_le _, rfl, E0, PX⟩
  case round =>
    clear E0 PX
    obtain ⟨j, hj, rfl, E, X⟩ := hrel
    by_cases h1 : ¬ j < M
    · have h1' : ¬ (j : Int) < (M : Int) := by omega
      obtain rfl : j = M := by omega
      obtain ⟨q0, q1, q2⟩ := X.out.a.c3
      clear h1
      go_wp2
      have HL2 : Hid (rho m n l (P.take j) = lak m n l) := by
        show _ = _
        rw [HM.out, List.take_length, HPk.out]
        rfl
      have E5 : Hid (LW w wr GB DB wr.heap.size N 0 D (lak m n l) (.slice none 0 0) (wts m n l 0)) := by
        obtain ⟨LG, q, a1, a2, a3⟩ := E.out.g
        exact ⟨E.out.d, ⟨LG, q, a1, a2, fun i => by rw [a3, HL2.out]⟩, World.ownsRow_nil _ _ _ _, E.out.gr, ⟨E.out.d.lt, a1.lt⟩, E.out.b.2, Nat.le_refl _⟩
      obtain ⟨bs, hbs⟩ : ∃ z, z = wr.heap.size := ⟨_, rfl⟩
      rw [← hbs] at E5
      have HbL : Hid (w.heap.size ≤ bs) := by show _ ≤ _; rw [hbs]; exact E.out.gr.out.size
      clear q0 q1 q2 E X HL2 hbs
      go_loopw [8, 45] (fun s t wr => ∃ k q : Nat, k ≤ N ∧ q = (wts m n l k).length ∧ t = .int .i64 (k : Int) ∧ Hid (LW w wr GB DB bs N q D (lak m n l) s (wts m n l k))) (fun _ t _ => N - (intOf t).toNat)
      case atStart => exact ⟨0, 0, Nat.zero_le _, rfl, rfl, E5⟩
      case round =>
        clear E5
        obtain ⟨k, q, hk, hq, rfl, E⟩ := hrel
        obtain ⟨ad1, cap1, rfl⟩ := own_shape1' E.out.r
        by_cases h2 : ¬ k < N
        · have h2' : ¬ (k : Int) < (N : Int) := by omega
          have hkN : k = N := by omega
          rw [hkN] at E hq
          obtain ⟨ad2, b2, cap2, hv, hS, hSb⟩ := own_islb E.out.r
          have hvq : ad1 = ad2 ∧ q = (on (wts m n l N)).length ∧ cap1 = cap2 := by simpa using hv
          obtain ⟨rfl, -, rfl⟩ := hvq
          obtain ⟨LG, p, a1, a2, a3⟩ := E.out.g
          have HLi := hidb (lists_any (M := wts m n l N) wr HL.out a1 a2 hS (by have := E.out.b.1.2; omega) (Nat.le_trans (wts_len m n l N) HL.out) (fun x hx => (wts_mem.1 hx).1) (by rw [show rt p = lak m n l from funext a3]; exact HWl.out))
          rw [← hq] at HLi
          have HPL := hidb (fun k => lsK_lakes a3 (wts m n l N) k)
          have HQ := hidb hq
          clear h2 hkN hv hS hSb a1 a2 a3 hq
          go_wp2_with fail
          refine HLi.out.mono ?_
          rintro e w5 ⟨v, rfl, base, vs, k1, k2, k3⟩
          have HZ := hidb (show RR w5 base v vs (lsK (lak m n l) (wts m n l N) (wts m n l N).length) ∧ w.heap.size ≤ base ∧ Gr w w5 from ⟨by rw [← HPL.out]; exact HQ.out ▸ k1, by have := E.out.gr.out.size; omega, E.out.gr.onl k3 E.out.b.2.1⟩)
          clear k1 k2 k3 HLi E
          go_wp2
          go_ret
          exact ⟨v, rfl, base, vs, HZ.out⟩
        · have h2' : (k : Int) < (N : Int) := by omega
          have hkN : k < N := by omega
          have HkN := hidb hkN
          have e2 : IntKind.i64.wrap ((k : Int) + 1) = ((k + 1 : Nat) : Int) := by rw [show (k : Int) + 1 = ((k + 1 : Nat) : Int) by omega]; exact wrap_in (by have := HL.out; omega) (by have := HL.out; omega)
          have ixk := iindex DB 0 N N k hkN
          rw [Nat.zero_add] at ixk
          obtain ⟨ck, fk⟩ := E.out.d.get (j := k) (by rw [HDl.out]; exact hkN)
          rw [gl_get (by rw [HDl.out]; exact hkN)] at ck
          have Hw := hidb (HD0.out k hkN)
          have HSn := hidb (wts_succ m n l k)
          have HQ : Hid (q = (wts m n l k).length ∧ q ≤ 20000) := ⟨hq, by have := wts_len m n l k; have := HL.out; omega⟩
          generalize gl D k = dk at *
          clear h2 hkN hq
          by_cases hd : (0 : Int) < dk
          · have HS2 : Hid (wts m n l (k + 1) = wts m n l k ++ [k]) := by show _ = _; rw [HSn.out, if_pos (Hw.out.1 hd)]
            go_wp2_with (at_builtin; refine wpList_iw _ bs (.slice ad1 q cap1) (on (wts m n l k)) (k : Int) q wr.heap.size _ _ rfl rfl rfl rfl HQ.out.2 (E.out.r.alloc _) (At.at1 rfl _ _) (by have := E.out.b.2.2; simp; omega) (wr.heap.size + 1) (by simp) ?_; intro g2 cap3 w3 hown hgrow)
            have HE3 := hidb (E.out.app hown.out hgrow.out)
            rw [← HS2.out] at HE3
            go_roundw
            case rel => exact ⟨k + 1, q + 1, HkN.out, by rw [HS2.out, List.length_append, ← HQ.out.1]; rfl, by go_num, HE3⟩
            case measure => have := HkN.out; simp [intOf]; omega
          · have HS2 : Hid (wts m n l (k + 1) = wts m n l k) := by show _ = _; rw [HSn.out, if_neg (fun h => hd (Hw.out.2 h)), List.append_nil]
            go_wp2
            go_roundw
            case rel => exact ⟨k + 1, q, HkN.out, by rw [HS2.out]; exact HQ.out.1, by go_num, by rw [HS2.out]; exact E⟩
            case measure => have := HkN.out; simp [intOf]; omega
    · have h1' : (j : Int) < (M : Int) := by omega
      have hjM : j < M := by omega
      have hjP : j < P.length := by rw [← HM.out]; exact hjM
      have e1 : IntKind.i64.wrap ((j : Int) + 1) = ((j + 1 : Nat) : Int) := by rw [show (j : Int) + 1 = ((j + 1 : Nat) : Int) by omega]; exact wrap_in (by have := HPl.out; omega) (by have := HPl.out; omega)
      have ix := HPS.out j hjM
      obtain ⟨⟨c0, c1⟩, -⟩ := E.out.p.row j hjP
      have HSn : Hid (rho m n l (P.take (j + 1)) = rhoS m n l (rho m n l (P.take j)) (wx P j)) := by show _ = _; rw [List.take_succ_eq_append_getElem hjP, rho_snoc, wx_el hjP]
      obtain ⟨c, hcN, hc1, hoN⟩ := HMm.out j hjM
      have HW : Hid (wx P j = ((c : Int), (wx P j).2)) := by show _ = _; rw [← hc1]
      rw [hc1] at c0
      generalize (wx P j).2 = o at *
      rw [HW.out] at HSn
      have ixc := iindex DB 0 N N c hcN
      have ixo := iindex DB 0 N N o hoN
      rw [Nat.zero_add] at ixc ixo
      have HBc : Hid (∀ W, LK w W ad b cap GB DB N P D (rho m n l (P.take j)) → W.cell? ⟨DB, c, none⟩ = some (.int .i64 (gl D c)) ∧ W.cell? ⟨DB, o, none⟩ = some (.int .i64 (gl D o))) := fun W Y => by
        have k1 := (Y.d.get (j := c) (by rw [HDl.out]; exact hcN)).1
        have k2 := (Y.d.get (j := o) (by rw [HDl.out]; exact hoN)).1
        rw [gl_get (by rw [HDl.out]; exact hcN)] at k1
        rw [gl_get (by rw [HDl.out]; exact hoN)] at k2
        exact ⟨k1, k2⟩
      have HJn := hidb (fun (W : World) LG q (h1 : At W GB (ir LG)) (h2 : Gs LG N q) => join_any c o hcN hoN W h1 h2)
      have Hwc := hidb (HD0.out c hcN)
      have Hwo := hidb (HD0.out o hoN)
      generalize gl D c = dc at *
      generalize gl D o = do' at *
      have AR := hidb (At.new2 wr (.int .i64 (c : Int)) (.int .i64 (o : Int)) 99)
      have HG := hidb ((Gr.refl wr).alloc (.cells #[.int .i64 (c : Int), .int .i64 (o : Int)] 99))
      have HjM := hidb hjM
      clear h1 hjM hjP hc1 HW hcN hoN
      go_upto_region 5 with fail
      obtain ⟨R, hRd⟩ : ∃ R, R = wr.heap.size := ⟨_, rfl⟩
      rw [← hRd] at AR ⊢
      generalize wr.alloc (.cells #[.int .i64 (c : Int), .int .i64 (o : Int)] 99) = W1 at *
      replace E := hidb (E.out.below HG.out)
      replace X := hidb (X.out.below HG.out)
      clear HG hRd c0 c1 ix
      obtain ⟨r0, r1⟩ := AR.out.c2
      obtain ⟨b0, b1⟩ := HBc.out _ E.out
      by_cases hc : (0 : Int) < dc
      · by_cases ho : (0 : Int) < do'
        · obtain ⟨LG, q, g1, g2, g3⟩ := E.out.g
          have HJ2 := hidb (HJn.out _ LG q g1 g2)
          have HS2 : Hid (wetP m n l ((c : Int), o).1.toNat ∧ wetP m n l ((c : Int), o).2) := ⟨by simpa using Hwc.out.1 hc, Hwo.out.1 ho⟩
          clear g1 g2 HJn HD0
          go_wp2_with fail
          refine HJ2.out.mono ?_
          rintro e w3 ⟨rfl, LG3, q3, k1, k2, k3, k4⟩
          have E3 : Hid (LK w w3 ad b cap GB DB N P D (rho m n l (P.take (j + 1)))) := E.out.join k4 ⟨LG3, q3, k1, k2, by rw [HSn.out]; exact rho_join g3 HS2.out (by simpa using k3)⟩
          have X3 : Hid (PF w w3 w.heap.size [.int .i64 (m : Int), .int .i64 (n : Int), .slice (some ⟨Lb, Lo, none⟩) N Lcap]) := ⟨X.out.a.onl k4 (by have := HGB.out; omega), X.out.gr.onl k4 (by have := HGB.out; omega)⟩
          clear k1 k2 k3 k4 g3 E X HJ2
          go_wp2
          go_roundw
          case rel => exact ⟨j + 1, HjM.out, by go_num, E3, X3⟩
          case measure => have := HjM.out; simp [intOf]; omega
        · have HS2 : Hid (rho m n l (P.take (j + 1)) = rho m n l (P.take j)) := by show _ = _; rw [HSn.out]; exact funext (rho_dry (fun h => ho (Hwo.out.2 h.2)))
          go_wp2
          go_roundw
          case rel => exact ⟨j + 1, HjM.out, by go_num, by rw [HS2.out]; exact E, X⟩
          case measure => have := HjM.out; simp [intOf]; omega
      · have HS2 : Hid (rho m n l (P.take (j + 1)) = rho m n l (P.take j)) := by show _ = _; rw [HSn.out]; exact funext (rho_dry (fun h => hc (Hwc.out.2 h.1)))
        go_wp2
        go_roundw
        case rel => exact ⟨j + 1, HjM.out, by go_num, by rw [HS2.out]; exact E, X⟩
        case measure => have := HjM.out; simp [intOf]; omega
end Go.Proofs.YtmjlaonlhabblaaDoor
namespace Go.Proofs.YtmjlaonlhabblaaDoor
open Go.RowKit
attribute [local go_sem ↓] Go.wp_at_zero Go.wp_at_succ

set_option maxRecDepth 4000 in
set_option maxHeartbeats 8000000 in
theorem Lakes_ok (g : Nat → Addr) {m n Lb Lo Lcap : Nat} {l : List Int} (w : World) (hR : Rs w Lb Lo Lcap l) (ok : Ok l m n) (hv : vcode m n l = 0) (hl : Lai w g) : Calls Tryd.prog 16 #[raV m n (.slice (some ⟨Lb, Lo, none⟩) l.length Lcap)] w fun e w' => ∃ v, e = .returned (.tuple #[v, .nilIface]) ∧ ∃ base vs, RR w' base v vs (lsK (lak m n l) (wts m n l l.length) (wts m n l l.length).length) ∧ w.heap.size ≤ base ∧ Gr w w' := by
  have PX : Hid (PF w (w.alloc (.cells #[.int .i64 (m : Int), .int .i64 (n : Int), .slice (some ⟨Lb, Lo, none⟩) l.length Lcap] 32)) w.heap.size [.int .i64 (m : Int), .int .i64 (n : Int), .slice (some ⟨Lb, Lo, none⟩) l.length Lcap]) := ⟨At.new3 _ _ _ _ _, (Gr.refl w).alloc _⟩
  have C1 := hidb (depths_ok g _ (hR.below PX.out.gr.out) ok hv (hl.below PX.out.gr.out))
  have HLa := hidb (fun (W : World) DB (h : At W DB (ir (dpK m n l l.length))) => lakes_any (Lb := Lb) (Lo := Lo) (Lcap := Lcap) W ok h)
  obtain ⟨N, hN⟩ : ∃ N, N = l.length := ⟨_, rfl⟩
  rw [← hN] at PX C1 HLa ⊢
  clear hR ok hv hl hN
  show Calls Tryd.prog 16 #[.agg #[.int .i64 (m : Int), .int .i64 (n : Int), .slice (some ⟨Lb, Lo, none⟩) N Lcap]] w _
  go_enter Tryd.func16, Tryd.ntmps16
  obtain ⟨q0, q1, q2⟩ := PX.out.a.c3
  go_wp2_with fail
  refine C1.out.mono ?_
  rintro e w1 ⟨LV, rfl, hA, -, hB⟩
  replace PX := hidb (PX.out.below hB.out)
  have HL2 := hidb (HLa.out w1 LV hA)
  clear q0 q1 q2 hA hB HLa C1
  obtain ⟨q0, q1, q2⟩ := PX.out.a.c3
  go_wp2_with fail
  refine HL2.out.mono ?_
  rintro e w2 ⟨v, rfl, base, vs, k1, k2, k3⟩
  have HZ := hidb (show RR w2 base v vs (lsK (lak m n l) (wts m n l N) (wts m n l N).length) ∧ w.heap.size ≤ base ∧ Gr w w2 from ⟨k1, Nat.le_trans PX.out.gr.out.size k2, Gr.step PX.out.gr k3.out⟩)
  clear q0 q1 q2 k1 k2 k3 HL2
  go_wp2
  go_ret2
  exact ⟨v, rfl, base, vs, HZ.out⟩
theorem Lakes_no (g : Nat → Addr) {W H : Int} {ad : Option Addr} {b o cap : Nat} {l : List Int} (w : World) (h : ISl w ad b o cap l) (ll : l.length ≤ 20000) (hl : Lai w g) (hv : ¬ vcode W H l = 0) : Calls Tryd.prog 16 #[raV W H (.slice ad l.length cap)] w fun e w' => e = .returned (.tuple #[.slice none 0 0, evc g (vcode W H l)]) ∧ Gr w w' := by
  have PX : Hid (PF w (w.alloc (.cells #[.int .i64 W, .int .i64 H, .slice ad l.length cap] 32)) w.heap.size [.int .i64 W, .int .i64 H, .slice ad l.length cap]) := ⟨At.new3 _ _ _ _ _, (Gr.refl w).alloc _⟩
  have C1 := hidb (depths_no g _ (h.below PX.out.gr.out) ll (hl.below PX.out.gr.out) hv)
  rw [evc_of hv] at C1 ⊢
  generalize vcode W H l - 1 = ei at *
  clear h ll hl hv
  go_enter Tryd.func16, Tryd.ntmps16
  obtain ⟨q0, q1, q2⟩ := PX.out.a.c3
  go_wp2_with fail
  refine C1.out.mono ?_
  rintro e w1 ⟨rfl, hB⟩
  clear q0 q1 q2
  go_wp2
  go_ret2
  exact ⟨rfl, Gr.step PX.out.gr hB.out⟩
end Go.Proofs.YtmjlaonlhabblaaDoor
