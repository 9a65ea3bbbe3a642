/-
  basin.Divides.
-/
import Derived.Test.YtbkggcfogmgmmaaDoorQJ5
import Derived.Test.YtbkggcfogmgmmaaDoorQBpD
namespace Go.Proofs.YtbkggcfogmgmmaaDoor
open Go.RowKit
attribute [local go_sem ↓] Go.wp_at_zero Go.wp_at_succ

theorem pindex (g n cap k : Nat) (hk : k < n) (w : World) : (Instr.indexAt 56 (.slice (some ⟨g, 0, none⟩) n cap) (.int .i64 k)).run Tryd.prog w = .ok (.pointer (some ⟨g, k * 2, none⟩)) w := by
  have hu : Tryd.prog.underlying 56 = some (.slice (Tryd.prog.elem 56)) := by kernel_rfl
  refine (run_indexAt_slice (P := Tryd.prog) (w := w) 56 ⟨g, 0, none⟩ n cap .i64 (k : Int) hu).trans ?_
  rw [if_pos ⟨by omega, by omega⟩]
  have hs : (sizeOf (Tryd.prog.elem 56)).run Tryd.prog w = .ok 2 w := by kernel_rfl
  rw [hs]
  simp [Addr.add]
  intro h; omega
/-- A slice of pairs that is read. -/
structure PSl (w : World) (ad : Option Addr) (b cap : Nat) (P : List Wt) : Prop where
  row : ∀ j, j < P.length → (w.cell? ⟨b, j * 2, none⟩ = some (.int .i64 (wx P j).1) ∧ w.cell? ⟨b, j * 2 + 1, none⟩ = some (.int .i64 ((wx P j).2 : Int))) ∧ b < w.heap.size
  ix : ∀ j : Nat, j < P.length → ∀ w, (Instr.indexAt 56 (.slice ad P.length cap) (.int .i64 j)).run Tryd.prog w = .ok (.pointer (some ⟨b, j * 2, none⟩)) w
theorem PSl.below {W w' : World} {ad : Option Addr} {b cap : Nat} {P : List Wt} (h : PSl W ad b cap P) (hB : Below W.heap.size W w') : PSl w' ad b cap P :=
  ⟨fun j hj => by
    obtain ⟨⟨h1, h2⟩, h3⟩ := h.row j hj
    exact ⟨⟨((mcell hB).1 b _ h3).trans h1, ((mcell hB).1 b _ h3).trans h2⟩, Nat.lt_of_lt_of_le h3 hB.size⟩, h.ix⟩
theorem own_psl {w : World} {base : Nat} {v : Value} {n : Nat} {P : List Wt} (h : w.ownsRow base 60 2 v n (qr P)) (hn : P.length = n) : ∃ ad b cap, v = .slice ad P.length cap ∧ PSl w ad b cap P := by
  have hlt := h.lt
  subst hn
  obtain ⟨h1, h | ⟨g, cap, cur, hv, hb, hg, hc, hm, hs, ht⟩⟩ := h
  · obtain ⟨rfl, h0⟩ := h
    exact ⟨none, 0, 0, by rw [h0], fun j hj => by omega, fun j hj => by omega⟩
  · subst hv
    refine ⟨_, g, cap, rfl, fun j hj => ?_, fun j hj w => pindex g _ cap j hj w⟩
    have key : ∀ i, (hi : i < 2) → w.cell? ⟨g, j * 2 + i, none⟩ = (Wcs (wx P j))[i]? := by
      intro i hi
      have e1 : (cur.toList.take (P.length * 2))[j * 2 + i]? = (qr P)[j * 2 + i]? := by rw [ht]
      rw [List.getElem?_take, if_pos (by omega), qr_get P j hj i hi] at e1
      simp [World.cell?, hg]
      simpa using e1
    exact ⟨⟨key 0 (by decide), key 1 (by decide)⟩, (hlt g rfl).2⟩
theorem wx_el {P : List Wt} {j : Nat} (hj : j < P.length) : P[j] = wx P j := by unfold wx; simp [hj]
theorem prK_mem {m n : Nat} {D : List Nat} {k : Nat} {p : Wt} (h : p ∈ prK m n D k) : ∃ c d, c < k ∧ d ∈ D ∧ p.1 = (c : Int) ∧ nbO m n c d = some p.2 := by
  unfold prK at h
  obtain ⟨c, hc, h⟩ := List.mem_flatMap.1 h
  obtain ⟨d, hd, h⟩ := List.mem_flatMap.1 h
  unfold pr1 at h
  cases ho : nbO m n c d with
  | none => rw [ho] at h; cases h
  | some o =>
    rw [ho] at h
    obtain rfl := List.mem_singleton.1 h
    exact ⟨c, d, List.mem_range.1 hc, hd, rfl, ho⟩
/-- Do the two belong to two basins? -/
def apt (m n : Nat) (l : List Int) (p : Wt) : Bool := decide (hom m n l p.1.toNat ≠ hom m n l p.2)
def dvJ (m n : Nat) (l : List Int) (P : List Wt) (j : Nat) : List Wt := (P.take j).filter (apt m n l)
theorem dvJ_snoc {m n : Nat} {l : List Int} {P : List Wt} {j : Nat} (h : j < P.length) : dvJ m n l P (j + 1) = dvJ m n l P j ++ if apt m n l (wx P j) then [wx P j] else [] := by
  unfold dvJ
  rw [List.take_succ_eq_append_getElem h, List.filter_append, wx_el h]
  congr 1
  by_cases c : apt m n l (wx P j) = true
  · simp [c]
  · simp [c]
theorem dvJ_len (m n : Nat) (l : List Int) (P : List Wt) (j : Nat) : (dvJ m n l P j).length ≤ P.length := by
  unfold dvJ
  exact Nat.le_trans (List.length_filter_le _ _) (by rw [List.length_take]; omega)
/-- The divides. -/
def dvL (m n : Nat) (l : List Int) : List Wt := (prK m n [0, 6] l.length).filter (apt m n l)
theorem dvJ_all (m n : Nat) (l : List Int) : dvJ m n l (prK m n [0, 6] l.length) (prK m n [0, 6] l.length).length = dvL m n l := by unfold dvJ dvL; rw [List.take_length]
/-- What lies in memory while the divides are told. -/
structure DV (w W : World) (ad : Option Addr) (b cap B base q : Nat) (P : List Wt) (L : List Int) (v : Value) (O : List Wt) : Prop where
  p : PSl W ad b cap P
  l : At W B (ir L)
  r : W.ownsRow base 60 2 v q (qr O)
  len : O.length = q
  gr : Gr w W
  b : ((∀ j, j < P.length → b < base) ∧ B < base) ∧ w.heap.size ≤ base ∧ base ≤ W.heap.size
section
variable {w W : World} {ad : Option Addr} {b cap B base q : Nat} {P : List Wt} {L : List Int} {v : Value} {O : List Wt}
theorem DV.below {w' : World} (h : DV w W ad b cap B base q P L v O) (hB : Below W.heap.size W w') : DV w w' ad b cap B base q P L v O :=
  ⟨h.p.below hB, At.below hB h.l, own_keep h.r hB, h.len, Gr.step h.gr hB, h.b.1, h.b.2.1, Nat.le_trans h.b.2.2 hB.size⟩
theorem DV.drewN (h : DV w W ad b cap B base q P L v O) (k : Nat) : DV w (W.drewN k) ad b cap B base q P L v O := h.below ((Gr.refl W).drewN k).out
theorem DV.app {w' : World} {ob : Obj} {v' : Value} {O' : List Wt} {k : Nat} (h : DV w W ad b cap B base q P L v O) (hk : O'.length = k) (hown : w'.ownsRow base 60 2 v' k (qr O')) (hg : (W.alloc ob).grownBy w' v.ownBlock) : DV w w' ad b cap B base k P L v' O' := by
  have hv : ∀ i, i < base → v.ownBlock ≠ some i := fun i hi e => by have := (h.r.lt i e).1; omega
  have hP : PSl (W.alloc ob) ad b cap P := h.p.below ((Below.refl _ _).alloc (Nat.le_refl _) _)
  refine ⟨⟨fun j hj => ?_, h.p.ix⟩, At.grow (h.l.alloc ob) hg (hv _ h.b.1.2), hown, hk, Below.grown (h.gr.alloc ob).out hg (by have := h.gr.out.size; simp; omega) (fun k hk => by have := (h.r.lt k hk).1; have := h.b.2.1; omega), h.b.1, h.b.2.1, by have := hg.size; have := h.b.2.2; simp at *; omega⟩
  obtain ⟨⟨h1, h2⟩, h3⟩ := hP.row j hj
  have hb := hg.block b h3 (fun e => hv _ (h.b.1.1 j hj) e.symm)
  exact ⟨⟨(World.cell?_of_block (w := W.alloc ob) (a := ⟨b, j * 2, none⟩) hb).trans h1, (World.cell?_of_block (w := W.alloc ob) (a := ⟨b, j * 2 + 1, none⟩) hb).trans h2⟩, Nat.lt_of_lt_of_le h3 hg.size⟩
end
set_option maxRecDepth 4000 in
set_option maxHeartbeats 16000000 in
theorem divides_ok (g : Nat → Addr) {m n Lb Lo Lcap : Nat} {l : List Int} (w : World) (hR : Rs w Lb Lo Lcap l) (ok : Ok l m n) (hv : vcode m n l = 0) (hl : Lai w g) : Calls Tryd.prog 31 #[raV m n (.slice (some ⟨Lb, Lo, none⟩) l.length Lcap)] w fun e w' => ∃ v, e = .returned (.tuple #[v, .nilIface]) ∧ ∃ base, w'.ownsRow base 60 2 v (dvL m n l).length (qr (dvL m n l)) ∧ w.heap.size ≤ base ∧ Gr w w' := by
  have hlen := ok.len_le
  have PX : Hid (PF w (w.alloc (.cells #[.int .i64 (m : Int), .int .i64 (n : Int), .slice (some ⟨Lb, Lo, none⟩) l.length Lcap] 27)) w.heap.size [.int .i64 (m : Int), .int .i64 (n : Int), .slice (some ⟨Lb, Lo, none⟩) l.length Lcap]) := ⟨At.new3 _ _ _ _ _, (Gr.refl w).alloc _⟩
  have HBs := hidb (fun W (hG : Gr w W) => basins_ok g W (hR.below hG.out) ok hv (hl.below hG.out))
  have HPr := hidb (fun W DB (hA : At W DB [.int .i64 0, .int .i64 6]) => pairs_any (Lb := Lb) (Lo := Lo) (Lcap := Lcap) (D := [0, 6]) W ok (by decide) (by decide) hA)
  have HMm : Hid (∀ j, j < (prK m n [0, 6] l.length).length → ∃ c, c < l.length ∧ (wx (prK m n [0, 6] l.length) j).1 = (c : Int) ∧ (wx (prK m n [0, 6] l.length) j).2 < l.length) := fun j hj => by
    have h := List.getElem_mem hj
    rw [wx_el hj] at h
    obtain ⟨c, d, hc, _, h1, h2⟩ := prK_mem h
    have h3 := nb_lt h2
    rw [← ok.len] at h3
    exact ⟨c, hc, h1, h3⟩
  have HDl := hidb (dvJ_all m n l)
  have HPl : Hid ((prK m n [0, 6] l.length).length ≤ 40000) := by
    show _ ≤ _
    have := prK_len m n [0, 6] l.length
    simp at this
    omega
  obtain ⟨N, hN⟩ : ∃ N, N = l.length := ⟨_, rfl⟩
  have HN := hidb hN
  rw [← hN] at PX HBs HPr HMm HDl HPl ⊢
  clear hR ok hlen hN hv hl
  show Calls Tryd.prog 31 #[.agg #[.int .i64 (m : Int), .int .i64 (n : Int), .slice (some ⟨Lb, Lo, none⟩) N Lcap]] w _
  go_enter Tryd.func31, Tryd.ntmps31
  obtain ⟨q0, q1, q2⟩ := PX.out.a.c3
  go_wp2_with fail
  refine (HBs.out _ PX.out.gr).mono ?_
  rintro e w1 ⟨B, rfl, hBB, -, hB⟩
  have AB := hidb hBB
  clear q0 q1 q2 HBs hBB
  replace PX := hidb (PX.out.below hB.out)
  clear hB
  obtain ⟨q0, q1, q2⟩ := PX.out.a.c3
  go_wp2_with fail
  refine (HPr.out _ _ (At.new2 _ _ _ _)).mono ?_
  rintro e w2 ⟨v, rfl, base0, hown, -, hB⟩
  obtain ⟨ad, b, cap, rfl, hPS⟩ := own_psl hown rfl
  have hal := (Below.refl w1.heap.size w1).alloc (Nat.le_refl _) (.cells #[.int .i64 0, .int .i64 6] 3)
  replace PX := hidb ((PX.out.below hal).below hB.out)
  replace AB := hidb (At.below hB.out (At.below hal AB.out))
  generalize prK m n [0, 6] N = P at *
  have E0 : Hid (DV w w2 ad b cap B w2.heap.size 0 P (hmL m n l) (.slice none 0 0) (dvJ m n l P 0)) := ⟨hPS, AB.out, World.ownsRow_nil _ _ _ _, rfl, PX.out.gr, ⟨fun j hj => (hPS.row j hj).2, AB.out.lt⟩, PX.out.gr.out.size, Nat.le_refl _⟩
  have HPS := hidb hPS.ix
  clear q0 q1 q2 hal hB hown hPS HPr PX AB
  obtain ⟨M, hM⟩ : ∃ M, M = P.length := ⟨_, rfl⟩
  have HM := hidb hM
  rw [← hM] at HMm HDl HPl HPS ⊢
  clear hM
  go_wp2
  go_loopw [6, 21] (fun s t wr => ∃ (j q : Nat), j ≤ M ∧ t = .int .i64 (j : Int) ∧ Hid (DV w wr ad b cap B w2.heap.size q P (hmL m n l) s (dvJ m n l P j))) (fun _ t _ => M - (intOf t).toNat)
  case atStart => exact ⟨0, 0, Nat.zero_le _, rfl, E0⟩
  case round =>
    clear E0
    obtain ⟨j, q, hj, rfl, E⟩ := hrel
    obtain ⟨ad1, cap1, rfl⟩ := own_shape2 E.out.r
    by_cases h1 : ¬ j < M
    · have h1' : ¬ (j : Int) < (M : Int) := by omega
      obtain rfl : j = M := by omega
      have HZ := hidb (show wr.ownsRow w2.heap.size 60 2 (.slice ad1 q cap1) (dvL m n l).length (qr (dvL m n l)) ∧ w.heap.size ≤ w2.heap.size by rw [← HDl.out, E.out.len]; exact ⟨E.out.r, E.out.b.2.1⟩)
      clear h1
      go_wp2
      go_ret2
      exact ⟨_, rfl, w2.heap.size, HZ.out.1, HZ.out.2, E.out.gr⟩
    · have h1' : (j : Int) < (M : Int) := by omega
      have hjM : j < M := by omega
      have hjP : j < P.length := by rw [← HM.out]; exact hjM
      have e1 : IntKind.i64.wrap ((j : Int) + 1) = ((j + 1 : Nat) : Int) := by rw [show (j : Int) + 1 = ((j + 1 : Nat) : Int) by omega]; exact wrap_in (by have := HPl.out; omega) (by have := HPl.out; omega)
      have ix := HPS.out j hjM
      obtain ⟨⟨c0, c1⟩, -⟩ := E.out.p.row j hjP
      have HSn := hidb (dvJ_snoc (m := m) (n := n) (l := l) hjP)
      have HQl : Hid (q ≤ 140000) := by show _ ≤ _; have h2 := dvJ_len m n l P j; rw [E.out.len, ← HM.out] at h2; have := HPl.out; omega
      obtain ⟨c, hcN, hc1, hoN⟩ := HMm.out j hjM
      have HW : Hid (wx P j = ((c : Int), (wx P j).2)) := by show _ = _; rw [← hc1]
      rw [hc1] at c0
      generalize (wx P j).2 = o at *
      rw [HW.out] at HSn
      have ixc := iindex B 0 N N c hcN
      have ixo := iindex B 0 N N o hoN
      rw [Nat.zero_add] at ixc ixo
      have HBc : Hid (∀ W, DV w W ad b cap B w2.heap.size q P (hmL m n l) (.slice ad1 q cap1) (dvJ m n l P j) → W.cell? ⟨B, c, none⟩ = some (.int .i64 (hom m n l c : Int)) ∧ W.cell? ⟨B, o, none⟩ = some (.int .i64 (hom m n l o : Int))) := fun W X => by
        have k1 := (X.l.get (j := c) (by rw [hmL_len, ← HN.out]; exact hcN)).1
        have k2 := (X.l.get (j := o) (by rw [hmL_len, ← HN.out]; exact hoN)).1
        have e1 : (hmL m n l)[c]'(by rw [hmL_len, ← HN.out]; exact hcN) = (hom m n l c : Int) := by simp [hmL]
        have e2 : (hmL m n l)[o]'(by rw [hmL_len, ← HN.out]; exact hoN) = (hom m n l o : Int) := by simp [hmL]
        rw [e1] at k1
        rw [e2] at k2
        exact ⟨k1, k2⟩
      have ha : apt m n l ((c : Int), o) = decide (hom m n l c ≠ hom m n l o) := rfl
      rw [ha] at HSn
      generalize hom m n l c = hc at *
      generalize hom m n l o = ho at *
      have AR := hidb (At.new2 wr (.int .i64 (c : Int)) (.int .i64 (o : Int)) 60)
      have HG := hidb ((Gr.refl wr).alloc (.cells #[.int .i64 (c : Int), .int .i64 (o : Int)] 60))
      clear h1 hjM hjP hc1 ha HW hcN hoN
      go_upto_region 8 with fail
      obtain ⟨R, hRd⟩ : ∃ R, R = wr.heap.size := ⟨_, rfl⟩
      rw [← hRd] at AR ⊢
      generalize wr.alloc (.cells #[.int .i64 (c : Int), .int .i64 (o : Int)] 60) = W1 at *
      replace E := hidb (E.out.below HG.out)
      clear HG hRd c0 c1 ix
      obtain ⟨r0, r1⟩ := AR.out.c2
      obtain ⟨b0, b1⟩ := HBc.out _ E.out
      by_cases he : hc = ho
      · have he' : (hc : Int) = (ho : Int) := by rw [he]
        have HS2 : Hid (dvJ m n l P (j + 1) = dvJ m n l P j) := by show _ = _; rw [HSn.out, he]; simp
        clear he HSn
        go_quiet (fail)
        go_wp2
        go_roundw
        case rel => exact ⟨j + 1, q, by omega, by go_num, by rw [HS2.out]; exact hidb (E.out.drewN _)⟩
        case measure => simp [intOf]; omega
      · have he' : ¬ (hc : Int) = (ho : Int) := by omega
        have HS2 : Hid (dvJ m n l P (j + 1) = dvJ m n l P j ++ [((c : Int), o)]) := by show _ = _; rw [HSn.out]; simp [he]
        clear he HSn
        go_quiet (fail)
        go_wp2_with (at_builtin; refine wpList_p2 _ w2.heap.size (.slice ad1 q cap1) (dvJ m n l P j) ((c : Int), o) q W1.heap.size _ _ rfl rfl rfl rfl E.out.len HQl.out ((E.out.drewN _).r.alloc _) (At.new2 (W1.drewN _) _ _ _) (by have := E.out.b; simp; omega) ?_; intro g2 cap3 w3 hown hgrow)
        have HE3 := hidb ((E.out.drewN _).app (by rw [List.length_append, E.out.len]; rfl) hown.out hgrow.out)
        go_roundw
        case rel => exact ⟨j + 1, q + 1, by omega, by go_num, by rw [HS2.out]; exact HE3⟩
        case measure => simp [intOf]; omega
theorem divides_no (g : Nat → Addr) {W H : Int} {ad : Option Addr} {b o cap : Nat} {l : List Int} (w : World) (h : ISl w ad b o cap l) (ll : l.length ≤ 20000) (hl : Lai w g) (hv : ¬ vcode W H l = 0) : Calls Tryd.prog 31 #[raV W H (.slice ad l.length cap)] w fun e w' => e = .returned (.tuple #[.slice none 0 0, evc g (vcode W H l)]) ∧ Gr w w' := by
  have PX : Hid (PF w (w.alloc (.cells #[.int .i64 W, .int .i64 H, .slice ad l.length cap] 27)) w.heap.size [.int .i64 W, .int .i64 H, .slice ad l.length cap]) := ⟨At.new3 _ _ _ _ _, (Gr.refl w).alloc _⟩
  have C1 := hidb (basins_no g _ (h.below PX.out.gr.out) ll (hl.below PX.out.gr.out) hv)
  rw [evc_of hv] at C1 ⊢
  generalize vcode W H l - 1 = ei at *
  clear h ll hl hv
  go_enter Tryd.func31, Tryd.ntmps31
  obtain ⟨q0, q1, q2⟩ := PX.out.a.c3
  go_wp2_with fail
  refine C1.out.mono ?_
  rintro e w1 ⟨rfl, hB⟩
  clear q0 q1 q2
  go_wp2
  go_ret2
  exact ⟨rfl, Gr.step PX.out.gr hB.out⟩
end Go.Proofs.YtbkggcfogmgmmaaDoor
