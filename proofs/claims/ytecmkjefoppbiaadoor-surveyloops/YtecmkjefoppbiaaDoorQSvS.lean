/-
  survey.Survey's Loops, of a valid survey.
-/
import Derived.Test.YtecmkjefoppbiaaDoorQJ19
namespace Go.Proofs.YtecmkjefoppbiaaDoor
open Go.RowKit
attribute [local go_sem ↓] Go.wp_at_zero Go.wp_at_succ

/-- All marks were reached. -/
theorem al_ord {l : List Sn} {M : Nat} (hF : FT M l) (hM : 0 < M) (ha : alE (edL l) M) (x : Nat) (hx : x < M) : x ∈ (srE (edL l) M M).ord := by
  have h1 := (al_iff hF.ok hM).1 ha
  have hl : (srE (edL l) M M).ord.length ≤ M := (sr_ok hF.ok hM M).len
  exact (sr_end hF.ok hM hl x).2 (ha x hx)
theorem niL_in {E : List Ed} {s : BS} {k : Nat} (h : inT E s k) : niL E s (k + 1) = niL E s k := by rw [niL, if_pos h]
theorem niL_no {E : List Ed} {s : BS} {k : Nat} (h : ¬ inT E s k) : niL E s (k + 1) = niL E s k ++ [k] := by rw [niL, if_neg h]
theorem own_wide {w : World} {b b' e size n : Nat} {v : Value} {xs : List Value} (hb : b ≤ b') (h : w.ownsRow b' e size v n xs) : w.ownsRow b e size v n xs := by
  obtain ⟨h1, h2⟩ := h
  refine ⟨h1, ?_⟩
  rcases h2 with h2 | ⟨g, cap, cur, hv, h3, h4⟩
  · exact .inl h2
  · exact .inr ⟨g, cap, cur, hv, Nat.le_trans hb h3, h4⟩
section
variable {l : List Sn} {ad : Option Addr} {b o cap : Nat}
set_option maxRecDepth 4000 in
set_option maxHeartbeats 16000000 in
theorem sloops_ok (g : Nat → Addr) (M : Nat) (B : Int) (w : World) (h : SeL 32 w ad b o cap l) (hl : Laid w g) (hc : svc M B l = 0) : Calls Tryd.prog 6 #[svV M B (.slice ad l.length cap)] w fun e w' => ∃ lv uv SB WB base bx vs Ls Us, e = .returned (.tuple #[lv, uv, .nilIface]) ∧ LQ w w' SB WB base bx (ir (srE (edL l) M M).wy) lv uv vs Ls Us ∧ LoS l (srE (edL l) M M) (niL (edL l) (srE (edL l) M M) l.length) Ls Us := by
  obtain ⟨m, hm, hM1, hM2, hn, hF, hA⟩ := svc_of hc
  obtain rfl : M = m := by omega
  have HM : Hid (1 ≤ M ∧ M ≤ 12) := ⟨hM1, hM2⟩
  have HF := hidb hF
  have HOrd := hidb (al_ord hF (by omega) hA)
  have HSr := hidb (sr_ok hF.ok (show 0 < M by omega) M)
  have PX : Hid (At (w.alloc (.cells #[.int .i64 (M : Int), .int .i64 B, .slice ad l.length cap] 34)) w.heap.size [.int .i64 (M : Int), .int .i64 B, .slice ad l.length cap] ∧ Gr w (w.alloc (.cells #[.int .i64 (M : Int), .int .i64 B, .slice ad l.length cap] 34))) := ⟨At.new3 _ _ _ _ _, (Gr.refl w).alloc _⟩
  have HV := hidb (fun W (hG : Gr w W) => svalid_any g (M : Int) B l W (h.below hG.out) (hl.below hG.out))
  rw [hc] at HV
  have HTr := hidb (fun W (hG : Gr w W) => stree_any W (h.below hG.out) ⟨hM1, hM2⟩ hn hF B)
  have HAl := hidb hA
  have HBt := hidb (fun W (hG : Gr w W) WB (hT : TR W WB M l (srE (edL l) M M)) x y (hx : x ∈ (srE (edL l) M M).ord) (hy : y ∈ (srE (edL l) M M).ord) => sbetween_any W (h.below hG.out) hT B hx hy)
  have HUp := hidb (fun W (hG : Gr w W) g2 cp base L hO hL hLl => sup_any (M := M) W (h.below hG.out) hn hF B (g := g2) (cp := cp) (base := base) (L := L) hO hL hLl)
  have HRow := hidb h
  have HIx := hidb h.ix
  unfold svV at HV HTr HBt HUp ⊢
  obtain ⟨n, hn'⟩ : ∃ n, n = l.length := ⟨_, rfl⟩
  have HNl : Hid (n = l.length ∧ n ≤ 60) := ⟨hn', by omega⟩
  rw [← hn'] at HV HTr HBt HUp HIx PX ⊢
  generalize srE (edL l) M M = s at *
  clear h hl hc hm hM1 hM2 hn hF hA hn'
  obtain ⟨z0, z1, z2⟩ := PX.out.1.c3
  go_enter Tryd.func6, Tryd.ntmps6
  go_wp2_with fail
  refine (HV.out _ PX.out.2).mono ?_
  rintro e w2 ⟨rfl, hB⟩
  replace PX := hidb (show At w2 w.heap.size [.int .i64 (M : Int), .int .i64 B, .slice ad n cap] ∧ Gr w w2 from ⟨At.below hB.out PX.out.1, Gr.step PX.out.2 hB.out⟩)
  rw [show evc g 0 = Value.nilIface from rfl]
  clear hB z0 z1 z2 HV
  obtain ⟨z0, z1, z2⟩ := PX.out.1.c3
  go_wp2_with fail
  refine (HTr.out _ PX.out.2).mono ?_
  rintro e w3 (⟨-, WB, rfl, k1, k2, k3⟩ | ⟨k1, -⟩)
  case inr => exact absurd HAl.out k1
  obtain ⟨base, hbase⟩ : ∃ z, z = w3.heap.size := ⟨_, rfl⟩
  have E0 : Hid (LQ w w3 w.heap.size WB base [.int .i64 (M : Int), .int .i64 B, .slice ad n cap] (ir s.wy) (.slice none 0 0) (.slice none 0 0) [] [] []) :=
    ⟨At.below k3.out PX.out.1, k1, World.ownsRow_nil _ _ _ _, rfl, fun j hj => by simp at hj, World.ownsRow_nil _ _ _ _, fun j g hj => by simp at hj, fun g e => by simp [Value.ownBlock] at e, Gr.step PX.out.2 k3.out, by have := (At.below k3.out PX.out.1).lt; omega, by have := k1.lt; omega, by have := (Gr.step PX.out.2 k3.out).out.size; omega, by omega⟩
  clear k1 k2 k3 PX z0 z1 z2 HTr hbase
  obtain ⟨z0, z1, z2⟩ := E0.out.x.c3
  go_wp2
  clear z0 z1 z2
  go_loopw [8, 9, 27] (fun lv uv t wr => ∃ (k : Nat) (vs : List Value) (Ls : List (List Int)) (Us : List Int) (q : Nat), k ≤ n ∧ q = vs.length ∧ t = .int .i64 (k : Int) ∧ Hid (LQ w wr w.heap.size WB base [.int .i64 (M : Int), .int .i64 B, .slice ad n cap] (ir s.wy) lv uv vs Ls Us ∧ LoS l s (niL (edL l) s k) Ls Us)) (fun _ _ t _ => n - (intOf t).toNat)
  case atStart => exact ⟨0, [], [], [], 0, Nat.zero_le _, rfl, rfl, hidb ⟨E0.out, LoS.nil l s⟩⟩
  case round =>
    clear E0
    obtain ⟨k, vs, Ls, Us, q, hk, hq, rfl, E⟩ := hrel
    by_cases h1 : ¬ k < n
    · have h1' : ¬ (k : Int) < (n : Int) := by omega
      obtain rfl : k = n := by omega
      have HZ : Hid (LQ w wr w.heap.size WB base [.int .i64 (M : Int), .int .i64 B, .slice ad k cap] (ir s.wy) u8 u9 vs Ls Us ∧ LoS l s (niL (edL l) s k) Ls Us) := ⟨E.out.1, E.out.2⟩
      clear h1 E hk hq
      go_wp2
      refine bodyPost_ret (v := .tuple #[u8, u9, .nilIface]) (by simp [results, Tryd.results6, go_sem]) rfl ?_
      exact ⟨u8, u9, rfl, _, WB, base, _, vs, Ls, Us, HZ.out⟩
    · have h1' : (k : Int) < (n : Int) := by omega
      have H1 := hidb (show k < n by omega)
      have hkl : k < l.length := by have := HNl.out; omega
      obtain ⟨⟨f1, f2⟩, ⟨t1, t2⟩, ft, -⟩ := HF.out k hkl
      have ix := HIx.out k H1.out
      obtain ⟨⟨c0, c1, c2, c3⟩, -⟩ := (HRow.out.below E.out.1.gr.out).row k hkl
      have e8 : IntKind.i64.wrap ((k : Int) + 1) = ((k + 1 : Nat) : Int) := by rw [show (k : Int) + 1 = ((k + 1 : Nat) : Int) by omega]; exact wr_in (by omega) (by have := HNl.out; omega)
      have e9 : IntKind.i64.wrap (-((k : Int) + 1)) = -((k : Int) + 1) := wr_in (by have := HNl.out; omega) (by omega)
      have hex := eX_ed hkl
      obtain ⟨y, hy⟩ : ∃ y : Nat, (snX l k).f = y := ⟨(snX l k).f.toNat, by omega⟩
      obtain ⟨x, hx⟩ : ∃ x : Nat, (snX l k).t = x := ⟨(snX l k).t.toNat, by omega⟩
      rw [hy, hx, Int.toNat_natCast, Int.toNat_natCast] at hex
      rw [hy] at c0 f1 f2
      rw [hx] at c1 t1 t2
      generalize (snX l k).u = u at *
      generalize (snX l k).w = gw at *
      have HX : Hid (x < M ∧ y < M ∧ eX (edL l) k = (y, x)) := ⟨by omega, by omega, hex⟩
      have HInT : Hid (inT (edL l) s k ↔ (wX s x = (k : Int) + 1 ∨ wX s y = -((k : Int) + 1))) := by
        show _ ↔ _
        unfold inT
        rw [hex]
      have AR := hidb (At.new4 wr (.int .i64 (y : Int)) (.int .i64 (x : Int)) (.int .i64 u) (.int .i64 gw) 47)
      have E2 := hidb (show LQ w (wr.alloc (.cells #[.int .i64 (y : Int), .int .i64 (x : Int), .int .i64 u, .int .i64 gw] 47)) w.heap.size WB base [.int .i64 (M : Int), .int .i64 B, .slice ad n cap] (ir s.wy) u8 u9 vs Ls Us from E.out.1.alloc _)
      have HLo := hidb E.out.2
      have HQ : Hid (q = vs.length ∧ q ≤ 60) := ⟨hq, by rw [hq, E.out.1.n, E.out.2.a]; have := ni_len (edL l) s k; have := HNl.out; omega⟩
      clear h1 f1 f2 t1 t2 ft hex hy hx hk hkl hq
      go_upto_region 11 with fail
      clear c0 c1 c2 c3 ix E
      obtain ⟨NB, hNB⟩ : ∃ z, z = wr.heap.size := ⟨_, rfl⟩
      rw [← hNB] at AR ⊢
      generalize wr.alloc (.cells #[.int .i64 (y : Int), .int .i64 (x : Int), .int .i64 u, .int .i64 gw] 47) = W3 at *
      clear hNB
      obtain ⟨c0, c1, c2, c3⟩ := AR.out.c4
      have ixx := indexI WB M M x HX.out.1
      have ixy := indexI WB M M y HX.out.2.1
      have hTR : TR W3 WB M l s := ⟨E2.out.y, HSr.out, HF.out, HM.out, by have := HNl.out; omega⟩
      have cx := hTR.a HX.out.1
      have cy := hTR.a HX.out.2.1
      have HT := hidb hTR
      clear hTR
      by_cases d1 : wX s x = (k : Int) + 1
      · have q1 : (wX s x == (k : Int) + 1) = true := by simpa using d1
        have E3 : Hid (LQ w W3 w.heap.size WB base [.int .i64 (M : Int), .int .i64 B, .slice ad n cap] (ir s.wy) u8 u9 vs Ls Us ∧ LoS l s (niL (edL l) s (k + 1)) Ls Us) := ⟨E2.out, by rw [niL_in (HInT.out.2 (.inl d1))]; exact HLo.out⟩
        generalize wX s x = a at *
        clear d1 HInT
        go_wp2
        go_roundw
        case rel => exact ⟨k + 1, vs, Ls, Us, q, H1.out, HQ.out.1, by go_num, E3⟩
        case measure => have := H1.out; simp [intOf]; omega
      · have q1 : (wX s x == (k : Int) + 1) = false := by simpa using d1
        by_cases d2 : wX s y = -((k : Int) + 1)
        · have q2 : (wX s y == -((k : Int) + 1)) = true := by simpa using d2
          have E3 : Hid (LQ w W3 w.heap.size WB base [.int .i64 (M : Int), .int .i64 B, .slice ad n cap] (ir s.wy) u8 u9 vs Ls Us ∧ LoS l s (niL (edL l) s (k + 1)) Ls Us) := ⟨E2.out, by rw [niL_in (HInT.out.2 (.inr d2))]; exact HLo.out⟩
          generalize wX s x = a at *
          generalize wX s y = a2 at *
          clear d1 d2 HInT
          go_wp2
          go_roundw
          case rel => exact ⟨k + 1, vs, Ls, Us, q, H1.out, HQ.out.1, by go_num, E3⟩
          case measure => have := H1.out; simp [intOf]; omega
        · have q2 : (wX s y == -((k : Int) + 1)) = false := by simpa using d2
          have HNo : Hid (¬ inT (edL l) s k) := fun z => (HInT.out.1 z).elim d1 d2
          generalize wX s x = a at *
          generalize wX s y = a2 at *
          clear d1 d2 HInT
          have HB2 := hidb (fun W (hG : Gr W3 W) => HBt.out W (Gr.step E2.out.gr hG.out) WB (HT.out.below hG.out) x y (HOrd.out x HX.out.1) (HOrd.out y HX.out.2.1))
          obtain ⟨z0, z1, z2⟩ := E2.out.x.c3
          obtain ⟨adu, capu, rfl⟩ := own_sh E2.out.u
          obtain ⟨adl, capl, rfl⟩ := own_sh E2.out.o
          have hlz : w.heap.size < W3.heap.size := E2.out.x.lt
          have hln : NB < W3.heap.size := AR.out.lt
          have HL0 : Hid (∀ W', Gr (W3.alloc (.cells #[.int .i64 ((k : Int) + 1)] 3)) W' → W'.ownsRow W3.heap.size 3 1 (.slice (some ⟨W3.heap.size, 0, none⟩) 1 1) 1 (ir [(k : Int) + 1]) ∧ W3.heap.size ≤ W'.heap.size) := fun W' hG => ⟨own_kept (own_lone rfl _ _) hG.out, by have := hG.out.size; simp at this; omega⟩
          have HLen : Hid (∀ P Q C, hoL (edL l) s x = P ++ C → hoL (edL l) s y = Q ++ C → (btL P Q).length ≤ 24) := fun P Q C e1 e2 => by
            have h1 := ho_len HSr.out (HOrd.out x HX.out.1)
            have h2 := ho_len HSr.out (HOrd.out y HX.out.2.1)
            rw [e1, List.length_append] at h1
            rw [e2, List.length_append] at h2
            unfold btL
            rw [List.length_append, List.length_map, List.length_reverse]
            have := HM.out
            omega
          go_upto_region 12 with fail
          clear cx cy q1 q2 ixx ixy c2 c3 e9
          go_upto_region 13 with (first
            | (go_at_call 15; refine (HB2.out _ ((Gr.refl W3).alloc _)).mono ?_; rintro e w5 ⟨tv, b5, P, Q, C, p1, p2, p3, rfl, p5, p6, p7, p8⟩; obtain ⟨ad5, cap5, rfl⟩ := own_sh p5; have HP := hidb (And.intro p1 (And.intro p2 p3)); have HBm := hidb (HLen.out P Q C p1 p2); have H5 := hidb (And.intro p5 p8); have HL5 := hidb (HL0.out _ p8); clear p1 p2 p3 p5 p6 p7 p8; generalize hT : btL P Q = T at *; generalize hm : T.length = m at *)
            | (at_builtin; refine wpList_ir _ W3.heap.size b5 W3.heap.size 1 [(k : Int) + 1] T 1 m ad5 cap5 _ _ rfl rfl rfl rfl (by have := HBm.out; omega) (by decide) HL5.out.1 H5.out.1 HL5.out.2 w5.heap.size rfl ?_; intro g6 cap6 w6 hown hgrow hat))
          have hlB : ∀ z, Value.ownBlock (.slice adl vs.length capl) = some z → z < W3.heap.size := fun z e => (E2.out.o.lt z e).2
          have huB : ∀ z, Value.ownBlock (.slice adu Us.length capu) = some z → z < W3.heap.size := fun z e => (E2.out.u.lt z e).2
          have E6 : Hid (LQ w w6 w.heap.size WB base [.int .i64 (M : Int), .int .i64 B, .slice ad n cap] (ir s.wy) (.slice adl vs.length capl) (.slice adu Us.length capu) vs Ls Us) :=
            ((E2.out.alloc _).below H5.out.2.out).aside hgrow.out E2.out.b.2.2.2 (fun e => by have := hlB _ e; omega) (fun e => by have := huB _ e; omega) (fun j hj e => by have := ((E2.out.i j hj).lt _ e).2; omega)
          have hLm : (((k : Int) + 1) :: T).length = 1 + m := by rw [List.length_cons, hm]; omega
          have X6 : Hid (w6.ownsRow base 3 1 (.slice (some ⟨g6, 0, none⟩) (1 + m) cap6) (((k : Int) + 1) :: T).length (ir (((k : Int) + 1) :: T))) := by
            rw [hLm]; exact own_wide E2.out.b.2.2.2 hown.out
          have HD6 : Hid (∀ z, Value.ownBlock (.slice (some ⟨g6, 0, none⟩) (1 + m) cap6) = some z → Value.ownBlock (.slice adl vs.length capl) ≠ some z ∧ Value.ownBlock (.slice adu Us.length capu) ≠ some z) := fun z e => by
            have ez : g6 = z := Option.some.inj e
            have hz : W3.heap.size ≤ z := by rcases hat.out with c | c <;> have := HL5.out.2 <;> omega
            exact ⟨fun e2 => by have := hlB _ e2; omega, fun e2 => by have := huB _ e2; omega⟩
          have HLk : Hid (LoopOK l s k (((k : Int) + 1) :: T)) := by
            obtain ⟨p1, p2, p3⟩ := HP.out
            have := loop_ok HSr.out (Nat.le_refl _) HNo.out (by rw [ed_len]; have := HNl.out; have := H1.out; omega) (HOrd.out x HX.out.1) (HOrd.out y HX.out.2.1) HX.out.2.2 p1 p2 p3
            obtain ⟨r1, r2, r3⟩ := this
            refine ⟨T, rfl, ?_, ?_, ?_⟩
            · rw [HX.out.2.2, ← hT]; exact r1
            · rw [← hT]
              intro z hz
              have := r2 z hz
              rwa [ed_len] at this
            · rw [← hT]; exact r3
          have HLm := hidb hLm
          clear hlB huB hown hgrow hat hLm hT hm HL5 H5 HP HB2 HLen HL0 HT E2 z0 z1 z2 hlz hln c0 c1
          have HR6 : Hid (w6.ownsRow base 28 1 (.slice adl vs.length capl) vs.length vs ∧ base ≤ w6.heap.size) := ⟨E6.out.o, E6.out.b.2.2.2⟩
          go_upto_region 14 with (at_builtin; refine wpList_rr _ base (.slice adl vs.length capl) vs (.slice (some ⟨g6, 0, none⟩) (1 + m) cap6) vs.length w6.heap.size _ _ rfl rfl rfl rfl (by have := HQ.out; omega) rfl (own_kept HR6.out.1 ((Below.refl _ _).alloc (Nat.le_refl _) _)) (At.at1 rfl _ _) (by have := HR6.out.2; simp; omega) (w6.heap.size + 1) (by simp) ?_; intro g7 cap7 w7 hown hgrow hat)
          have E7 := hidb (LQ.loop (E6.out.alloc (.cells #[.slice (some ⟨g6, 0, none⟩) (1 + m) cap6] 28)) (own_kept X6.out ((Below.refl _ _).alloc (Nat.le_refl _) _)) HD6.out hown.out hgrow.out hat.out (by simp))
          clear hown hgrow hat HR6 E6 X6 HD6
          obtain ⟨z0, z1, z2⟩ := E7.out.x.c3
          have HU7 := hidb (HUp.out w7 E7.out.gr g6 cap6 base (((k : Int) + 1) :: T) (by
            have h7 := E7.out.i vs.length (by simp)
            rw [vX_new, show lI (Ls ++ [((k : Int) + 1) :: T]) vs.length = ((k : Int) + 1) :: T by unfold lI; rw [E7.out.n.symm.trans (by simp) |> fun (h : (Ls ++ [((k : Int) + 1) :: T]).length = vs.length + 1) => show vs.length = Ls.length by simpa using h.symm]; simp] at h7
            rw [HLm.out] at h7 ⊢
            exact h7) (fun z hz => by
            obtain ⟨T', eT, -, r2, -⟩ := HLk.out
            have eT' : T = T' := (List.cons.inj eT).2
            subst eT'
            rcases List.mem_cons.1 hz with rfl | hz
            · have := HNl.out; have := H1.out; omega
            · exact ⟨(r2 z hz).1, by rw [HNl.out.1]; exact (r2 z hz).2.1⟩) (by rw [HLm.out]; have := HBm.out; omega))
          rw [HLm.out] at HU7
          have HNo2 := HNo
          have HLo2 := hidb (HLo.out.more HLk.out)
          generalize hL7 : ((k : Int) + 1) :: T = L at *
          generalize upL l L = U at *
          go_upto_region 15 with (first
            | (go_at_call 16; refine HU7.out.mono ?_; rintro e w8 ⟨rfl, hB⟩; have E8 := hidb (E7.out.below hB.out); clear hB z0 z1 z2; have HR8 : Hid (w8.ownsRow base 3 1 (.slice adu Us.length capu) Us.length (ir Us) ∧ base ≤ w8.heap.size) := ⟨E8.out.u, E8.out.b.2.2.2⟩)
            | (at_builtin; refine wpList_io _ base (.slice adu Us.length capu) Us U Us.length w8.heap.size _ _ rfl rfl rfl rfl (by have h1 := HLo.out.b; have h2 := ni_len (edL l) s k; have h3 := HNl.out; have h4 := H1.out; omega) (own_kept HR8.out.1 ((Below.refl _ _).alloc (Nat.le_refl _) _)) (At.at1 rfl _ _) (by have := HR8.out.2; simp; omega) (w8.heap.size + 1) (by simp) ?_; intro g9 cap9 w9 hown hgrow hat))
          have E9 := hidb (LQ.up (E8.out.alloc (.cells #[.int .i64 U] 3)) hown.out hgrow.out hat.out (by simp))
          have HK : Hid (LoS l s (niL (edL l) s (k + 1)) (Ls ++ [L]) (Us ++ [U]) ∧ q + 1 = (vs ++ [Value.slice (some ⟨g6, 0, none⟩) (1 + m) cap6]).length) := ⟨by rw [niL_no HNo2.out]; exact HLo2.out, by rw [List.length_append, HQ.out.1]; rfl⟩
          clear hown hgrow hat HR8 E8 E7 HU7
          go_wp2
          go_roundw
          case rel => exact ⟨k + 1, vs ++ [Value.slice (some ⟨g6, 0, none⟩) (1 + m) cap6], Ls ++ [L], Us ++ [U], q + 1, H1.out, HK.out.2, by go_num, hidb ⟨E9.out, HK.out.1⟩⟩
          case measure => have := H1.out; simp [intOf]; omega
end
end Go.Proofs.YtecmkjefoppbiaaDoor
