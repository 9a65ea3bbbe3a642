/-
  mercatorref3.Tree.
-/
import Derived.Test.YtecmkjefoppbiaaDoorQSvU
namespace Go.Proofs.YtecmkjefoppbiaaDoor
open Go.RowKit
attribute [local go_sem ↓] Go.wp_at_zero Go.wp_at_succ

/-- An edge, case by case. -/
theorem st_f {E : List Ed} {m k x y : Nat} {s : BS} (e : eX E k = (y, x)) (h1 : y = m) (h2 : ¬ x = 0) (h3 : wX s x = 0) : stE E m s k = adE s x ((k : Int) + 1) := by
  unfold stE
  rw [e, if_pos ⟨h1, h2, h3⟩]
theorem st_t {E : List Ed} {m k x y : Nat} {s : BS} (e : eX E k = (y, x)) (h1 : ¬ y = m) (h2 : x = m) (h3 : ¬ y = 0) (h4 : wX s y = 0) : stE E m s k = adE s y (-((k : Int) + 1)) := by
  unfold stE
  rw [e, if_neg (fun h => h1 h.1), if_pos ⟨h2, h3, h4⟩]
theorem st_no {E : List Ed} {m k x y : Nat} {s : BS} (e : eX E k = (y, x)) (h1 : ¬ (y = m ∧ ¬ x = 0 ∧ wX s x = 0)) (h2 : ¬ (x = m ∧ ¬ y = 0 ∧ wX s y = 0)) : stE E m s k = s := by
  unfold stE
  rw [e, if_neg h1, if_neg h2]
theorem At.grwn {W w2 : World} {B : Nat} {l : List Value} {row : Option Nat} (h : At W B l) (hg : W.grownBy w2 row) (hne : row ≠ some B) : At w2 B l := h.grw1 hg hne
section
variable {l : List Sn} {ad : Option Addr} {b o cap pb po : Nat}
set_option maxRecDepth 4000 in
set_option maxHeartbeats 16000000 in
theorem rtree_any (w : World) {M : Nat} {B : Int} (hS : SIn w pb po M B ad b o cap l) (hM : 1 ≤ M ∧ M ≤ 20) (hn : l.length ≤ 80) (hF : FT M l) : Calls Tryd.prog 9 #[.pointer (some ⟨pb, po, none⟩)] w fun e w' => ∃ WB, e = .returned (.slice (some ⟨WB, 0, none⟩) M M) ∧ At w' WB (ir (srE (edL l) M M).wy) ∧ w.heap.size ≤ WB ∧ Gr w w' := by
  have HS := hidb hS
  have HIx := hidb hS.sl.ix
  have HF := hidb hF
  have HM := hidb hM
  have HSr := hidb (fun i => sr_ok hF.ok (by omega : 0 < M) i)
  have HE : Hid (okE (edL l) M) := hF.ok
  obtain ⟨n, hn'⟩ : ∃ n, n = l.length := ⟨_, rfl⟩
  have HNl : Hid (n = l.length ∧ n ≤ 80) := ⟨hn', by omega⟩
  have HPt := hidb (fun W (hG : Gr w W) => (hS.below hG).pt)
  rw [← hn'] at HIx HPt
  obtain ⟨CS, hCS, mk⟩ := made_runI M (by omega)
  have AW := At.newArr w CS 3
  rw [hCS] at AW
  obtain ⟨WB, hWB⟩ : ∃ z, z = w.heap.size := ⟨_, rfl⟩
  have HWb : Hid (w.heap.size ≤ WB) := by show _ ≤ _; omega
  rw [← hWB] at AW
  have HW1 : Hid (At (w.alloc (.cells CS 3)) WB (ir (List.replicate M 0)) ∧ Gr w (w.alloc (.cells CS 3)) ∧ (w.alloc (.cells CS 3)).heap.size = WB + 1) := ⟨AW, (Gr.refl _).alloc _, by rw [hWB]; simp⟩
  obtain ⟨p0, p1, p2⟩ := HPt.out w (Gr.refl w)
  clear AW hS hM hn hF hn' hCS
  go_enter Tryd.func9, Tryd.ntmps9
  go_upto_region 2 with fail
  rw [← hWB]
  generalize w.alloc (.cells CS 3) = W1 at *
  clear p0 p1 p2 hWB
  have HLo : Hid (W1.ownsRow (WB + 1) 3 1 (.slice none 0 0) 0 (ir [])) := World.ownsRow_nil _ _ _ _
  go_upto_region 4 with (at_builtin; refine wpList_in _ (WB + 1) (.slice none 0 0) [] 0 0 W1.heap.size _ _ rfl rfl rfl rfl (by decide) (own_kept HLo.out ((Below.refl _ _).alloc (Nat.le_refl _) _)) (At.at1 rfl _ _) (by have := HW1.out.2.2; simp; omega) (W1.heap.size + 1) (by simp) ?_; intro g cp w2 hown hgrow)
  have E0 : Hid (TM w w2 WB (WB + 1) g cp (srE (edL l) M 0)) := by
    have hB : Below (WB + 1) (W1.alloc (.cells #[.int .i64 0] 3)) w2 := (Below.refl _ _).grown hgrow.out (by have := HW1.out.2.2; simp; omega) (fun k e => by cases e)
    exact ⟨At.belN hB (Nat.lt_succ_self _) hgrow.out.size (HW1.out.1.alloc _), hown.out, Below.grown (HW1.out.2.1.alloc _).out hgrow.out (by have := HW1.out.2.1.out.size; simp; omega) (fun k e => by cases e), HWb.out, Nat.lt_succ_self _, by have h1 := hgrow.out.size; have h2 := HW1.out.2.2; simp at h1; omega⟩
  clear hown hgrow HLo HW1
  go_wp2
  go_loopw [4, 5] (fun v t wr => ∃ (i g cp q : Nat), i ≤ M ∧ q = (srE (edL l) M i).ord.length ∧ i ≤ q ∧ v = .slice (some ⟨g, 0, none⟩) q cp ∧ t = .int .i64 (i : Int) ∧ Hid (TM w wr WB (WB + 1) g cp (srE (edL l) M i))) (fun _ t _ => M - (intOf t).toNat)
  case atStart => exact ⟨0, g, cp, 1, by omega, rfl, by omega, rfl, rfl, E0⟩
  case round =>
    clear E0
    obtain ⟨i, g, cp, q, hi, hq, hiq, rfl, rfl, E⟩ := hrel
    by_cases h1 : ¬ i < q
    · have h1' : ¬ (i : Int) < (q : Int) := by omega
      have HZ : Hid (At wr WB (ir (srE (edL l) M M).wy) ∧ w.heap.size ≤ WB ∧ Gr w wr) := by
        have e : srE (edL l) M M = srE (edL l) M i := by
          have := sr_stop (E := edL l) (M := M) (i := i) (by omega) (M - i)
          rwa [show i + (M - i) = M by omega] at this
        rw [e]
        exact ⟨E.out.y, HWb.out, E.out.gr⟩
      clear h1 hq E
      go_wp2
      go_ret
      exact ⟨WB, rfl, HZ.out⟩
    · have h1' : (i : Int) < (q : Int) := by omega
      have H1 := hidb (show i < q by omega)
      have HQ := hidb hq
      have HI : Hid (i < (srE (edL l) M i).ord.length) := by show _ < _; omega
      have HiM : Hid (i < M) := by have := (HSr.out i).len; show _ < _; omega
      have HS0 : Hid (SrI (edL l) M (srE (edL l) M i)) := HSr.out i
      have HNx := hidb (sr_next HI.out)
      rw [ed_len] at HNx
      have E1 : Hid (TM w wr WB (WB + 1) g cp (scE (edL l) (oX (srE (edL l) M i) i) (srE (edL l) M i) 0)) := E.out
      obtain ⟨s, hs⟩ : ∃ s, s = srE (edL l) M i := ⟨_, rfl⟩
      rw [← hs] at E1 HS0 HNx HI HQ
      have e9 : IntKind.i64.wrap ((i : Int) + 1) = ((i + 1 : Nat) : Int) := by rw [show (i : Int) + 1 = ((i + 1 : Nat) : Int) by omega]; exact wr_in (by omega) (by have := HM.out; omega)
      clear h1 hq E hs hiq hi
      go_wp2
      generalize hm : oX s i = m at E1 HNx
      go_loopw [4, 6] (fun v t wt => ∃ (k g cp q : Nat), k ≤ n ∧ q = (scE (edL l) m s k).ord.length ∧ v = .slice (some ⟨g, 0, none⟩) q cp ∧ t = .int .i64 (k : Int) ∧ Hid (TM w wt WB (WB + 1) g cp (scE (edL l) m s k))) (fun _ t _ => n - (intOf t).toNat)
      case atStart => exact ⟨0, g, cp, q, by omega, HQ.out, rfl, rfl, E1⟩
      case round =>
        clear E1
        obtain ⟨k, g, cp, q, hk, hq, rfl, rfl, E⟩ := hrel
        obtain ⟨p0, p1, p2⟩ := HPt.out _ E.out.gr
        by_cases h3 : ¬ k < n
        · have h3' : ¬ (k : Int) < (n : Int) := by omega
          obtain rfl : k = n := by omega
          have E5 : Hid (TM w wr WB (WB + 1) g cp (srE (edL l) M (i + 1))) := by
            rw [HNx.out, ← HNl.out.1]; exact E.out
          have HQ5 : Hid (q = (srE (edL l) M (i + 1)).ord.length ∧ i + 1 ≤ q) := ⟨by rw [HNx.out, ← HNl.out.1]; exact hq, by rw [hq]; have := (pre_oX (sc_pre (edL l) m s k) HI.out).2; omega⟩
          clear h3 hq E
          go_wp2
          go_roundw
          case rel => exact ⟨i + 1, g, cp, q, HiM.out, HQ5.out.1, HQ5.out.2, rfl, by go_num, E5⟩
          case measure => have := HiM.out; simp [intOf]; omega
        · have h3' : (k : Int) < (n : Int) := by omega
          have H3 := hidb (show k < n by omega)
          have hkl : k < l.length := by have := HNl.out; omega
          have e2 : IntKind.i64.wrap ((k : Int) + 1) = ((k + 1 : Nat) : Int) := by rw [show (k : Int) + 1 = ((k + 1 : Nat) : Int) by omega]; exact wr_in (by omega) (by have := HNl.out; omega)
          have e3 : IntKind.i64.wrap (-(k : Int)) = -(k : Int) := wr_in (by have := HNl.out; omega) (by omega)
          have e4 : IntKind.i64.wrap (-(k : Int) - 1) = -((k : Int) + 1) := by rw [show -(k : Int) - 1 = -((k : Int) + 1) by omega]; exact wr_in (by have := HNl.out; omega) (by omega)
          have ix := HIx.out k (by omega)
          obtain ⟨⟨f1, f2⟩, ⟨t1, t2⟩, ft, -⟩ := HF.out k hkl
          obtain ⟨⟨c0, c1, c2, c3⟩, -⟩ := (HS.out.below E.out.gr).sl.row k hkl
          have hex := eX_ed hkl
          obtain ⟨y, hy⟩ : ∃ y : Nat, (snX l k).f = y := ⟨(snX l k).f.toNat, by omega⟩
          obtain ⟨x, hx⟩ : ∃ x : Nat, (snX l k).t = x := ⟨(snX l k).t.toNat, by omega⟩
          rw [hy, hx, Int.toNat_natCast, Int.toNat_natCast] at hex
          rw [hy] at c0 f1 f2
          rw [hx] at c1 t1 t2
          generalize (snX l k).u = u at *
          generalize (snX l k).w = gw at *
          have HX : Hid (x < M ∧ y < M ∧ ¬ y = x) := ⟨by omega, by omega, fun e => ft (by rw [hy, hx, e])⟩
          have HEx := hidb hex
          have HSk : Hid (SrI (edL l) M (scE (edL l) m s k)) := by rw [← hm]; exact HS0.out.sc HE.out HI.out k (by rw [ed_len]; omega)
          have HOx : Hid (oX (scE (edL l) m s k) i = m ∧ i < (scE (edL l) m s k).ord.length) := by
            have := pre_oX (sc_pre (edL l) m s k) HI.out
            exact ⟨this.1.trans hm, this.2⟩
          have ixo := indexI g q cp i (by have := HOx.out.2; omega)
          have HScN : Hid (scE (edL l) m s (k + 1) = stE (edL l) m (scE (edL l) m s k) k) := rfl
          have HQk := hidb hq
          obtain ⟨s3, hs3⟩ : ∃ z, z = scE (edL l) m s (k + 1) := ⟨_, rfl⟩
          have HS4 := hidb hs3
          rw [← hs3] at HScN
          generalize scE (edL l) m s k = s2 at *
          have AR := hidb (At.new4 wr (.int .i64 (y : Int)) (.int .i64 (x : Int)) (.int .i64 u) (.int .i64 gw) 51)
          have HGa := hidb ((Gr.refl wr).alloc (.cells #[.int .i64 (y : Int), .int .i64 (x : Int), .int .i64 u, .int .i64 gw] 51))
          clear h3 hq hkl hs3 f1 f2 t1 t2 ft hex hy hx
          go_upto_region 11 with fail
          clear c0 c1 c2 c3 ix p0 p1 p2
          obtain ⟨NB, hNB⟩ : ∃ z, z = wr.heap.size := ⟨_, rfl⟩
          rw [← hNB] at AR ⊢
          have E0s := E
          replace E := hidb (E.out.below HGa.out.out)
          generalize wr.alloc (.cells #[.int .i64 (y : Int), .int .i64 (x : Int), .int .i64 u, .int .i64 gw] 51) = W3 at *
          have hxl : x < s2.wy.length := by rw [HSk.out.l]; exact HX.out.1
          have hyl : y < s2.wy.length := by rw [HSk.out.l]; exact HX.out.2.1
          obtain ⟨a, ha⟩ : ∃ a, a = wX s2 x := ⟨_, rfl⟩
          obtain ⟨c, hc⟩ : ∃ c, c = wX s2 y := ⟨_, rfl⟩
          have HA : Hid (a = wX s2 x ∧ c = wX s2 y) := ⟨ha, hc⟩
          have HCx : Hid (∀ W', Gr W3 W' → (fun w' => (w'.cell? ⟨NB, 0, none⟩ = some (.int .i64 (y : Int)) ∧ w'.cell? ⟨NB, 1, none⟩ = some (.int .i64 (x : Int)) ∧ w'.cell? ⟨NB, 2, none⟩ = some (.int .i64 u) ∧ w'.cell? ⟨NB, 3, none⟩ = some (.int .i64 gw)) ∧ w'.cell? ⟨g, i, none⟩ = some (.int .i64 (m : Int)) ∧ w'.cell? ⟨WB, x, none⟩ = some (.int .i64 a) ∧ w'.cell? ⟨WB, y, none⟩ = some (.int .i64 c)) W') := fun W' hG => ⟨(At.below hG.out AR.out).c4, by have := (E.out.below hG.out).o HOx.out.2; rwa [HOx.out.1] at this, by have := ((E.out.below hG.out).a hxl).1; rwa [← ha] at this, by have := ((E.out.below hG.out).a hyl).1; rwa [← hc] at this⟩
          have GG := hidb (Gr.refl W3)
          have HCxs : Hid (∀ W', Gr W3 W' → (fun w' => (w'.cell? ⟨NB, 0, none⟩ = some (.int .i64 (y : Int)) ∧ w'.cell? ⟨NB, 1, none⟩ = some (.int .i64 (x : Int)) ∧ w'.cell? ⟨NB, 2, none⟩ = some (.int .i64 u) ∧ w'.cell? ⟨NB, 3, none⟩ = some (.int .i64 gw)) ∧ w'.cell? ⟨g, i, none⟩ = some (.int .i64 (m : Int))) W') := fun W' hG => ⟨(HCx.out W' hG).1, (HCx.out W' hG).2.1⟩
          have HNb : Hid (¬ WB = NB ∧ ¬ g = NB) := by
            have k1 := E0s.out.y.lt
            have k2 := (E0s.out.r.lt g rfl).2
            show _ ∧ _
            omega
          clear HGa hNB ha hc E0s
          have ixx := indexI WB M M x HX.out.1
          have ixy := indexI WB M M y HX.out.2.1
          by_cases y1 : y = m
          · have ym : (((y : Nat) : Int) == ((m : Nat) : Int)) = true := by rw [y1]; simp
            have xm : (((x : Nat) : Int) == ((m : Nat) : Int)) = false := by have := HX.out.2.2; simp; omega
            by_cases x0 : x = 0
            · have HS3 : Hid (s3 = s2) := by show _ = _; rw [HScN.out]; exact st_no HEx.out (fun q => q.2.1 x0) (fun q => HX.out.2.2 (y1.trans q.1.symm))
              have xn : (((x : Nat) : Int) != 0) = false := by rw [x0]; simp
              clear y1 HA HEx HScN x0
              refine wp_region_held_drew (S := (fun w' => (w'.cell? ⟨NB, 0, none⟩ = some (.int .i64 (y : Int)) ∧ w'.cell? ⟨NB, 1, none⟩ = some (.int .i64 (x : Int)) ∧ w'.cell? ⟨NB, 2, none⟩ = some (.int .i64 u) ∧ w'.cell? ⟨NB, 3, none⟩ = some (.int .i64 gw)) ∧ w'.cell? ⟨g, i, none⟩ = some (.int .i64 (m : Int)))) (by kernel_rfl) ?_ (fun hHeld => ?_)
              · (try dsimp only); exact HCxs.out _ GG.out.drew
              replace GG := hidb GG.out.drew
              generalize World.drew _ = V0 at *
              refine wpAnyH_take (i := 0) (v := ?vv1q0x4) rfl (by kernel_rfl) (by kernel_rfl) (by kernel_rfl) (fun _ _ _ h => h) (Or.inl ⟨by kernel_rfl, ?hv1q0x4⟩) (by assumption) ?rv1q0x4
              case hv1q0x4 => (intro w hSw; (try dsimp only at hSw); obtain ⟨⟨z0, z1, z2, z3⟩, z4⟩ := hSw; go_simp; try with_reducible rfl)
              (try simp only [Act.put, List.getElem_toArray, List.getElem_cons_zero, List.setIfInBounds_toArray, List.set_cons_zero, List.set_cons_succ])
              refine wpAnyH_take (i := 1) (v := ?vv1q1x7) rfl (by kernel_rfl) (by kernel_rfl) (by kernel_rfl) (fun _ _ _ h => h) (Or.inl ⟨by kernel_rfl, ?hv1q1x7⟩) (by assumption) ?rv1q1x7
              case hv1q1x7 => (intro w hSw; (try dsimp only at hSw); obtain ⟨⟨z0, z1, z2, z3⟩, z4⟩ := hSw; go_simp; try with_reducible rfl)
              (try simp only [Act.put, List.getElem_toArray, List.getElem_cons_zero, List.getElem_cons_succ, List.setIfInBounds_toArray, List.set_cons_zero, List.set_cons_succ])
              refine wpAnyH_take (i := 2) (v := ?vv1q2x10) rfl (by kernel_rfl) (by kernel_rfl) (by kernel_rfl) (fun _ _ _ h => h) (Or.inl ⟨by kernel_rfl, ?hv1q2x10⟩) (by assumption) ?rv1q2x10
              case hv1q2x10 => (intro w hSw; (try dsimp only at hSw); obtain ⟨⟨z0, z1, z2, z3⟩, z4⟩ := hSw; go_simp; try with_reducible rfl)
              (try simp only [Act.put, List.getElem_toArray, List.getElem_cons_zero, List.getElem_cons_succ, List.setIfInBounds_toArray, List.set_cons_zero, List.set_cons_succ])
              refine wpAnyH_take (i := 3) (v := ?vv1q3x13) rfl (by kernel_rfl) (by kernel_rfl) (by kernel_rfl) (fun _ _ _ h => h) (Or.inl ⟨by kernel_rfl, ?hv1q3x13⟩) (by assumption) ?rv1q3x13
              case hv1q3x13 => (intro w hSw; (try dsimp only at hSw); obtain ⟨⟨z0, z1, z2, z3⟩, z4⟩ := hSw; go_simp; try with_reducible rfl)
              (try simp only [Act.put, List.getElem_toArray, List.getElem_cons_zero, List.getElem_cons_succ, List.setIfInBounds_toArray, List.set_cons_zero, List.set_cons_succ])
              refine wpAnyH_take (i := 4) (v := ?vv1q4x16) rfl (by kernel_rfl) (by kernel_rfl) (by kernel_rfl) (fun _ _ _ h => h) (Or.inl ⟨by kernel_rfl, ?hv1q4x16⟩) (by assumption) ?rv1q4x16
              case hv1q4x16 => (intro w hSw; (try dsimp only at hSw); obtain ⟨⟨z0, z1, z2, z3⟩, z4⟩ := hSw; go_simp; try with_reducible rfl)
              (try simp only [Act.put, List.getElem_toArray, List.getElem_cons_zero, List.getElem_cons_succ, List.setIfInBounds_toArray, List.set_cons_zero, List.set_cons_succ])
              refine wpAnyH_take (i := 5) (v := ?vv1q5x19) rfl (by kernel_rfl) (by kernel_rfl) (by kernel_rfl) (fun _ _ _ h => h) (Or.inl ⟨by kernel_rfl, ?hv1q5x19⟩) (by assumption) ?rv1q5x19
              case hv1q5x19 => (intro w hSw; (try dsimp only at hSw); obtain ⟨⟨z0, z1, z2, z3⟩, z4⟩ := hSw; go_simp; try with_reducible rfl)
              (try simp only [Act.put, List.getElem_toArray, List.getElem_cons_zero, List.getElem_cons_succ, List.setIfInBounds_toArray, List.set_cons_zero, List.set_cons_succ])
              refine wpAnyH_take (i := 6) (v := ?vv1q6x22) rfl (by kernel_rfl) (by kernel_rfl) (by kernel_rfl) (fun _ _ _ h => h) (Or.inl ⟨by kernel_rfl, ?hv1q6x22⟩) (by assumption) ?rv1q6x22
              case hv1q6x22 => (intro w hSw; (try dsimp only at hSw); obtain ⟨⟨z0, z1, z2, z3⟩, z4⟩ := hSw; go_simp; try with_reducible rfl)
              (try simp only [Act.put, List.getElem_toArray, List.getElem_cons_zero, List.getElem_cons_succ, List.setIfInBounds_toArray, List.set_cons_zero, List.set_cons_succ])
              refine wpAnyH_take (i := 7) (v := ?vv1q7x25) rfl (by kernel_rfl) (by kernel_rfl) (by kernel_rfl) (fun _ _ _ h => h) (Or.inl ⟨by kernel_rfl, ?hv1q7x25⟩) (by assumption) ?rv1q7x25
              case hv1q7x25 => (intro w hSw; (try dsimp only at hSw); obtain ⟨⟨z0, z1, z2, z3⟩, z4⟩ := hSw; go_simp; try with_reducible rfl)
              (try simp only [Act.put, List.getElem_toArray, List.getElem_cons_zero, List.getElem_cons_succ, List.setIfInBounds_toArray, List.set_cons_zero, List.set_cons_succ])
              refine wpAnyH_take (i := 8) (v := ?vv1q8x28) rfl (by kernel_rfl) (by kernel_rfl) (by kernel_rfl) (fun _ _ _ h => h) (Or.inl ⟨by kernel_rfl, ?hv1q8x28⟩) (by assumption) ?rv1q8x28
              case hv1q8x28 => (intro w hSw; (try dsimp only at hSw); obtain ⟨⟨z0, z1, z2, z3⟩, z4⟩ := hSw; go_simp; try with_reducible rfl)
              (try simp only [Act.put, List.getElem_toArray, List.getElem_cons_zero, List.getElem_cons_succ, List.setIfInBounds_toArray, List.set_cons_zero, List.set_cons_succ])
              refine wpAnyH_take (i := 9) (v := ?vv1q9x31) rfl (by kernel_rfl) (by kernel_rfl) (by kernel_rfl) (fun _ _ _ h => h) (Or.inl ⟨by kernel_rfl, ?hv1q9x31⟩) (by assumption) ?rv1q9x31
              case hv1q9x31 => (intro w hSw; (try dsimp only at hSw); obtain ⟨⟨z0, z1, z2, z3⟩, z4⟩ := hSw; go_simp; try with_reducible rfl)
              (try simp only [Act.put, List.getElem_toArray, List.getElem_cons_zero, List.getElem_cons_succ, List.setIfInBounds_toArray, List.set_cons_zero, List.set_cons_succ])
              refine wpAnyH_take (i := 10) (v := ?vv1q10x34) rfl (by kernel_rfl) (by kernel_rfl) (by kernel_rfl) (fun _ _ _ h => h) (Or.inl ⟨by kernel_rfl, ?hv1q10x34⟩) (by assumption) ?rv1q10x34
              case hv1q10x34 => (intro w hSw; (try dsimp only at hSw); obtain ⟨⟨z0, z1, z2, z3⟩, z4⟩ := hSw; go_simp; try with_reducible rfl)
              (try simp only [Act.put, List.getElem_toArray, List.getElem_cons_zero, List.getElem_cons_succ, List.setIfInBounds_toArray, List.set_cons_zero, List.set_cons_succ])
              refine wpAnyH_take (i := 11) (v := ?vv1q11x37) rfl (by kernel_rfl) (by kernel_rfl) (by kernel_rfl) (fun _ _ _ h => h) (Or.inl ⟨by kernel_rfl, ?hv1q11x37⟩) (by assumption) ?rv1q11x37
              case hv1q11x37 => (intro w hSw; (try dsimp only at hSw); obtain ⟨⟨z0, z1, z2, z3⟩, z4⟩ := hSw; go_simp; try with_reducible rfl)
              (try simp only [Act.put, List.getElem_toArray, List.getElem_cons_zero, List.getElem_cons_succ, List.setIfInBounds_toArray, List.set_cons_zero, List.set_cons_succ])
              refine wpAnyH_take (i := 12) (v := ?vv1q12x40) rfl (by kernel_rfl) (by kernel_rfl) (by kernel_rfl) (fun _ _ _ h => h) (Or.inl ⟨by kernel_rfl, ?hv1q12x40⟩) (by assumption) ?rv1q12x40
              case hv1q12x40 => (intro w hSw; (try dsimp only at hSw); obtain ⟨⟨z0, z1, z2, z3⟩, z4⟩ := hSw; go_simp; try with_reducible rfl)
              (try simp only [Act.put, List.getElem_toArray, List.getElem_cons_zero, List.getElem_cons_succ, List.setIfInBounds_toArray, List.set_cons_zero, List.set_cons_succ])
              refine wpAnyH_take (i := 13) (v := undef) rfl (by kernel_rfl) (by kernel_rfl) (by kernel_rfl) (fun _ _ _ h => h) (Or.inr ⟨by kernel_rfl, rfl⟩) (by assumption) ?_
              (try simp only [Act.put, List.getElem_toArray, List.getElem_cons_zero, List.getElem_cons_succ, List.setIfInBounds_toArray, List.set_cons_zero, List.set_cons_succ])
              refine wpAnyH_take (i := 14) (v := undef) rfl (by kernel_rfl) (by kernel_rfl) (by kernel_rfl) (fun _ _ _ h => h) (Or.inr ⟨by kernel_rfl, rfl⟩) (by assumption) ?_
              (try simp only [Act.put, List.getElem_toArray, List.getElem_cons_zero, List.getElem_cons_succ, List.setIfInBounds_toArray, List.set_cons_zero, List.set_cons_succ])
              refine wpAnyH_take (i := 15) (v := undef) rfl (by kernel_rfl) (by kernel_rfl) (by kernel_rfl) (fun _ _ _ h => h) (Or.inr ⟨by kernel_rfl, rfl⟩) (by assumption) ?_
              (try simp only [Act.put, List.getElem_toArray, List.getElem_cons_zero, List.getElem_cons_succ, List.setIfInBounds_toArray, List.set_cons_zero, List.set_cons_succ])
              refine wpAnyH_take (i := 16) (v := undef) rfl (by kernel_rfl) (by kernel_rfl) (by kernel_rfl) (fun _ _ _ h => h) (Or.inr ⟨by kernel_rfl, rfl⟩) (by assumption) ?_
              (try simp only [Act.put, List.getElem_toArray, List.getElem_cons_zero, List.getElem_cons_succ, List.setIfInBounds_toArray, List.set_cons_zero, List.set_cons_succ])
              refine wpAnyH_take (i := 17) (v := undef) rfl (by kernel_rfl) (by kernel_rfl) (by kernel_rfl) (fun _ _ _ h => h) (Or.inr ⟨by kernel_rfl, rfl⟩) (by assumption) ?_
              (try simp only [Act.put, List.getElem_toArray, List.getElem_cons_zero, List.getElem_cons_succ, List.setIfInBounds_toArray, List.set_cons_zero, List.set_cons_succ])
              refine wpAnyH_take (i := 18) (v := undef) rfl (by kernel_rfl) (by kernel_rfl) (by kernel_rfl) (fun _ _ _ h => h) (Or.inr ⟨by kernel_rfl, rfl⟩) (by assumption) ?_
              (try simp only [Act.put, List.getElem_toArray, List.getElem_cons_zero, List.getElem_cons_succ, List.setIfInBounds_toArray, List.set_cons_zero, List.set_cons_succ])
              refine wpAnyH_take (i := 19) (v := ?vv1q19x55) rfl (by kernel_rfl) (by kernel_rfl) (by kernel_rfl) (fun _ _ _ h => h) (Or.inl ⟨by kernel_rfl, ?hv1q19x55⟩) (by assumption) ?rv1q19x55
              case hv1q19x55 => (intro w hSw; (try dsimp only at hSw); obtain ⟨⟨z0, z1, z2, z3⟩, z4⟩ := hSw; go_simp; try with_reducible rfl)
              (try simp only [Act.put, List.getElem_toArray, List.getElem_cons_zero, List.getElem_cons_succ, List.setIfInBounds_toArray, List.set_cons_zero, List.set_cons_succ])
              refine wpAnyH_done (by kernel_rfl) ?_ _
              go_upto_region 14 with fail
              refine wp_region_held_drew (S := (fun w' => (w'.cell? ⟨NB, 0, none⟩ = some (.int .i64 (y : Int)) ∧ w'.cell? ⟨NB, 1, none⟩ = some (.int .i64 (x : Int)) ∧ w'.cell? ⟨NB, 2, none⟩ = some (.int .i64 u) ∧ w'.cell? ⟨NB, 3, none⟩ = some (.int .i64 gw)) ∧ w'.cell? ⟨g, i, none⟩ = some (.int .i64 (m : Int)))) (by kernel_rfl) ?_ (fun hHeld => ?_)
              · (try dsimp only); exact HCxs.out _ GG.out.drew
              replace GG := hidb GG.out.drew
              generalize World.drew _ = V1 at *
              refine wpAnyH_take (i := 0) (v := ?vv2q0x4) rfl (by kernel_rfl) (by kernel_rfl) (by kernel_rfl) (fun _ _ _ h => h) (Or.inl ⟨by kernel_rfl, ?hv2q0x4⟩) (by assumption) ?rv2q0x4
              case hv2q0x4 => (intro w hSw; (try dsimp only at hSw); obtain ⟨⟨z0, z1, z2, z3⟩, z4⟩ := hSw; go_simp; try with_reducible rfl)
              (try simp only [Act.put, List.getElem_toArray, List.getElem_cons_zero, List.setIfInBounds_toArray, List.set_cons_zero, List.set_cons_succ])
              refine wpAnyH_take (i := 1) (v := ?vv2q1x7) rfl (by kernel_rfl) (by kernel_rfl) (by kernel_rfl) (fun _ _ _ h => h) (Or.inl ⟨by kernel_rfl, ?hv2q1x7⟩) (by assumption) ?rv2q1x7
              case hv2q1x7 => (intro w hSw; (try dsimp only at hSw); obtain ⟨⟨z0, z1, z2, z3⟩, z4⟩ := hSw; go_simp; try with_reducible rfl)
              (try simp only [Act.put, List.getElem_toArray, List.getElem_cons_zero, List.getElem_cons_succ, List.setIfInBounds_toArray, List.set_cons_zero, List.set_cons_succ])
              refine wpAnyH_take (i := 2) (v := ?vv2q2x10) rfl (by kernel_rfl) (by kernel_rfl) (by kernel_rfl) (fun _ _ _ h => h) (Or.inl ⟨by kernel_rfl, ?hv2q2x10⟩) (by assumption) ?rv2q2x10
              case hv2q2x10 => (intro w hSw; (try dsimp only at hSw); obtain ⟨⟨z0, z1, z2, z3⟩, z4⟩ := hSw; go_simp; try with_reducible rfl)
              (try simp only [Act.put, List.getElem_toArray, List.getElem_cons_zero, List.getElem_cons_succ, List.setIfInBounds_toArray, List.set_cons_zero, List.set_cons_succ])
              refine wpAnyH_take (i := 3) (v := ?vv2q3x13) rfl (by kernel_rfl) (by kernel_rfl) (by kernel_rfl) (fun _ _ _ h => h) (Or.inl ⟨by kernel_rfl, ?hv2q3x13⟩) (by assumption) ?rv2q3x13
              case hv2q3x13 => (intro w hSw; (try dsimp only at hSw); obtain ⟨⟨z0, z1, z2, z3⟩, z4⟩ := hSw; go_simp; try with_reducible rfl)
              (try simp only [Act.put, List.getElem_toArray, List.getElem_cons_zero, List.getElem_cons_succ, List.setIfInBounds_toArray, List.set_cons_zero, List.set_cons_succ])
              refine wpAnyH_take (i := 4) (v := ?vv2q4x16) rfl (by kernel_rfl) (by kernel_rfl) (by kernel_rfl) (fun _ _ _ h => h) (Or.inl ⟨by kernel_rfl, ?hv2q4x16⟩) (by assumption) ?rv2q4x16
              case hv2q4x16 => (intro w hSw; (try dsimp only at hSw); obtain ⟨⟨z0, z1, z2, z3⟩, z4⟩ := hSw; go_simp; try with_reducible rfl)
              (try simp only [Act.put, List.getElem_toArray, List.getElem_cons_zero, List.getElem_cons_succ, List.setIfInBounds_toArray, List.set_cons_zero, List.set_cons_succ])
              refine wpAnyH_take (i := 5) (v := ?vv2q5x19) rfl (by kernel_rfl) (by kernel_rfl) (by kernel_rfl) (fun _ _ _ h => h) (Or.inl ⟨by kernel_rfl, ?hv2q5x19⟩) (by assumption) ?rv2q5x19
              case hv2q5x19 => (intro w hSw; (try dsimp only at hSw); obtain ⟨⟨z0, z1, z2, z3⟩, z4⟩ := hSw; go_simp; try with_reducible rfl)
              (try simp only [Act.put, List.getElem_toArray, List.getElem_cons_zero, List.getElem_cons_succ, List.setIfInBounds_toArray, List.set_cons_zero, List.set_cons_succ])
              refine wpAnyH_take (i := 6) (v := ?vv2q6x22) rfl (by kernel_rfl) (by kernel_rfl) (by kernel_rfl) (fun _ _ _ h => h) (Or.inl ⟨by kernel_rfl, ?hv2q6x22⟩) (by assumption) ?rv2q6x22
              case hv2q6x22 => (intro w hSw; (try dsimp only at hSw); obtain ⟨⟨z0, z1, z2, z3⟩, z4⟩ := hSw; go_simp; try with_reducible rfl)
              (try simp only [Act.put, List.getElem_toArray, List.getElem_cons_zero, List.getElem_cons_succ, List.setIfInBounds_toArray, List.set_cons_zero, List.set_cons_succ])
              refine wpAnyH_take (i := 7) (v := ?vv2q7x25) rfl (by kernel_rfl) (by kernel_rfl) (by kernel_rfl) (fun _ _ _ h => h) (Or.inl ⟨by kernel_rfl, ?hv2q7x25⟩) (by assumption) ?rv2q7x25
              case hv2q7x25 => (intro w hSw; (try dsimp only at hSw); obtain ⟨⟨z0, z1, z2, z3⟩, z4⟩ := hSw; go_simp; try with_reducible rfl)
              (try simp only [Act.put, List.getElem_toArray, List.getElem_cons_zero, List.getElem_cons_succ, List.setIfInBounds_toArray, List.set_cons_zero, List.set_cons_succ])
              refine wpAnyH_take (i := 8) (v := undef) rfl (by kernel_rfl) (by kernel_rfl) (by kernel_rfl) (fun _ _ _ h => h) (Or.inr ⟨by kernel_rfl, rfl⟩) (by assumption) ?_
              (try simp only [Act.put, List.getElem_toArray, List.getElem_cons_zero, List.getElem_cons_succ, List.setIfInBounds_toArray, List.set_cons_zero, List.set_cons_succ])
              refine wpAnyH_take (i := 9) (v := undef) rfl (by kernel_rfl) (by kernel_rfl) (by kernel_rfl) (fun _ _ _ h => h) (Or.inr ⟨by kernel_rfl, rfl⟩) (by assumption) ?_
              (try simp only [Act.put, List.getElem_toArray, List.getElem_cons_zero, List.getElem_cons_succ, List.setIfInBounds_toArray, List.set_cons_zero, List.set_cons_succ])
              refine wpAnyH_take (i := 10) (v := undef) rfl (by kernel_rfl) (by kernel_rfl) (by kernel_rfl) (fun _ _ _ h => h) (Or.inr ⟨by kernel_rfl, rfl⟩) (by assumption) ?_
              (try simp only [Act.put, List.getElem_toArray, List.getElem_cons_zero, List.getElem_cons_succ, List.setIfInBounds_toArray, List.set_cons_zero, List.set_cons_succ])
              refine wpAnyH_take (i := 11) (v := ?vv2q11x34) rfl (by kernel_rfl) (by kernel_rfl) (by kernel_rfl) (fun _ _ _ h => h) (Or.inl ⟨by kernel_rfl, ?hv2q11x34⟩) (by assumption) ?rv2q11x34
              case hv2q11x34 => (intro w hSw; (try dsimp only at hSw); obtain ⟨⟨z0, z1, z2, z3⟩, z4⟩ := hSw; go_simp; try with_reducible rfl)
              (try simp only [Act.put, List.getElem_toArray, List.getElem_cons_zero, List.getElem_cons_succ, List.setIfInBounds_toArray, List.set_cons_zero, List.set_cons_succ])
              refine wpAnyH_take (i := 12) (v := ?vv2q12x37) rfl (by kernel_rfl) (by kernel_rfl) (by kernel_rfl) (fun _ _ _ h => h) (Or.inl ⟨by kernel_rfl, ?hv2q12x37⟩) (by assumption) ?rv2q12x37
              case hv2q12x37 => (intro w hSw; (try dsimp only at hSw); obtain ⟨⟨z0, z1, z2, z3⟩, z4⟩ := hSw; go_simp; try with_reducible rfl)
              (try simp only [Act.put, List.getElem_toArray, List.getElem_cons_zero, List.getElem_cons_succ, List.setIfInBounds_toArray, List.set_cons_zero, List.set_cons_succ])
              refine wpAnyH_take (i := 13) (v := undef) rfl (by kernel_rfl) (by kernel_rfl) (by kernel_rfl) (fun _ _ _ h => h) (Or.inr ⟨by kernel_rfl, rfl⟩) (by assumption) ?_
              (try simp only [Act.put, List.getElem_toArray, List.getElem_cons_zero, List.getElem_cons_succ, List.setIfInBounds_toArray, List.set_cons_zero, List.set_cons_succ])
              refine wpAnyH_take (i := 14) (v := undef) rfl (by kernel_rfl) (by kernel_rfl) (by kernel_rfl) (fun _ _ _ h => h) (Or.inr ⟨by kernel_rfl, rfl⟩) (by assumption) ?_
              (try simp only [Act.put, List.getElem_toArray, List.getElem_cons_zero, List.getElem_cons_succ, List.setIfInBounds_toArray, List.set_cons_zero, List.set_cons_succ])
              refine wpAnyH_take (i := 15) (v := undef) rfl (by kernel_rfl) (by kernel_rfl) (by kernel_rfl) (fun _ _ _ h => h) (Or.inr ⟨by kernel_rfl, rfl⟩) (by assumption) ?_
              (try simp only [Act.put, List.getElem_toArray, List.getElem_cons_zero, List.getElem_cons_succ, List.setIfInBounds_toArray, List.set_cons_zero, List.set_cons_succ])
              refine wpAnyH_take (i := 16) (v := undef) rfl (by kernel_rfl) (by kernel_rfl) (by kernel_rfl) (fun _ _ _ h => h) (Or.inr ⟨by kernel_rfl, rfl⟩) (by assumption) ?_
              (try simp only [Act.put, List.getElem_toArray, List.getElem_cons_zero, List.getElem_cons_succ, List.setIfInBounds_toArray, List.set_cons_zero, List.set_cons_succ])
              refine wpAnyH_take (i := 17) (v := undef) rfl (by kernel_rfl) (by kernel_rfl) (by kernel_rfl) (fun _ _ _ h => h) (Or.inr ⟨by kernel_rfl, rfl⟩) (by assumption) ?_
              (try simp only [Act.put, List.getElem_toArray, List.getElem_cons_zero, List.getElem_cons_succ, List.setIfInBounds_toArray, List.set_cons_zero, List.set_cons_succ])
              refine wpAnyH_take (i := 18) (v := undef) rfl (by kernel_rfl) (by kernel_rfl) (by kernel_rfl) (fun _ _ _ h => h) (Or.inr ⟨by kernel_rfl, rfl⟩) (by assumption) ?_
              (try simp only [Act.put, List.getElem_toArray, List.getElem_cons_zero, List.getElem_cons_succ, List.setIfInBounds_toArray, List.set_cons_zero, List.set_cons_succ])
              refine wpAnyH_take (i := 19) (v := ?vv2q19x52) rfl (by kernel_rfl) (by kernel_rfl) (by kernel_rfl) (fun _ _ _ h => h) (Or.inl ⟨by kernel_rfl, ?hv2q19x52⟩) (by assumption) ?rv2q19x52
              case hv2q19x52 => (intro w hSw; (try dsimp only at hSw); obtain ⟨⟨z0, z1, z2, z3⟩, z4⟩ := hSw; go_simp; try with_reducible rfl)
              (try simp only [Act.put, List.getElem_toArray, List.getElem_cons_zero, List.getElem_cons_succ, List.setIfInBounds_toArray, List.set_cons_zero, List.set_cons_succ])
              refine wpAnyH_done (by kernel_rfl) ?_ _
              have E6 := hidb (E.out.below GG.out.out)
              have HQ6 : Hid (q = s3.ord.length) := by show _ = _; rw [HS3.out]; exact HQk.out
              rw [← HS3.out] at E6
              go_wp2
              go_roundw
              case rel => exact ⟨k + 1, g, cp, q, H3.out, HS4.out ▸ HQ6.out, rfl, by go_num, HS4.out ▸ E6⟩
              case measure => have := H3.out; simp [intOf]; omega
            · have xn : (((x : Nat) : Int) != 0) = true := by simp; omega
              by_cases a0 : a = 0
              · have q1 : (a == 0) = true := by simpa using a0
                refine wp_region_held_drew (S := (fun w' => (w'.cell? ⟨NB, 0, none⟩ = some (.int .i64 (y : Int)) ∧ w'.cell? ⟨NB, 1, none⟩ = some (.int .i64 (x : Int)) ∧ w'.cell? ⟨NB, 2, none⟩ = some (.int .i64 u) ∧ w'.cell? ⟨NB, 3, none⟩ = some (.int .i64 gw)) ∧ w'.cell? ⟨g, i, none⟩ = some (.int .i64 (m : Int)) ∧ w'.cell? ⟨WB, x, none⟩ = some (.int .i64 a) ∧ w'.cell? ⟨WB, y, none⟩ = some (.int .i64 c))) (by kernel_rfl) ?_ (fun hHeld => ?_)
                · (try dsimp only); exact HCx.out _ GG.out.drew
                replace GG := hidb GG.out.drew
                generalize World.drew _ = V0 at *
                refine wpAnyH_take (i := 0) (v := ?vv3q0x4) rfl (by kernel_rfl) (by kernel_rfl) (by kernel_rfl) (fun _ _ _ h => h) (Or.inl ⟨by kernel_rfl, ?hv3q0x4⟩) (by assumption) ?rv3q0x4
                case hv3q0x4 => (intro w hSw; (try dsimp only at hSw); obtain ⟨⟨z0, z1, z2, z3⟩, z4, z5, z6⟩ := hSw; go_simp; try with_reducible rfl)
                (try simp only [Act.put, List.getElem_toArray, List.getElem_cons_zero, List.setIfInBounds_toArray, List.set_cons_zero, List.set_cons_succ])
                refine wpAnyH_take (i := 1) (v := ?vv3q1x7) rfl (by kernel_rfl) (by kernel_rfl) (by kernel_rfl) (fun _ _ _ h => h) (Or.inl ⟨by kernel_rfl, ?hv3q1x7⟩) (by assumption) ?rv3q1x7
                case hv3q1x7 => (intro w hSw; (try dsimp only at hSw); obtain ⟨⟨z0, z1, z2, z3⟩, z4, z5, z6⟩ := hSw; go_simp; try with_reducible rfl)
                (try simp only [Act.put, List.getElem_toArray, List.getElem_cons_zero, List.getElem_cons_succ, List.setIfInBounds_toArray, List.set_cons_zero, List.set_cons_succ])
                refine wpAnyH_take (i := 2) (v := ?vv3q2x10) rfl (by kernel_rfl) (by kernel_rfl) (by kernel_rfl) (fun _ _ _ h => h) (Or.inl ⟨by kernel_rfl, ?hv3q2x10⟩) (by assumption) ?rv3q2x10
                case hv3q2x10 => (intro w hSw; (try dsimp only at hSw); obtain ⟨⟨z0, z1, z2, z3⟩, z4, z5, z6⟩ := hSw; go_simp; try with_reducible rfl)
                (try simp only [Act.put, List.getElem_toArray, List.getElem_cons_zero, List.getElem_cons_succ, List.setIfInBounds_toArray, List.set_cons_zero, List.set_cons_succ])
                refine wpAnyH_take (i := 3) (v := ?vv3q3x13) rfl (by kernel_rfl) (by kernel_rfl) (by kernel_rfl) (fun _ _ _ h => h) (Or.inl ⟨by kernel_rfl, ?hv3q3x13⟩) (by assumption) ?rv3q3x13
                case hv3q3x13 => (intro w hSw; (try dsimp only at hSw); obtain ⟨⟨z0, z1, z2, z3⟩, z4, z5, z6⟩ := hSw; go_simp; try with_reducible rfl)
                (try simp only [Act.put, List.getElem_toArray, List.getElem_cons_zero, List.getElem_cons_succ, List.setIfInBounds_toArray, List.set_cons_zero, List.set_cons_succ])
                refine wpAnyH_take (i := 4) (v := ?vv3q4x16) rfl (by kernel_rfl) (by kernel_rfl) (by kernel_rfl) (fun _ _ _ h => h) (Or.inl ⟨by kernel_rfl, ?hv3q4x16⟩) (by assumption) ?rv3q4x16
                case hv3q4x16 => (intro w hSw; (try dsimp only at hSw); obtain ⟨⟨z0, z1, z2, z3⟩, z4, z5, z6⟩ := hSw; go_simp; try with_reducible rfl)
                (try simp only [Act.put, List.getElem_toArray, List.getElem_cons_zero, List.getElem_cons_succ, List.setIfInBounds_toArray, List.set_cons_zero, List.set_cons_succ])
                refine wpAnyH_take (i := 5) (v := ?vv3q5x19) rfl (by kernel_rfl) (by kernel_rfl) (by kernel_rfl) (fun _ _ _ h => h) (Or.inl ⟨by kernel_rfl, ?hv3q5x19⟩) (by assumption) ?rv3q5x19
                case hv3q5x19 => (intro w hSw; (try dsimp only at hSw); obtain ⟨⟨z0, z1, z2, z3⟩, z4, z5, z6⟩ := hSw; go_simp; try with_reducible rfl)
                (try simp only [Act.put, List.getElem_toArray, List.getElem_cons_zero, List.getElem_cons_succ, List.setIfInBounds_toArray, List.set_cons_zero, List.set_cons_succ])
                refine wpAnyH_take (i := 6) (v := ?vv3q6x22) rfl (by kernel_rfl) (by kernel_rfl) (by kernel_rfl) (fun _ _ _ h => h) (Or.inl ⟨by kernel_rfl, ?hv3q6x22⟩) (by assumption) ?rv3q6x22
                case hv3q6x22 => (intro w hSw; (try dsimp only at hSw); obtain ⟨⟨z0, z1, z2, z3⟩, z4, z5, z6⟩ := hSw; go_simp; try with_reducible rfl)
                (try simp only [Act.put, List.getElem_toArray, List.getElem_cons_zero, List.getElem_cons_succ, List.setIfInBounds_toArray, List.set_cons_zero, List.set_cons_succ])
                refine wpAnyH_take (i := 7) (v := ?vv3q7x25) rfl (by kernel_rfl) (by kernel_rfl) (by kernel_rfl) (fun _ _ _ h => h) (Or.inl ⟨by kernel_rfl, ?hv3q7x25⟩) (by assumption) ?rv3q7x25
                case hv3q7x25 => (intro w hSw; (try dsimp only at hSw); obtain ⟨⟨z0, z1, z2, z3⟩, z4, z5, z6⟩ := hSw; go_simp; try with_reducible rfl)
                (try simp only [Act.put, List.getElem_toArray, List.getElem_cons_zero, List.getElem_cons_succ, List.setIfInBounds_toArray, List.set_cons_zero, List.set_cons_succ])
                refine wpAnyH_take (i := 8) (v := ?vv3q8x28) rfl (by kernel_rfl) (by kernel_rfl) (by kernel_rfl) (fun _ _ _ h => h) (Or.inl ⟨by kernel_rfl, ?hv3q8x28⟩) (by assumption) ?rv3q8x28
                case hv3q8x28 => (intro w hSw; (try dsimp only at hSw); obtain ⟨⟨z0, z1, z2, z3⟩, z4, z5, z6⟩ := hSw; go_simp; try with_reducible rfl)
                (try simp only [Act.put, List.getElem_toArray, List.getElem_cons_zero, List.getElem_cons_succ, List.setIfInBounds_toArray, List.set_cons_zero, List.set_cons_succ])
                refine wpAnyH_take (i := 9) (v := ?vv3q9x31) rfl (by kernel_rfl) (by kernel_rfl) (by kernel_rfl) (fun _ _ _ h => h) (Or.inl ⟨by kernel_rfl, ?hv3q9x31⟩) (by assumption) ?rv3q9x31
                case hv3q9x31 => (intro w hSw; (try dsimp only at hSw); obtain ⟨⟨z0, z1, z2, z3⟩, z4, z5, z6⟩ := hSw; go_simp; try with_reducible rfl)
                (try simp only [Act.put, List.getElem_toArray, List.getElem_cons_zero, List.getElem_cons_succ, List.setIfInBounds_toArray, List.set_cons_zero, List.set_cons_succ])
                refine wpAnyH_take (i := 10) (v := ?vv3q10x34) rfl (by kernel_rfl) (by kernel_rfl) (by kernel_rfl) (fun _ _ _ h => h) (Or.inl ⟨by kernel_rfl, ?hv3q10x34⟩) (by assumption) ?rv3q10x34
                case hv3q10x34 => (intro w hSw; (try dsimp only at hSw); obtain ⟨⟨z0, z1, z2, z3⟩, z4, z5, z6⟩ := hSw; go_simp; try with_reducible rfl)
                (try simp only [Act.put, List.getElem_toArray, List.getElem_cons_zero, List.getElem_cons_succ, List.setIfInBounds_toArray, List.set_cons_zero, List.set_cons_succ])
                refine wpAnyH_take (i := 11) (v := ?vv3q11x37) rfl (by kernel_rfl) (by kernel_rfl) (by kernel_rfl) (fun _ _ _ h => h) (Or.inl ⟨by kernel_rfl, ?hv3q11x37⟩) (by assumption) ?rv3q11x37
                case hv3q11x37 => (intro w hSw; (try dsimp only at hSw); obtain ⟨⟨z0, z1, z2, z3⟩, z4, z5, z6⟩ := hSw; go_simp; try with_reducible rfl)
                (try simp only [Act.put, List.getElem_toArray, List.getElem_cons_zero, List.getElem_cons_succ, List.setIfInBounds_toArray, List.set_cons_zero, List.set_cons_succ])
                refine wpAnyH_take (i := 12) (v := ?vv3q12x40) rfl (by kernel_rfl) (by kernel_rfl) (by kernel_rfl) (fun _ _ _ h => h) (Or.inl ⟨by kernel_rfl, ?hv3q12x40⟩) (by assumption) ?rv3q12x40
                case hv3q12x40 => (intro w hSw; (try dsimp only at hSw); obtain ⟨⟨z0, z1, z2, z3⟩, z4, z5, z6⟩ := hSw; go_simp; try with_reducible rfl)
                (try simp only [Act.put, List.getElem_toArray, List.getElem_cons_zero, List.getElem_cons_succ, List.setIfInBounds_toArray, List.set_cons_zero, List.set_cons_succ])
                refine wpAnyH_take (i := 13) (v := ?vv3q13x43) rfl (by kernel_rfl) (by kernel_rfl) (by kernel_rfl) (fun _ _ _ h => h) (Or.inl ⟨by kernel_rfl, ?hv3q13x43⟩) (by assumption) ?rv3q13x43
                case hv3q13x43 => (intro w hSw; (try dsimp only at hSw); obtain ⟨⟨z0, z1, z2, z3⟩, z4, z5, z6⟩ := hSw; go_simp; try with_reducible rfl)
                (try simp only [Act.put, List.getElem_toArray, List.getElem_cons_zero, List.getElem_cons_succ, List.setIfInBounds_toArray, List.set_cons_zero, List.set_cons_succ])
                refine wpAnyH_take (i := 14) (v := ?vv3q14x46) rfl (by kernel_rfl) (by kernel_rfl) (by kernel_rfl) (fun _ _ _ h => h) (Or.inl ⟨by kernel_rfl, ?hv3q14x46⟩) (by assumption) ?rv3q14x46
                case hv3q14x46 => (intro w hSw; (try dsimp only at hSw); obtain ⟨⟨z0, z1, z2, z3⟩, z4, z5, z6⟩ := hSw; go_simp; try with_reducible rfl)
                (try simp only [Act.put, List.getElem_toArray, List.getElem_cons_zero, List.getElem_cons_succ, List.setIfInBounds_toArray, List.set_cons_zero, List.set_cons_succ])
                refine wpAnyH_take (i := 15) (v := ?vv3q15x49) rfl (by kernel_rfl) (by kernel_rfl) (by kernel_rfl) (fun _ _ _ h => h) (Or.inl ⟨by kernel_rfl, ?hv3q15x49⟩) (by assumption) ?rv3q15x49
                case hv3q15x49 => (intro w hSw; (try dsimp only at hSw); obtain ⟨⟨z0, z1, z2, z3⟩, z4, z5, z6⟩ := hSw; go_simp; try with_reducible rfl)
                (try simp only [Act.put, List.getElem_toArray, List.getElem_cons_zero, List.getElem_cons_succ, List.setIfInBounds_toArray, List.set_cons_zero, List.set_cons_succ])
                refine wpAnyH_take (i := 16) (v := ?vv3q16x52) rfl (by kernel_rfl) (by kernel_rfl) (by kernel_rfl) (fun _ _ _ h => h) (Or.inl ⟨by kernel_rfl, ?hv3q16x52⟩) (by assumption) ?rv3q16x52
                case hv3q16x52 => (intro w hSw; (try dsimp only at hSw); obtain ⟨⟨z0, z1, z2, z3⟩, z4, z5, z6⟩ := hSw; go_simp; try with_reducible rfl)
                (try simp only [Act.put, List.getElem_toArray, List.getElem_cons_zero, List.getElem_cons_succ, List.setIfInBounds_toArray, List.set_cons_zero, List.set_cons_succ])
                refine wpAnyH_take (i := 17) (v := ?vv3q17x55) rfl (by kernel_rfl) (by kernel_rfl) (by kernel_rfl) (fun _ _ _ h => h) (Or.inl ⟨by kernel_rfl, ?hv3q17x55⟩) (by assumption) ?rv3q17x55
                case hv3q17x55 => (intro w hSw; (try dsimp only at hSw); obtain ⟨⟨z0, z1, z2, z3⟩, z4, z5, z6⟩ := hSw; go_simp; try with_reducible rfl)
                (try simp only [Act.put, List.getElem_toArray, List.getElem_cons_zero, List.getElem_cons_succ, List.setIfInBounds_toArray, List.set_cons_zero, List.set_cons_succ])
                refine wpAnyH_take (i := 18) (v := ?vv3q18x58) rfl (by kernel_rfl) (by kernel_rfl) (by kernel_rfl) (fun _ _ _ h => h) (Or.inl ⟨by kernel_rfl, ?hv3q18x58⟩) (by assumption) ?rv3q18x58
                case hv3q18x58 => (intro w hSw; (try dsimp only at hSw); obtain ⟨⟨z0, z1, z2, z3⟩, z4, z5, z6⟩ := hSw; go_simp; try with_reducible rfl)
                (try simp only [Act.put, List.getElem_toArray, List.getElem_cons_zero, List.getElem_cons_succ, List.setIfInBounds_toArray, List.set_cons_zero, List.set_cons_succ])
                refine wpAnyH_take (i := 19) (v := ?vv3q19x61) rfl (by kernel_rfl) (by kernel_rfl) (by kernel_rfl) (fun _ _ _ h => h) (Or.inl ⟨by kernel_rfl, ?hv3q19x61⟩) (by assumption) ?rv3q19x61
                case hv3q19x61 => (intro w hSw; (try dsimp only at hSw); obtain ⟨⟨z0, z1, z2, z3⟩, z4, z5, z6⟩ := hSw; go_simp; try with_reducible rfl)
                (try simp only [Act.put, List.getElem_toArray, List.getElem_cons_zero, List.getElem_cons_succ, List.setIfInBounds_toArray, List.set_cons_zero, List.set_cons_succ])
                refine wpAnyH_done (by kernel_rfl) ?_ _
                have HS3 : Hid (s3 = adE s2 x ((k : Int) + 1)) := by show _ = _; rw [HScN.out]; exact st_f HEx.out y1 x0 (by rw [← HA.out.1]; exact a0)
                obtain ⟨-, fx⟩ := (E.out.below GG.out.out).a hxl
                have hne : ¬ WB = NB := HNb.out.1
                have E7 : Hid (TM w (V0.setCell ⟨WB, x, none⟩ (.int .i64 ((k : Int) + 1))) WB (WB + 1) g cp ⟨s2.wy.set x ((k : Int) + 1), s2.ord⟩ ∧ At (V0.setCell ⟨WB, x, none⟩ (.int .i64 ((k : Int) + 1))) NB [.int .i64 (y : Int), .int .i64 (x : Int), .int .i64 u, .int .i64 gw]) := ⟨(E.out.below GG.out.out).put x _, (At.below GG.out.out AR.out).skip hne _ _⟩
                obtain ⟨r0, r1, r2, r3⟩ := (At.below GG.out.out AR.out).c4
                clear y1 x0 a0 q1
                go_upto_region 13 with fail
                clear r0 r1 r2 r3 fx hne
                generalize V0.setCell ⟨WB, x, none⟩ (.int .i64 ((k : Int) + 1)) = V2 at *
                obtain ⟨r0, r1, r2, r3⟩ := E7.out.2.c4
                have Hr : Hid (V2.ownsRow (WB + 1) 3 1 (.slice (some ⟨g, 0, none⟩) q cp) q (ir (on s2.ord)) ∧ WB + 1 ≤ V2.heap.size) := ⟨by have := E7.out.1.r; rw [HQk.out]; exact this, E7.out.1.b.2.2⟩
                have HQM : Hid (q ≤ 20000) := by show _ ≤ _; rw [HQk.out]; have := HSk.out.len; have := HM.out; omega
                go_upto_region 14 with (at_builtin; refine wpList_in _ (WB + 1) (.slice (some ⟨g, 0, none⟩) q cp) (on s2.ord) (x : Int) q V2.heap.size _ _ rfl rfl rfl rfl HQM.out (own_kept Hr.out.1 ((Below.refl _ _).alloc (Nat.le_refl _) _)) (At.at1 rfl _ _) (by have := Hr.out.2; simp; omega) (V2.heap.size + 1) (by simp) ?_; intro g2 cap3 w3 hown hgrow)
                have E8 : Hid (TM w w3 WB (WB + 1) g2 cap3 s3 ∧ q + 1 = s3.ord.length ∧ At w3 NB [.int .i64 (y : Int), .int .i64 (x : Int), .int .i64 u, .int .i64 gw]) := by
                  rw [HS3.out]
                  refine ⟨TM.app E7.out.1 (by rw [← HQk.out]; exact hown.out) (by rw [← HQk.out]; exact hgrow.out), ?_, At.grwn (E7.out.2.alloc _) hgrow.out (fun e => HNb.out.2 (Option.some.inj e))⟩
                  show q + 1 = (s2.ord ++ [x]).length
                  rw [List.length_append, HQk.out]
                  rfl
                clear hown hgrow E7 Hr r0 r1 r2 r3
                have HCys : Hid (∀ W', Gr w3 W' → (fun w' => (w'.cell? ⟨NB, 0, none⟩ = some (.int .i64 (y : Int)) ∧ w'.cell? ⟨NB, 1, none⟩ = some (.int .i64 (x : Int)) ∧ w'.cell? ⟨NB, 2, none⟩ = some (.int .i64 u) ∧ w'.cell? ⟨NB, 3, none⟩ = some (.int .i64 gw)) ∧ w'.cell? ⟨g2, i, none⟩ = some (.int .i64 (m : Int))) W') := fun W' hG => by
                  have hp := pre_oX (st_pre (edL l) m s2 k) HOx.out.2
                  rw [← HScN.out, HOx.out.1] at hp
                  have ho := (E8.out.1.below hG.out).o hp.2
                  rw [hp.1] at ho
                  exact ⟨(At.below hG.out E8.out.2.2).c4, ho⟩
                have ixo2 := indexI g2 (q + 1) cap3 i (by have := HOx.out.2; have := HQk.out; omega)
                clear GG
                have GG := hidb (Gr.refl w3)
                refine wp_region_held_drew (S := (fun w' => (w'.cell? ⟨NB, 0, none⟩ = some (.int .i64 (y : Int)) ∧ w'.cell? ⟨NB, 1, none⟩ = some (.int .i64 (x : Int)) ∧ w'.cell? ⟨NB, 2, none⟩ = some (.int .i64 u) ∧ w'.cell? ⟨NB, 3, none⟩ = some (.int .i64 gw)) ∧ w'.cell? ⟨g2, i, none⟩ = some (.int .i64 (m : Int)))) (by kernel_rfl) ?_ (fun hHeld => ?_)
                · (try dsimp only); exact HCys.out _ GG.out.drew
                replace GG := hidb GG.out.drew
                generalize World.drew _ = V1 at *
                refine wpAnyH_take (i := 0) (v := ?vv4q0x4) rfl (by kernel_rfl) (by kernel_rfl) (by kernel_rfl) (fun _ _ _ h => h) (Or.inl ⟨by kernel_rfl, ?hv4q0x4⟩) (by assumption) ?rv4q0x4
                case hv4q0x4 => (intro w hSw; (try dsimp only at hSw); obtain ⟨⟨z0, z1, z2, z3⟩, z4⟩ := hSw; go_simp; try with_reducible rfl)
                (try simp only [Act.put, List.getElem_toArray, List.getElem_cons_zero, List.setIfInBounds_toArray, List.set_cons_zero, List.set_cons_succ])
                refine wpAnyH_take (i := 1) (v := ?vv4q1x7) rfl (by kernel_rfl) (by kernel_rfl) (by kernel_rfl) (fun _ _ _ h => h) (Or.inl ⟨by kernel_rfl, ?hv4q1x7⟩) (by assumption) ?rv4q1x7
                case hv4q1x7 => (intro w hSw; (try dsimp only at hSw); obtain ⟨⟨z0, z1, z2, z3⟩, z4⟩ := hSw; go_simp; try with_reducible rfl)
                (try simp only [Act.put, List.getElem_toArray, List.getElem_cons_zero, List.getElem_cons_succ, List.setIfInBounds_toArray, List.set_cons_zero, List.set_cons_succ])
                refine wpAnyH_take (i := 2) (v := ?vv4q2x10) rfl (by kernel_rfl) (by kernel_rfl) (by kernel_rfl) (fun _ _ _ h => h) (Or.inl ⟨by kernel_rfl, ?hv4q2x10⟩) (by assumption) ?rv4q2x10
                case hv4q2x10 => (intro w hSw; (try dsimp only at hSw); obtain ⟨⟨z0, z1, z2, z3⟩, z4⟩ := hSw; go_simp; try with_reducible rfl)
                (try simp only [Act.put, List.getElem_toArray, List.getElem_cons_zero, List.getElem_cons_succ, List.setIfInBounds_toArray, List.set_cons_zero, List.set_cons_succ])
                refine wpAnyH_take (i := 3) (v := ?vv4q3x13) rfl (by kernel_rfl) (by kernel_rfl) (by kernel_rfl) (fun _ _ _ h => h) (Or.inl ⟨by kernel_rfl, ?hv4q3x13⟩) (by assumption) ?rv4q3x13
                case hv4q3x13 => (intro w hSw; (try dsimp only at hSw); obtain ⟨⟨z0, z1, z2, z3⟩, z4⟩ := hSw; go_simp; try with_reducible rfl)
                (try simp only [Act.put, List.getElem_toArray, List.getElem_cons_zero, List.getElem_cons_succ, List.setIfInBounds_toArray, List.set_cons_zero, List.set_cons_succ])
                refine wpAnyH_take (i := 4) (v := ?vv4q4x16) rfl (by kernel_rfl) (by kernel_rfl) (by kernel_rfl) (fun _ _ _ h => h) (Or.inl ⟨by kernel_rfl, ?hv4q4x16⟩) (by assumption) ?rv4q4x16
                case hv4q4x16 => (intro w hSw; (try dsimp only at hSw); obtain ⟨⟨z0, z1, z2, z3⟩, z4⟩ := hSw; go_simp; try with_reducible rfl)
                (try simp only [Act.put, List.getElem_toArray, List.getElem_cons_zero, List.getElem_cons_succ, List.setIfInBounds_toArray, List.set_cons_zero, List.set_cons_succ])
                refine wpAnyH_take (i := 5) (v := ?vv4q5x19) rfl (by kernel_rfl) (by kernel_rfl) (by kernel_rfl) (fun _ _ _ h => h) (Or.inl ⟨by kernel_rfl, ?hv4q5x19⟩) (by assumption) ?rv4q5x19
                case hv4q5x19 => (intro w hSw; (try dsimp only at hSw); obtain ⟨⟨z0, z1, z2, z3⟩, z4⟩ := hSw; go_simp; try with_reducible rfl)
                (try simp only [Act.put, List.getElem_toArray, List.getElem_cons_zero, List.getElem_cons_succ, List.setIfInBounds_toArray, List.set_cons_zero, List.set_cons_succ])
                refine wpAnyH_take (i := 6) (v := ?vv4q6x22) rfl (by kernel_rfl) (by kernel_rfl) (by kernel_rfl) (fun _ _ _ h => h) (Or.inl ⟨by kernel_rfl, ?hv4q6x22⟩) (by assumption) ?rv4q6x22
                case hv4q6x22 => (intro w hSw; (try dsimp only at hSw); obtain ⟨⟨z0, z1, z2, z3⟩, z4⟩ := hSw; go_simp; try with_reducible rfl)
                (try simp only [Act.put, List.getElem_toArray, List.getElem_cons_zero, List.getElem_cons_succ, List.setIfInBounds_toArray, List.set_cons_zero, List.set_cons_succ])
                refine wpAnyH_take (i := 7) (v := ?vv4q7x25) rfl (by kernel_rfl) (by kernel_rfl) (by kernel_rfl) (fun _ _ _ h => h) (Or.inl ⟨by kernel_rfl, ?hv4q7x25⟩) (by assumption) ?rv4q7x25
                case hv4q7x25 => (intro w hSw; (try dsimp only at hSw); obtain ⟨⟨z0, z1, z2, z3⟩, z4⟩ := hSw; go_simp; try with_reducible rfl)
                (try simp only [Act.put, List.getElem_toArray, List.getElem_cons_zero, List.getElem_cons_succ, List.setIfInBounds_toArray, List.set_cons_zero, List.set_cons_succ])
                refine wpAnyH_take (i := 8) (v := undef) rfl (by kernel_rfl) (by kernel_rfl) (by kernel_rfl) (fun _ _ _ h => h) (Or.inr ⟨by kernel_rfl, rfl⟩) (by assumption) ?_
                (try simp only [Act.put, List.getElem_toArray, List.getElem_cons_zero, List.getElem_cons_succ, List.setIfInBounds_toArray, List.set_cons_zero, List.set_cons_succ])
                refine wpAnyH_take (i := 9) (v := undef) rfl (by kernel_rfl) (by kernel_rfl) (by kernel_rfl) (fun _ _ _ h => h) (Or.inr ⟨by kernel_rfl, rfl⟩) (by assumption) ?_
                (try simp only [Act.put, List.getElem_toArray, List.getElem_cons_zero, List.getElem_cons_succ, List.setIfInBounds_toArray, List.set_cons_zero, List.set_cons_succ])
                refine wpAnyH_take (i := 10) (v := undef) rfl (by kernel_rfl) (by kernel_rfl) (by kernel_rfl) (fun _ _ _ h => h) (Or.inr ⟨by kernel_rfl, rfl⟩) (by assumption) ?_
                (try simp only [Act.put, List.getElem_toArray, List.getElem_cons_zero, List.getElem_cons_succ, List.setIfInBounds_toArray, List.set_cons_zero, List.set_cons_succ])
                refine wpAnyH_take (i := 11) (v := ?vv4q11x34) rfl (by kernel_rfl) (by kernel_rfl) (by kernel_rfl) (fun _ _ _ h => h) (Or.inl ⟨by kernel_rfl, ?hv4q11x34⟩) (by assumption) ?rv4q11x34
                case hv4q11x34 => (intro w hSw; (try dsimp only at hSw); obtain ⟨⟨z0, z1, z2, z3⟩, z4⟩ := hSw; go_simp; try with_reducible rfl)
                (try simp only [Act.put, List.getElem_toArray, List.getElem_cons_zero, List.getElem_cons_succ, List.setIfInBounds_toArray, List.set_cons_zero, List.set_cons_succ])
                refine wpAnyH_take (i := 12) (v := ?vv4q12x37) rfl (by kernel_rfl) (by kernel_rfl) (by kernel_rfl) (fun _ _ _ h => h) (Or.inl ⟨by kernel_rfl, ?hv4q12x37⟩) (by assumption) ?rv4q12x37
                case hv4q12x37 => (intro w hSw; (try dsimp only at hSw); obtain ⟨⟨z0, z1, z2, z3⟩, z4⟩ := hSw; go_simp; try with_reducible rfl)
                (try simp only [Act.put, List.getElem_toArray, List.getElem_cons_zero, List.getElem_cons_succ, List.setIfInBounds_toArray, List.set_cons_zero, List.set_cons_succ])
                refine wpAnyH_take (i := 13) (v := undef) rfl (by kernel_rfl) (by kernel_rfl) (by kernel_rfl) (fun _ _ _ h => h) (Or.inr ⟨by kernel_rfl, rfl⟩) (by assumption) ?_
                (try simp only [Act.put, List.getElem_toArray, List.getElem_cons_zero, List.getElem_cons_succ, List.setIfInBounds_toArray, List.set_cons_zero, List.set_cons_succ])
                refine wpAnyH_take (i := 14) (v := undef) rfl (by kernel_rfl) (by kernel_rfl) (by kernel_rfl) (fun _ _ _ h => h) (Or.inr ⟨by kernel_rfl, rfl⟩) (by assumption) ?_
                (try simp only [Act.put, List.getElem_toArray, List.getElem_cons_zero, List.getElem_cons_succ, List.setIfInBounds_toArray, List.set_cons_zero, List.set_cons_succ])
                refine wpAnyH_take (i := 15) (v := undef) rfl (by kernel_rfl) (by kernel_rfl) (by kernel_rfl) (fun _ _ _ h => h) (Or.inr ⟨by kernel_rfl, rfl⟩) (by assumption) ?_
                (try simp only [Act.put, List.getElem_toArray, List.getElem_cons_zero, List.getElem_cons_succ, List.setIfInBounds_toArray, List.set_cons_zero, List.set_cons_succ])
                refine wpAnyH_take (i := 16) (v := undef) rfl (by kernel_rfl) (by kernel_rfl) (by kernel_rfl) (fun _ _ _ h => h) (Or.inr ⟨by kernel_rfl, rfl⟩) (by assumption) ?_
                (try simp only [Act.put, List.getElem_toArray, List.getElem_cons_zero, List.getElem_cons_succ, List.setIfInBounds_toArray, List.set_cons_zero, List.set_cons_succ])
                refine wpAnyH_take (i := 17) (v := undef) rfl (by kernel_rfl) (by kernel_rfl) (by kernel_rfl) (fun _ _ _ h => h) (Or.inr ⟨by kernel_rfl, rfl⟩) (by assumption) ?_
                (try simp only [Act.put, List.getElem_toArray, List.getElem_cons_zero, List.getElem_cons_succ, List.setIfInBounds_toArray, List.set_cons_zero, List.set_cons_succ])
                refine wpAnyH_take (i := 18) (v := undef) rfl (by kernel_rfl) (by kernel_rfl) (by kernel_rfl) (fun _ _ _ h => h) (Or.inr ⟨by kernel_rfl, rfl⟩) (by assumption) ?_
                (try simp only [Act.put, List.getElem_toArray, List.getElem_cons_zero, List.getElem_cons_succ, List.setIfInBounds_toArray, List.set_cons_zero, List.set_cons_succ])
                refine wpAnyH_take (i := 19) (v := ?vv4q19x52) rfl (by kernel_rfl) (by kernel_rfl) (by kernel_rfl) (fun _ _ _ h => h) (Or.inl ⟨by kernel_rfl, ?hv4q19x52⟩) (by assumption) ?rv4q19x52
                case hv4q19x52 => (intro w hSw; (try dsimp only at hSw); obtain ⟨⟨z0, z1, z2, z3⟩, z4⟩ := hSw; go_simp; try with_reducible rfl)
                (try simp only [Act.put, List.getElem_toArray, List.getElem_cons_zero, List.getElem_cons_succ, List.setIfInBounds_toArray, List.set_cons_zero, List.set_cons_succ])
                refine wpAnyH_done (by kernel_rfl) ?_ _
                replace E8 := hidb (show TM w V1 WB (WB + 1) g2 cap3 s3 ∧ q + 1 = s3.ord.length ∧ True from ⟨E8.out.1.below GG.out.out, E8.out.2.1, trivial⟩)
                go_wp2
                go_roundw
                case rel => exact ⟨k + 1, g2, cap3, q + 1, H3.out, HS4.out ▸ E8.out.2.1, rfl, by go_num, HS4.out ▸ hidb E8.out.1⟩
                case measure => have := H3.out; simp [intOf]; omega
              · have q1 : (a == 0) = false := by simpa using a0
                have HS3 : Hid (s3 = s2) := by show _ = _; rw [HScN.out]; exact st_no HEx.out (fun q => a0 (by rw [HA.out.1]; exact q.2.2)) (fun q => HX.out.2.2 (y1.trans q.1.symm))
                clear y1 HEx HScN a0 x0
                refine wp_region_held_drew (S := (fun w' => (w'.cell? ⟨NB, 0, none⟩ = some (.int .i64 (y : Int)) ∧ w'.cell? ⟨NB, 1, none⟩ = some (.int .i64 (x : Int)) ∧ w'.cell? ⟨NB, 2, none⟩ = some (.int .i64 u) ∧ w'.cell? ⟨NB, 3, none⟩ = some (.int .i64 gw)) ∧ w'.cell? ⟨g, i, none⟩ = some (.int .i64 (m : Int)) ∧ w'.cell? ⟨WB, x, none⟩ = some (.int .i64 a) ∧ w'.cell? ⟨WB, y, none⟩ = some (.int .i64 c))) (by kernel_rfl) ?_ (fun hHeld => ?_)
                · (try dsimp only); exact HCx.out _ GG.out.drew
                replace GG := hidb GG.out.drew
                generalize World.drew _ = V0 at *
                refine wpAnyH_take (i := 0) (v := ?vv5q0x4) rfl (by kernel_rfl) (by kernel_rfl) (by kernel_rfl) (fun _ _ _ h => h) (Or.inl ⟨by kernel_rfl, ?hv5q0x4⟩) (by assumption) ?rv5q0x4
                case hv5q0x4 => (intro w hSw; (try dsimp only at hSw); obtain ⟨⟨z0, z1, z2, z3⟩, z4, z5, z6⟩ := hSw; go_simp; try with_reducible rfl)
                (try simp only [Act.put, List.getElem_toArray, List.getElem_cons_zero, List.setIfInBounds_toArray, List.set_cons_zero, List.set_cons_succ])
                refine wpAnyH_take (i := 1) (v := ?vv5q1x7) rfl (by kernel_rfl) (by kernel_rfl) (by kernel_rfl) (fun _ _ _ h => h) (Or.inl ⟨by kernel_rfl, ?hv5q1x7⟩) (by assumption) ?rv5q1x7
                case hv5q1x7 => (intro w hSw; (try dsimp only at hSw); obtain ⟨⟨z0, z1, z2, z3⟩, z4, z5, z6⟩ := hSw; go_simp; try with_reducible rfl)
                (try simp only [Act.put, List.getElem_toArray, List.getElem_cons_zero, List.getElem_cons_succ, List.setIfInBounds_toArray, List.set_cons_zero, List.set_cons_succ])
                refine wpAnyH_take (i := 2) (v := ?vv5q2x10) rfl (by kernel_rfl) (by kernel_rfl) (by kernel_rfl) (fun _ _ _ h => h) (Or.inl ⟨by kernel_rfl, ?hv5q2x10⟩) (by assumption) ?rv5q2x10
                case hv5q2x10 => (intro w hSw; (try dsimp only at hSw); obtain ⟨⟨z0, z1, z2, z3⟩, z4, z5, z6⟩ := hSw; go_simp; try with_reducible rfl)
                (try simp only [Act.put, List.getElem_toArray, List.getElem_cons_zero, List.getElem_cons_succ, List.setIfInBounds_toArray, List.set_cons_zero, List.set_cons_succ])
                refine wpAnyH_take (i := 3) (v := ?vv5q3x13) rfl (by kernel_rfl) (by kernel_rfl) (by kernel_rfl) (fun _ _ _ h => h) (Or.inl ⟨by kernel_rfl, ?hv5q3x13⟩) (by assumption) ?rv5q3x13
                case hv5q3x13 => (intro w hSw; (try dsimp only at hSw); obtain ⟨⟨z0, z1, z2, z3⟩, z4, z5, z6⟩ := hSw; go_simp; try with_reducible rfl)
                (try simp only [Act.put, List.getElem_toArray, List.getElem_cons_zero, List.getElem_cons_succ, List.setIfInBounds_toArray, List.set_cons_zero, List.set_cons_succ])
                refine wpAnyH_take (i := 4) (v := ?vv5q4x16) rfl (by kernel_rfl) (by kernel_rfl) (by kernel_rfl) (fun _ _ _ h => h) (Or.inl ⟨by kernel_rfl, ?hv5q4x16⟩) (by assumption) ?rv5q4x16
                case hv5q4x16 => (intro w hSw; (try dsimp only at hSw); obtain ⟨⟨z0, z1, z2, z3⟩, z4, z5, z6⟩ := hSw; go_simp; try with_reducible rfl)
                (try simp only [Act.put, List.getElem_toArray, List.getElem_cons_zero, List.getElem_cons_succ, List.setIfInBounds_toArray, List.set_cons_zero, List.set_cons_succ])
                refine wpAnyH_take (i := 5) (v := ?vv5q5x19) rfl (by kernel_rfl) (by kernel_rfl) (by kernel_rfl) (fun _ _ _ h => h) (Or.inl ⟨by kernel_rfl, ?hv5q5x19⟩) (by assumption) ?rv5q5x19
                case hv5q5x19 => (intro w hSw; (try dsimp only at hSw); obtain ⟨⟨z0, z1, z2, z3⟩, z4, z5, z6⟩ := hSw; go_simp; try with_reducible rfl)
                (try simp only [Act.put, List.getElem_toArray, List.getElem_cons_zero, List.getElem_cons_succ, List.setIfInBounds_toArray, List.set_cons_zero, List.set_cons_succ])
                refine wpAnyH_take (i := 6) (v := ?vv5q6x22) rfl (by kernel_rfl) (by kernel_rfl) (by kernel_rfl) (fun _ _ _ h => h) (Or.inl ⟨by kernel_rfl, ?hv5q6x22⟩) (by assumption) ?rv5q6x22
                case hv5q6x22 => (intro w hSw; (try dsimp only at hSw); obtain ⟨⟨z0, z1, z2, z3⟩, z4, z5, z6⟩ := hSw; go_simp; try with_reducible rfl)
                (try simp only [Act.put, List.getElem_toArray, List.getElem_cons_zero, List.getElem_cons_succ, List.setIfInBounds_toArray, List.set_cons_zero, List.set_cons_succ])
                refine wpAnyH_take (i := 7) (v := ?vv5q7x25) rfl (by kernel_rfl) (by kernel_rfl) (by kernel_rfl) (fun _ _ _ h => h) (Or.inl ⟨by kernel_rfl, ?hv5q7x25⟩) (by assumption) ?rv5q7x25
                case hv5q7x25 => (intro w hSw; (try dsimp only at hSw); obtain ⟨⟨z0, z1, z2, z3⟩, z4, z5, z6⟩ := hSw; go_simp; try with_reducible rfl)
                (try simp only [Act.put, List.getElem_toArray, List.getElem_cons_zero, List.getElem_cons_succ, List.setIfInBounds_toArray, List.set_cons_zero, List.set_cons_succ])
                refine wpAnyH_take (i := 8) (v := ?vv5q8x28) rfl (by kernel_rfl) (by kernel_rfl) (by kernel_rfl) (fun _ _ _ h => h) (Or.inl ⟨by kernel_rfl, ?hv5q8x28⟩) (by assumption) ?rv5q8x28
                case hv5q8x28 => (intro w hSw; (try dsimp only at hSw); obtain ⟨⟨z0, z1, z2, z3⟩, z4, z5, z6⟩ := hSw; go_simp; try with_reducible rfl)
                (try simp only [Act.put, List.getElem_toArray, List.getElem_cons_zero, List.getElem_cons_succ, List.setIfInBounds_toArray, List.set_cons_zero, List.set_cons_succ])
                refine wpAnyH_take (i := 9) (v := ?vv5q9x31) rfl (by kernel_rfl) (by kernel_rfl) (by kernel_rfl) (fun _ _ _ h => h) (Or.inl ⟨by kernel_rfl, ?hv5q9x31⟩) (by assumption) ?rv5q9x31
                case hv5q9x31 => (intro w hSw; (try dsimp only at hSw); obtain ⟨⟨z0, z1, z2, z3⟩, z4, z5, z6⟩ := hSw; go_simp; try with_reducible rfl)
                (try simp only [Act.put, List.getElem_toArray, List.getElem_cons_zero, List.getElem_cons_succ, List.setIfInBounds_toArray, List.set_cons_zero, List.set_cons_succ])
                refine wpAnyH_take (i := 10) (v := ?vv5q10x34) rfl (by kernel_rfl) (by kernel_rfl) (by kernel_rfl) (fun _ _ _ h => h) (Or.inl ⟨by kernel_rfl, ?hv5q10x34⟩) (by assumption) ?rv5q10x34
                case hv5q10x34 => (intro w hSw; (try dsimp only at hSw); obtain ⟨⟨z0, z1, z2, z3⟩, z4, z5, z6⟩ := hSw; go_simp; try with_reducible rfl)
                (try simp only [Act.put, List.getElem_toArray, List.getElem_cons_zero, List.getElem_cons_succ, List.setIfInBounds_toArray, List.set_cons_zero, List.set_cons_succ])
                refine wpAnyH_take (i := 11) (v := ?vv5q11x37) rfl (by kernel_rfl) (by kernel_rfl) (by kernel_rfl) (fun _ _ _ h => h) (Or.inl ⟨by kernel_rfl, ?hv5q11x37⟩) (by assumption) ?rv5q11x37
                case hv5q11x37 => (intro w hSw; (try dsimp only at hSw); obtain ⟨⟨z0, z1, z2, z3⟩, z4, z5, z6⟩ := hSw; go_simp; try with_reducible rfl)
                (try simp only [Act.put, List.getElem_toArray, List.getElem_cons_zero, List.getElem_cons_succ, List.setIfInBounds_toArray, List.set_cons_zero, List.set_cons_succ])
                refine wpAnyH_take (i := 12) (v := ?vv5q12x40) rfl (by kernel_rfl) (by kernel_rfl) (by kernel_rfl) (fun _ _ _ h => h) (Or.inl ⟨by kernel_rfl, ?hv5q12x40⟩) (by assumption) ?rv5q12x40
                case hv5q12x40 => (intro w hSw; (try dsimp only at hSw); obtain ⟨⟨z0, z1, z2, z3⟩, z4, z5, z6⟩ := hSw; go_simp; try with_reducible rfl)
                (try simp only [Act.put, List.getElem_toArray, List.getElem_cons_zero, List.getElem_cons_succ, List.setIfInBounds_toArray, List.set_cons_zero, List.set_cons_succ])
                refine wpAnyH_take (i := 13) (v := ?vv5q13x43) rfl (by kernel_rfl) (by kernel_rfl) (by kernel_rfl) (fun _ _ _ h => h) (Or.inl ⟨by kernel_rfl, ?hv5q13x43⟩) (by assumption) ?rv5q13x43
                case hv5q13x43 => (intro w hSw; (try dsimp only at hSw); obtain ⟨⟨z0, z1, z2, z3⟩, z4, z5, z6⟩ := hSw; go_simp; try with_reducible rfl)
                (try simp only [Act.put, List.getElem_toArray, List.getElem_cons_zero, List.getElem_cons_succ, List.setIfInBounds_toArray, List.set_cons_zero, List.set_cons_succ])
                refine wpAnyH_take (i := 14) (v := ?vv5q14x46) rfl (by kernel_rfl) (by kernel_rfl) (by kernel_rfl) (fun _ _ _ h => h) (Or.inl ⟨by kernel_rfl, ?hv5q14x46⟩) (by assumption) ?rv5q14x46
                case hv5q14x46 => (intro w hSw; (try dsimp only at hSw); obtain ⟨⟨z0, z1, z2, z3⟩, z4, z5, z6⟩ := hSw; go_simp; try with_reducible rfl)
                (try simp only [Act.put, List.getElem_toArray, List.getElem_cons_zero, List.getElem_cons_succ, List.setIfInBounds_toArray, List.set_cons_zero, List.set_cons_succ])
                refine wpAnyH_take (i := 15) (v := ?vv5q15x49) rfl (by kernel_rfl) (by kernel_rfl) (by kernel_rfl) (fun _ _ _ h => h) (Or.inl ⟨by kernel_rfl, ?hv5q15x49⟩) (by assumption) ?rv5q15x49
                case hv5q15x49 => (intro w hSw; (try dsimp only at hSw); obtain ⟨⟨z0, z1, z2, z3⟩, z4, z5, z6⟩ := hSw; go_simp; try with_reducible rfl)
                (try simp only [Act.put, List.getElem_toArray, List.getElem_cons_zero, List.getElem_cons_succ, List.setIfInBounds_toArray, List.set_cons_zero, List.set_cons_succ])
                refine wpAnyH_take (i := 16) (v := ?vv5q16x52) rfl (by kernel_rfl) (by kernel_rfl) (by kernel_rfl) (fun _ _ _ h => h) (Or.inl ⟨by kernel_rfl, ?hv5q16x52⟩) (by assumption) ?rv5q16x52
                case hv5q16x52 => (intro w hSw; (try dsimp only at hSw); obtain ⟨⟨z0, z1, z2, z3⟩, z4, z5, z6⟩ := hSw; go_simp; try with_reducible rfl)
                (try simp only [Act.put, List.getElem_toArray, List.getElem_cons_zero, List.getElem_cons_succ, List.setIfInBounds_toArray, List.set_cons_zero, List.set_cons_succ])
                refine wpAnyH_take (i := 17) (v := ?vv5q17x55) rfl (by kernel_rfl) (by kernel_rfl) (by kernel_rfl) (fun _ _ _ h => h) (Or.inl ⟨by kernel_rfl, ?hv5q17x55⟩) (by assumption) ?rv5q17x55
                case hv5q17x55 => (intro w hSw; (try dsimp only at hSw); obtain ⟨⟨z0, z1, z2, z3⟩, z4, z5, z6⟩ := hSw; go_simp; try with_reducible rfl)
                (try simp only [Act.put, List.getElem_toArray, List.getElem_cons_zero, List.getElem_cons_succ, List.setIfInBounds_toArray, List.set_cons_zero, List.set_cons_succ])
                refine wpAnyH_take (i := 18) (v := ?vv5q18x58) rfl (by kernel_rfl) (by kernel_rfl) (by kernel_rfl) (fun _ _ _ h => h) (Or.inl ⟨by kernel_rfl, ?hv5q18x58⟩) (by assumption) ?rv5q18x58
                case hv5q18x58 => (intro w hSw; (try dsimp only at hSw); obtain ⟨⟨z0, z1, z2, z3⟩, z4, z5, z6⟩ := hSw; go_simp; try with_reducible rfl)
                (try simp only [Act.put, List.getElem_toArray, List.getElem_cons_zero, List.getElem_cons_succ, List.setIfInBounds_toArray, List.set_cons_zero, List.set_cons_succ])
                refine wpAnyH_take (i := 19) (v := ?vv5q19x61) rfl (by kernel_rfl) (by kernel_rfl) (by kernel_rfl) (fun _ _ _ h => h) (Or.inl ⟨by kernel_rfl, ?hv5q19x61⟩) (by assumption) ?rv5q19x61
                case hv5q19x61 => (intro w hSw; (try dsimp only at hSw); obtain ⟨⟨z0, z1, z2, z3⟩, z4, z5, z6⟩ := hSw; go_simp; try with_reducible rfl)
                (try simp only [Act.put, List.getElem_toArray, List.getElem_cons_zero, List.getElem_cons_succ, List.setIfInBounds_toArray, List.set_cons_zero, List.set_cons_succ])
                refine wpAnyH_done (by kernel_rfl) ?_ _
                go_upto_region 14 with fail
                refine wp_region_held_drew (S := (fun w' => (w'.cell? ⟨NB, 0, none⟩ = some (.int .i64 (y : Int)) ∧ w'.cell? ⟨NB, 1, none⟩ = some (.int .i64 (x : Int)) ∧ w'.cell? ⟨NB, 2, none⟩ = some (.int .i64 u) ∧ w'.cell? ⟨NB, 3, none⟩ = some (.int .i64 gw)) ∧ w'.cell? ⟨g, i, none⟩ = some (.int .i64 (m : Int)))) (by kernel_rfl) ?_ (fun hHeld => ?_)
                · (try dsimp only); exact HCxs.out _ GG.out.drew
                replace GG := hidb GG.out.drew
                generalize World.drew _ = V1 at *
                refine wpAnyH_take (i := 0) (v := ?vv6q0x4) rfl (by kernel_rfl) (by kernel_rfl) (by kernel_rfl) (fun _ _ _ h => h) (Or.inl ⟨by kernel_rfl, ?hv6q0x4⟩) (by assumption) ?rv6q0x4
                case hv6q0x4 => (intro w hSw; (try dsimp only at hSw); obtain ⟨⟨z0, z1, z2, z3⟩, z4⟩ := hSw; go_simp; try with_reducible rfl)
                (try simp only [Act.put, List.getElem_toArray, List.getElem_cons_zero, List.setIfInBounds_toArray, List.set_cons_zero, List.set_cons_succ])
                refine wpAnyH_take (i := 1) (v := ?vv6q1x7) rfl (by kernel_rfl) (by kernel_rfl) (by kernel_rfl) (fun _ _ _ h => h) (Or.inl ⟨by kernel_rfl, ?hv6q1x7⟩) (by assumption) ?rv6q1x7
                case hv6q1x7 => (intro w hSw; (try dsimp only at hSw); obtain ⟨⟨z0, z1, z2, z3⟩, z4⟩ := hSw; go_simp; try with_reducible rfl)
                (try simp only [Act.put, List.getElem_toArray, List.getElem_cons_zero, List.getElem_cons_succ, List.setIfInBounds_toArray, List.set_cons_zero, List.set_cons_succ])
                refine wpAnyH_take (i := 2) (v := ?vv6q2x10) rfl (by kernel_rfl) (by kernel_rfl) (by kernel_rfl) (fun _ _ _ h => h) (Or.inl ⟨by kernel_rfl, ?hv6q2x10⟩) (by assumption) ?rv6q2x10
                case hv6q2x10 => (intro w hSw; (try dsimp only at hSw); obtain ⟨⟨z0, z1, z2, z3⟩, z4⟩ := hSw; go_simp; try with_reducible rfl)
                (try simp only [Act.put, List.getElem_toArray, List.getElem_cons_zero, List.getElem_cons_succ, List.setIfInBounds_toArray, List.set_cons_zero, List.set_cons_succ])
                refine wpAnyH_take (i := 3) (v := ?vv6q3x13) rfl (by kernel_rfl) (by kernel_rfl) (by kernel_rfl) (fun _ _ _ h => h) (Or.inl ⟨by kernel_rfl, ?hv6q3x13⟩) (by assumption) ?rv6q3x13
                case hv6q3x13 => (intro w hSw; (try dsimp only at hSw); obtain ⟨⟨z0, z1, z2, z3⟩, z4⟩ := hSw; go_simp; try with_reducible rfl)
                (try simp only [Act.put, List.getElem_toArray, List.getElem_cons_zero, List.getElem_cons_succ, List.setIfInBounds_toArray, List.set_cons_zero, List.set_cons_succ])
                refine wpAnyH_take (i := 4) (v := ?vv6q4x16) rfl (by kernel_rfl) (by kernel_rfl) (by kernel_rfl) (fun _ _ _ h => h) (Or.inl ⟨by kernel_rfl, ?hv6q4x16⟩) (by assumption) ?rv6q4x16
                case hv6q4x16 => (intro w hSw; (try dsimp only at hSw); obtain ⟨⟨z0, z1, z2, z3⟩, z4⟩ := hSw; go_simp; try with_reducible rfl)
                (try simp only [Act.put, List.getElem_toArray, List.getElem_cons_zero, List.getElem_cons_succ, List.setIfInBounds_toArray, List.set_cons_zero, List.set_cons_succ])
                refine wpAnyH_take (i := 5) (v := ?vv6q5x19) rfl (by kernel_rfl) (by kernel_rfl) (by kernel_rfl) (fun _ _ _ h => h) (Or.inl ⟨by kernel_rfl, ?hv6q5x19⟩) (by assumption) ?rv6q5x19
                case hv6q5x19 => (intro w hSw; (try dsimp only at hSw); obtain ⟨⟨z0, z1, z2, z3⟩, z4⟩ := hSw; go_simp; try with_reducible rfl)
                (try simp only [Act.put, List.getElem_toArray, List.getElem_cons_zero, List.getElem_cons_succ, List.setIfInBounds_toArray, List.set_cons_zero, List.set_cons_succ])
                refine wpAnyH_take (i := 6) (v := ?vv6q6x22) rfl (by kernel_rfl) (by kernel_rfl) (by kernel_rfl) (fun _ _ _ h => h) (Or.inl ⟨by kernel_rfl, ?hv6q6x22⟩) (by assumption) ?rv6q6x22
                case hv6q6x22 => (intro w hSw; (try dsimp only at hSw); obtain ⟨⟨z0, z1, z2, z3⟩, z4⟩ := hSw; go_simp; try with_reducible rfl)
                (try simp only [Act.put, List.getElem_toArray, List.getElem_cons_zero, List.getElem_cons_succ, List.setIfInBounds_toArray, List.set_cons_zero, List.set_cons_succ])
                refine wpAnyH_take (i := 7) (v := ?vv6q7x25) rfl (by kernel_rfl) (by kernel_rfl) (by kernel_rfl) (fun _ _ _ h => h) (Or.inl ⟨by kernel_rfl, ?hv6q7x25⟩) (by assumption) ?rv6q7x25
                case hv6q7x25 => (intro w hSw; (try dsimp only at hSw); obtain ⟨⟨z0, z1, z2, z3⟩, z4⟩ := hSw; go_simp; try with_reducible rfl)
                (try simp only [Act.put, List.getElem_toArray, List.getElem_cons_zero, List.getElem_cons_succ, List.setIfInBounds_toArray, List.set_cons_zero, List.set_cons_succ])
                refine wpAnyH_take (i := 8) (v := undef) rfl (by kernel_rfl) (by kernel_rfl) (by kernel_rfl) (fun _ _ _ h => h) (Or.inr ⟨by kernel_rfl, rfl⟩) (by assumption) ?_
                (try simp only [Act.put, List.getElem_toArray, List.getElem_cons_zero, List.getElem_cons_succ, List.setIfInBounds_toArray, List.set_cons_zero, List.set_cons_succ])
                refine wpAnyH_take (i := 9) (v := undef) rfl (by kernel_rfl) (by kernel_rfl) (by kernel_rfl) (fun _ _ _ h => h) (Or.inr ⟨by kernel_rfl, rfl⟩) (by assumption) ?_
                (try simp only [Act.put, List.getElem_toArray, List.getElem_cons_zero, List.getElem_cons_succ, List.setIfInBounds_toArray, List.set_cons_zero, List.set_cons_succ])
                refine wpAnyH_take (i := 10) (v := undef) rfl (by kernel_rfl) (by kernel_rfl) (by kernel_rfl) (fun _ _ _ h => h) (Or.inr ⟨by kernel_rfl, rfl⟩) (by assumption) ?_
                (try simp only [Act.put, List.getElem_toArray, List.getElem_cons_zero, List.getElem_cons_succ, List.setIfInBounds_toArray, List.set_cons_zero, List.set_cons_succ])
                refine wpAnyH_take (i := 11) (v := ?vv6q11x34) rfl (by kernel_rfl) (by kernel_rfl) (by kernel_rfl) (fun _ _ _ h => h) (Or.inl ⟨by kernel_rfl, ?hv6q11x34⟩) (by assumption) ?rv6q11x34
                case hv6q11x34 => (intro w hSw; (try dsimp only at hSw); obtain ⟨⟨z0, z1, z2, z3⟩, z4⟩ := hSw; go_simp; try with_reducible rfl)
                (try simp only [Act.put, List.getElem_toArray, List.getElem_cons_zero, List.getElem_cons_succ, List.setIfInBounds_toArray, List.set_cons_zero, List.set_cons_succ])
                refine wpAnyH_take (i := 12) (v := ?vv6q12x37) rfl (by kernel_rfl) (by kernel_rfl) (by kernel_rfl) (fun _ _ _ h => h) (Or.inl ⟨by kernel_rfl, ?hv6q12x37⟩) (by assumption) ?rv6q12x37
                case hv6q12x37 => (intro w hSw; (try dsimp only at hSw); obtain ⟨⟨z0, z1, z2, z3⟩, z4⟩ := hSw; go_simp; try with_reducible rfl)
                (try simp only [Act.put, List.getElem_toArray, List.getElem_cons_zero, List.getElem_cons_succ, List.setIfInBounds_toArray, List.set_cons_zero, List.set_cons_succ])
                refine wpAnyH_take (i := 13) (v := undef) rfl (by kernel_rfl) (by kernel_rfl) (by kernel_rfl) (fun _ _ _ h => h) (Or.inr ⟨by kernel_rfl, rfl⟩) (by assumption) ?_
                (try simp only [Act.put, List.getElem_toArray, List.getElem_cons_zero, List.getElem_cons_succ, List.setIfInBounds_toArray, List.set_cons_zero, List.set_cons_succ])
                refine wpAnyH_take (i := 14) (v := undef) rfl (by kernel_rfl) (by kernel_rfl) (by kernel_rfl) (fun _ _ _ h => h) (Or.inr ⟨by kernel_rfl, rfl⟩) (by assumption) ?_
                (try simp only [Act.put, List.getElem_toArray, List.getElem_cons_zero, List.getElem_cons_succ, List.setIfInBounds_toArray, List.set_cons_zero, List.set_cons_succ])
                refine wpAnyH_take (i := 15) (v := undef) rfl (by kernel_rfl) (by kernel_rfl) (by kernel_rfl) (fun _ _ _ h => h) (Or.inr ⟨by kernel_rfl, rfl⟩) (by assumption) ?_
                (try simp only [Act.put, List.getElem_toArray, List.getElem_cons_zero, List.getElem_cons_succ, List.setIfInBounds_toArray, List.set_cons_zero, List.set_cons_succ])
                refine wpAnyH_take (i := 16) (v := undef) rfl (by kernel_rfl) (by kernel_rfl) (by kernel_rfl) (fun _ _ _ h => h) (Or.inr ⟨by kernel_rfl, rfl⟩) (by assumption) ?_
                (try simp only [Act.put, List.getElem_toArray, List.getElem_cons_zero, List.getElem_cons_succ, List.setIfInBounds_toArray, List.set_cons_zero, List.set_cons_succ])
                refine wpAnyH_take (i := 17) (v := undef) rfl (by kernel_rfl) (by kernel_rfl) (by kernel_rfl) (fun _ _ _ h => h) (Or.inr ⟨by kernel_rfl, rfl⟩) (by assumption) ?_
                (try simp only [Act.put, List.getElem_toArray, List.getElem_cons_zero, List.getElem_cons_succ, List.setIfInBounds_toArray, List.set_cons_zero, List.set_cons_succ])
                refine wpAnyH_take (i := 18) (v := undef) rfl (by kernel_rfl) (by kernel_rfl) (by kernel_rfl) (fun _ _ _ h => h) (Or.inr ⟨by kernel_rfl, rfl⟩) (by assumption) ?_
                (try simp only [Act.put, List.getElem_toArray, List.getElem_cons_zero, List.getElem_cons_succ, List.setIfInBounds_toArray, List.set_cons_zero, List.set_cons_succ])
                refine wpAnyH_take (i := 19) (v := ?vv6q19x52) rfl (by kernel_rfl) (by kernel_rfl) (by kernel_rfl) (fun _ _ _ h => h) (Or.inl ⟨by kernel_rfl, ?hv6q19x52⟩) (by assumption) ?rv6q19x52
                case hv6q19x52 => (intro w hSw; (try dsimp only at hSw); obtain ⟨⟨z0, z1, z2, z3⟩, z4⟩ := hSw; go_simp; try with_reducible rfl)
                (try simp only [Act.put, List.getElem_toArray, List.getElem_cons_zero, List.getElem_cons_succ, List.setIfInBounds_toArray, List.set_cons_zero, List.set_cons_succ])
                refine wpAnyH_done (by kernel_rfl) ?_ _
                have E6 := hidb (E.out.below GG.out.out)
                have HQ6 : Hid (q = s3.ord.length) := by show _ = _; rw [HS3.out]; exact HQk.out
                rw [← HS3.out] at E6
                go_wp2
                go_roundw
                case rel => exact ⟨k + 1, g, cp, q, H3.out, HS4.out ▸ HQ6.out, rfl, by go_num, HS4.out ▸ E6⟩
                case measure => have := H3.out; simp [intOf]; omega
          · have ym : (((y : Nat) : Int) == ((m : Nat) : Int)) = false := by simp; omega
            by_cases x1 : x = m
            · have xm : (((x : Nat) : Int) == ((m : Nat) : Int)) = true := by rw [x1]; simp
              by_cases y0 : y = 0
              · have HS3 : Hid (s3 = s2) := by show _ = _; rw [HScN.out]; exact st_no HEx.out (fun q => y1 q.1) (fun q => q.2.1 y0)
                have yn : (((y : Nat) : Int) != 0) = false := by rw [y0]; simp
                clear y1 x1 HA HEx HScN y0
                refine wp_region_held_drew (S := (fun w' => (w'.cell? ⟨NB, 0, none⟩ = some (.int .i64 (y : Int)) ∧ w'.cell? ⟨NB, 1, none⟩ = some (.int .i64 (x : Int)) ∧ w'.cell? ⟨NB, 2, none⟩ = some (.int .i64 u) ∧ w'.cell? ⟨NB, 3, none⟩ = some (.int .i64 gw)) ∧ w'.cell? ⟨g, i, none⟩ = some (.int .i64 (m : Int)))) (by kernel_rfl) ?_ (fun hHeld => ?_)
                · (try dsimp only); exact HCxs.out _ GG.out.drew
                replace GG := hidb GG.out.drew
                generalize World.drew _ = V0 at *
                refine wpAnyH_take (i := 0) (v := ?vv7q0x4) rfl (by kernel_rfl) (by kernel_rfl) (by kernel_rfl) (fun _ _ _ h => h) (Or.inl ⟨by kernel_rfl, ?hv7q0x4⟩) (by assumption) ?rv7q0x4
                case hv7q0x4 => (intro w hSw; (try dsimp only at hSw); obtain ⟨⟨z0, z1, z2, z3⟩, z4⟩ := hSw; go_simp; try with_reducible rfl)
                (try simp only [Act.put, List.getElem_toArray, List.getElem_cons_zero, List.setIfInBounds_toArray, List.set_cons_zero, List.set_cons_succ])
                refine wpAnyH_take (i := 1) (v := ?vv7q1x7) rfl (by kernel_rfl) (by kernel_rfl) (by kernel_rfl) (fun _ _ _ h => h) (Or.inl ⟨by kernel_rfl, ?hv7q1x7⟩) (by assumption) ?rv7q1x7
                case hv7q1x7 => (intro w hSw; (try dsimp only at hSw); obtain ⟨⟨z0, z1, z2, z3⟩, z4⟩ := hSw; go_simp; try with_reducible rfl)
                (try simp only [Act.put, List.getElem_toArray, List.getElem_cons_zero, List.getElem_cons_succ, List.setIfInBounds_toArray, List.set_cons_zero, List.set_cons_succ])
                refine wpAnyH_take (i := 2) (v := ?vv7q2x10) rfl (by kernel_rfl) (by kernel_rfl) (by kernel_rfl) (fun _ _ _ h => h) (Or.inl ⟨by kernel_rfl, ?hv7q2x10⟩) (by assumption) ?rv7q2x10
                case hv7q2x10 => (intro w hSw; (try dsimp only at hSw); obtain ⟨⟨z0, z1, z2, z3⟩, z4⟩ := hSw; go_simp; try with_reducible rfl)
                (try simp only [Act.put, List.getElem_toArray, List.getElem_cons_zero, List.getElem_cons_succ, List.setIfInBounds_toArray, List.set_cons_zero, List.set_cons_succ])
                refine wpAnyH_take (i := 3) (v := ?vv7q3x13) rfl (by kernel_rfl) (by kernel_rfl) (by kernel_rfl) (fun _ _ _ h => h) (Or.inl ⟨by kernel_rfl, ?hv7q3x13⟩) (by assumption) ?rv7q3x13
                case hv7q3x13 => (intro w hSw; (try dsimp only at hSw); obtain ⟨⟨z0, z1, z2, z3⟩, z4⟩ := hSw; go_simp; try with_reducible rfl)
                (try simp only [Act.put, List.getElem_toArray, List.getElem_cons_zero, List.getElem_cons_succ, List.setIfInBounds_toArray, List.set_cons_zero, List.set_cons_succ])
                refine wpAnyH_take (i := 4) (v := ?vv7q4x16) rfl (by kernel_rfl) (by kernel_rfl) (by kernel_rfl) (fun _ _ _ h => h) (Or.inl ⟨by kernel_rfl, ?hv7q4x16⟩) (by assumption) ?rv7q4x16
                case hv7q4x16 => (intro w hSw; (try dsimp only at hSw); obtain ⟨⟨z0, z1, z2, z3⟩, z4⟩ := hSw; go_simp; try with_reducible rfl)
                (try simp only [Act.put, List.getElem_toArray, List.getElem_cons_zero, List.getElem_cons_succ, List.setIfInBounds_toArray, List.set_cons_zero, List.set_cons_succ])
                refine wpAnyH_take (i := 5) (v := ?vv7q5x19) rfl (by kernel_rfl) (by kernel_rfl) (by kernel_rfl) (fun _ _ _ h => h) (Or.inl ⟨by kernel_rfl, ?hv7q5x19⟩) (by assumption) ?rv7q5x19
                case hv7q5x19 => (intro w hSw; (try dsimp only at hSw); obtain ⟨⟨z0, z1, z2, z3⟩, z4⟩ := hSw; go_simp; try with_reducible rfl)
                (try simp only [Act.put, List.getElem_toArray, List.getElem_cons_zero, List.getElem_cons_succ, List.setIfInBounds_toArray, List.set_cons_zero, List.set_cons_succ])
                refine wpAnyH_take (i := 6) (v := ?vv7q6x22) rfl (by kernel_rfl) (by kernel_rfl) (by kernel_rfl) (fun _ _ _ h => h) (Or.inl ⟨by kernel_rfl, ?hv7q6x22⟩) (by assumption) ?rv7q6x22
                case hv7q6x22 => (intro w hSw; (try dsimp only at hSw); obtain ⟨⟨z0, z1, z2, z3⟩, z4⟩ := hSw; go_simp; try with_reducible rfl)
                (try simp only [Act.put, List.getElem_toArray, List.getElem_cons_zero, List.getElem_cons_succ, List.setIfInBounds_toArray, List.set_cons_zero, List.set_cons_succ])
                refine wpAnyH_take (i := 7) (v := ?vv7q7x25) rfl (by kernel_rfl) (by kernel_rfl) (by kernel_rfl) (fun _ _ _ h => h) (Or.inl ⟨by kernel_rfl, ?hv7q7x25⟩) (by assumption) ?rv7q7x25
                case hv7q7x25 => (intro w hSw; (try dsimp only at hSw); obtain ⟨⟨z0, z1, z2, z3⟩, z4⟩ := hSw; go_simp; try with_reducible rfl)
                (try simp only [Act.put, List.getElem_toArray, List.getElem_cons_zero, List.getElem_cons_succ, List.setIfInBounds_toArray, List.set_cons_zero, List.set_cons_succ])
                refine wpAnyH_take (i := 8) (v := undef) rfl (by kernel_rfl) (by kernel_rfl) (by kernel_rfl) (fun _ _ _ h => h) (Or.inr ⟨by kernel_rfl, rfl⟩) (by assumption) ?_
                (try simp only [Act.put, List.getElem_toArray, List.getElem_cons_zero, List.getElem_cons_succ, List.setIfInBounds_toArray, List.set_cons_zero, List.set_cons_succ])
                refine wpAnyH_take (i := 9) (v := undef) rfl (by kernel_rfl) (by kernel_rfl) (by kernel_rfl) (fun _ _ _ h => h) (Or.inr ⟨by kernel_rfl, rfl⟩) (by assumption) ?_
                (try simp only [Act.put, List.getElem_toArray, List.getElem_cons_zero, List.getElem_cons_succ, List.setIfInBounds_toArray, List.set_cons_zero, List.set_cons_succ])
                refine wpAnyH_take (i := 10) (v := undef) rfl (by kernel_rfl) (by kernel_rfl) (by kernel_rfl) (fun _ _ _ h => h) (Or.inr ⟨by kernel_rfl, rfl⟩) (by assumption) ?_
                (try simp only [Act.put, List.getElem_toArray, List.getElem_cons_zero, List.getElem_cons_succ, List.setIfInBounds_toArray, List.set_cons_zero, List.set_cons_succ])
                refine wpAnyH_take (i := 11) (v := ?vv7q11x34) rfl (by kernel_rfl) (by kernel_rfl) (by kernel_rfl) (fun _ _ _ h => h) (Or.inl ⟨by kernel_rfl, ?hv7q11x34⟩) (by assumption) ?rv7q11x34
                case hv7q11x34 => (intro w hSw; (try dsimp only at hSw); obtain ⟨⟨z0, z1, z2, z3⟩, z4⟩ := hSw; go_simp; try with_reducible rfl)
                (try simp only [Act.put, List.getElem_toArray, List.getElem_cons_zero, List.getElem_cons_succ, List.setIfInBounds_toArray, List.set_cons_zero, List.set_cons_succ])
                refine wpAnyH_take (i := 12) (v := ?vv7q12x37) rfl (by kernel_rfl) (by kernel_rfl) (by kernel_rfl) (fun _ _ _ h => h) (Or.inl ⟨by kernel_rfl, ?hv7q12x37⟩) (by assumption) ?rv7q12x37
                case hv7q12x37 => (intro w hSw; (try dsimp only at hSw); obtain ⟨⟨z0, z1, z2, z3⟩, z4⟩ := hSw; go_simp; try with_reducible rfl)
                (try simp only [Act.put, List.getElem_toArray, List.getElem_cons_zero, List.getElem_cons_succ, List.setIfInBounds_toArray, List.set_cons_zero, List.set_cons_succ])
                refine wpAnyH_take (i := 13) (v := undef) rfl (by kernel_rfl) (by kernel_rfl) (by kernel_rfl) (fun _ _ _ h => h) (Or.inr ⟨by kernel_rfl, rfl⟩) (by assumption) ?_
                (try simp only [Act.put, List.getElem_toArray, List.getElem_cons_zero, List.getElem_cons_succ, List.setIfInBounds_toArray, List.set_cons_zero, List.set_cons_succ])
                refine wpAnyH_take (i := 14) (v := undef) rfl (by kernel_rfl) (by kernel_rfl) (by kernel_rfl) (fun _ _ _ h => h) (Or.inr ⟨by kernel_rfl, rfl⟩) (by assumption) ?_
                (try simp only [Act.put, List.getElem_toArray, List.getElem_cons_zero, List.getElem_cons_succ, List.setIfInBounds_toArray, List.set_cons_zero, List.set_cons_succ])
                refine wpAnyH_take (i := 15) (v := undef) rfl (by kernel_rfl) (by kernel_rfl) (by kernel_rfl) (fun _ _ _ h => h) (Or.inr ⟨by kernel_rfl, rfl⟩) (by assumption) ?_
                (try simp only [Act.put, List.getElem_toArray, List.getElem_cons_zero, List.getElem_cons_succ, List.setIfInBounds_toArray, List.set_cons_zero, List.set_cons_succ])
                refine wpAnyH_take (i := 16) (v := undef) rfl (by kernel_rfl) (by kernel_rfl) (by kernel_rfl) (fun _ _ _ h => h) (Or.inr ⟨by kernel_rfl, rfl⟩) (by assumption) ?_
                (try simp only [Act.put, List.getElem_toArray, List.getElem_cons_zero, List.getElem_cons_succ, List.setIfInBounds_toArray, List.set_cons_zero, List.set_cons_succ])
                refine wpAnyH_take (i := 17) (v := undef) rfl (by kernel_rfl) (by kernel_rfl) (by kernel_rfl) (fun _ _ _ h => h) (Or.inr ⟨by kernel_rfl, rfl⟩) (by assumption) ?_
                (try simp only [Act.put, List.getElem_toArray, List.getElem_cons_zero, List.getElem_cons_succ, List.setIfInBounds_toArray, List.set_cons_zero, List.set_cons_succ])
                refine wpAnyH_take (i := 18) (v := undef) rfl (by kernel_rfl) (by kernel_rfl) (by kernel_rfl) (fun _ _ _ h => h) (Or.inr ⟨by kernel_rfl, rfl⟩) (by assumption) ?_
                (try simp only [Act.put, List.getElem_toArray, List.getElem_cons_zero, List.getElem_cons_succ, List.setIfInBounds_toArray, List.set_cons_zero, List.set_cons_succ])
                refine wpAnyH_take (i := 19) (v := ?vv7q19x52) rfl (by kernel_rfl) (by kernel_rfl) (by kernel_rfl) (fun _ _ _ h => h) (Or.inl ⟨by kernel_rfl, ?hv7q19x52⟩) (by assumption) ?rv7q19x52
                case hv7q19x52 => (intro w hSw; (try dsimp only at hSw); obtain ⟨⟨z0, z1, z2, z3⟩, z4⟩ := hSw; go_simp; try with_reducible rfl)
                (try simp only [Act.put, List.getElem_toArray, List.getElem_cons_zero, List.getElem_cons_succ, List.setIfInBounds_toArray, List.set_cons_zero, List.set_cons_succ])
                refine wpAnyH_done (by kernel_rfl) ?_ _
                go_upto_region 14 with fail
                refine wp_region_held_drew (S := (fun w' => (w'.cell? ⟨NB, 0, none⟩ = some (.int .i64 (y : Int)) ∧ w'.cell? ⟨NB, 1, none⟩ = some (.int .i64 (x : Int)) ∧ w'.cell? ⟨NB, 2, none⟩ = some (.int .i64 u) ∧ w'.cell? ⟨NB, 3, none⟩ = some (.int .i64 gw)) ∧ w'.cell? ⟨g, i, none⟩ = some (.int .i64 (m : Int)))) (by kernel_rfl) ?_ (fun hHeld => ?_)
                · (try dsimp only); exact HCxs.out _ GG.out.drew
                replace GG := hidb GG.out.drew
                generalize World.drew _ = V1 at *
                refine wpAnyH_take (i := 0) (v := ?vv8q0x4) rfl (by kernel_rfl) (by kernel_rfl) (by kernel_rfl) (fun _ _ _ h => h) (Or.inl ⟨by kernel_rfl, ?hv8q0x4⟩) (by assumption) ?rv8q0x4
                case hv8q0x4 => (intro w hSw; (try dsimp only at hSw); obtain ⟨⟨z0, z1, z2, z3⟩, z4⟩ := hSw; go_simp; try with_reducible rfl)
                (try simp only [Act.put, List.getElem_toArray, List.getElem_cons_zero, List.setIfInBounds_toArray, List.set_cons_zero, List.set_cons_succ])
                refine wpAnyH_take (i := 1) (v := ?vv8q1x7) rfl (by kernel_rfl) (by kernel_rfl) (by kernel_rfl) (fun _ _ _ h => h) (Or.inl ⟨by kernel_rfl, ?hv8q1x7⟩) (by assumption) ?rv8q1x7
                case hv8q1x7 => (intro w hSw; (try dsimp only at hSw); obtain ⟨⟨z0, z1, z2, z3⟩, z4⟩ := hSw; go_simp; try with_reducible rfl)
                (try simp only [Act.put, List.getElem_toArray, List.getElem_cons_zero, List.getElem_cons_succ, List.setIfInBounds_toArray, List.set_cons_zero, List.set_cons_succ])
                refine wpAnyH_take (i := 2) (v := ?vv8q2x10) rfl (by kernel_rfl) (by kernel_rfl) (by kernel_rfl) (fun _ _ _ h => h) (Or.inl ⟨by kernel_rfl, ?hv8q2x10⟩) (by assumption) ?rv8q2x10
                case hv8q2x10 => (intro w hSw; (try dsimp only at hSw); obtain ⟨⟨z0, z1, z2, z3⟩, z4⟩ := hSw; go_simp; try with_reducible rfl)
                (try simp only [Act.put, List.getElem_toArray, List.getElem_cons_zero, List.getElem_cons_succ, List.setIfInBounds_toArray, List.set_cons_zero, List.set_cons_succ])
                refine wpAnyH_take (i := 3) (v := ?vv8q3x13) rfl (by kernel_rfl) (by kernel_rfl) (by kernel_rfl) (fun _ _ _ h => h) (Or.inl ⟨by kernel_rfl, ?hv8q3x13⟩) (by assumption) ?rv8q3x13
                case hv8q3x13 => (intro w hSw; (try dsimp only at hSw); obtain ⟨⟨z0, z1, z2, z3⟩, z4⟩ := hSw; go_simp; try with_reducible rfl)
                (try simp only [Act.put, List.getElem_toArray, List.getElem_cons_zero, List.getElem_cons_succ, List.setIfInBounds_toArray, List.set_cons_zero, List.set_cons_succ])
                refine wpAnyH_take (i := 4) (v := ?vv8q4x16) rfl (by kernel_rfl) (by kernel_rfl) (by kernel_rfl) (fun _ _ _ h => h) (Or.inl ⟨by kernel_rfl, ?hv8q4x16⟩) (by assumption) ?rv8q4x16
                case hv8q4x16 => (intro w hSw; (try dsimp only at hSw); obtain ⟨⟨z0, z1, z2, z3⟩, z4⟩ := hSw; go_simp; try with_reducible rfl)
                (try simp only [Act.put, List.getElem_toArray, List.getElem_cons_zero, List.getElem_cons_succ, List.setIfInBounds_toArray, List.set_cons_zero, List.set_cons_succ])
                refine wpAnyH_take (i := 5) (v := ?vv8q5x19) rfl (by kernel_rfl) (by kernel_rfl) (by kernel_rfl) (fun _ _ _ h => h) (Or.inl ⟨by kernel_rfl, ?hv8q5x19⟩) (by assumption) ?rv8q5x19
                case hv8q5x19 => (intro w hSw; (try dsimp only at hSw); obtain ⟨⟨z0, z1, z2, z3⟩, z4⟩ := hSw; go_simp; try with_reducible rfl)
                (try simp only [Act.put, List.getElem_toArray, List.getElem_cons_zero, List.getElem_cons_succ, List.setIfInBounds_toArray, List.set_cons_zero, List.set_cons_succ])
                refine wpAnyH_take (i := 6) (v := ?vv8q6x22) rfl (by kernel_rfl) (by kernel_rfl) (by kernel_rfl) (fun _ _ _ h => h) (Or.inl ⟨by kernel_rfl, ?hv8q6x22⟩) (by assumption) ?rv8q6x22
                case hv8q6x22 => (intro w hSw; (try dsimp only at hSw); obtain ⟨⟨z0, z1, z2, z3⟩, z4⟩ := hSw; go_simp; try with_reducible rfl)
                (try simp only [Act.put, List.getElem_toArray, List.getElem_cons_zero, List.getElem_cons_succ, List.setIfInBounds_toArray, List.set_cons_zero, List.set_cons_succ])
                refine wpAnyH_take (i := 7) (v := ?vv8q7x25) rfl (by kernel_rfl) (by kernel_rfl) (by kernel_rfl) (fun _ _ _ h => h) (Or.inl ⟨by kernel_rfl, ?hv8q7x25⟩) (by assumption) ?rv8q7x25
                case hv8q7x25 => (intro w hSw; (try dsimp only at hSw); obtain ⟨⟨z0, z1, z2, z3⟩, z4⟩ := hSw; go_simp; try with_reducible rfl)
                (try simp only [Act.put, List.getElem_toArray, List.getElem_cons_zero, List.getElem_cons_succ, List.setIfInBounds_toArray, List.set_cons_zero, List.set_cons_succ])
                refine wpAnyH_take (i := 8) (v := ?vv8q8x28) rfl (by kernel_rfl) (by kernel_rfl) (by kernel_rfl) (fun _ _ _ h => h) (Or.inl ⟨by kernel_rfl, ?hv8q8x28⟩) (by assumption) ?rv8q8x28
                case hv8q8x28 => (intro w hSw; (try dsimp only at hSw); obtain ⟨⟨z0, z1, z2, z3⟩, z4⟩ := hSw; go_simp; try with_reducible rfl)
                (try simp only [Act.put, List.getElem_toArray, List.getElem_cons_zero, List.getElem_cons_succ, List.setIfInBounds_toArray, List.set_cons_zero, List.set_cons_succ])
                refine wpAnyH_take (i := 9) (v := ?vv8q9x31) rfl (by kernel_rfl) (by kernel_rfl) (by kernel_rfl) (fun _ _ _ h => h) (Or.inl ⟨by kernel_rfl, ?hv8q9x31⟩) (by assumption) ?rv8q9x31
                case hv8q9x31 => (intro w hSw; (try dsimp only at hSw); obtain ⟨⟨z0, z1, z2, z3⟩, z4⟩ := hSw; go_simp; try with_reducible rfl)
                (try simp only [Act.put, List.getElem_toArray, List.getElem_cons_zero, List.getElem_cons_succ, List.setIfInBounds_toArray, List.set_cons_zero, List.set_cons_succ])
                refine wpAnyH_take (i := 10) (v := ?vv8q10x34) rfl (by kernel_rfl) (by kernel_rfl) (by kernel_rfl) (fun _ _ _ h => h) (Or.inl ⟨by kernel_rfl, ?hv8q10x34⟩) (by assumption) ?rv8q10x34
                case hv8q10x34 => (intro w hSw; (try dsimp only at hSw); obtain ⟨⟨z0, z1, z2, z3⟩, z4⟩ := hSw; go_simp; try with_reducible rfl)
                (try simp only [Act.put, List.getElem_toArray, List.getElem_cons_zero, List.getElem_cons_succ, List.setIfInBounds_toArray, List.set_cons_zero, List.set_cons_succ])
                refine wpAnyH_take (i := 11) (v := ?vv8q11x37) rfl (by kernel_rfl) (by kernel_rfl) (by kernel_rfl) (fun _ _ _ h => h) (Or.inl ⟨by kernel_rfl, ?hv8q11x37⟩) (by assumption) ?rv8q11x37
                case hv8q11x37 => (intro w hSw; (try dsimp only at hSw); obtain ⟨⟨z0, z1, z2, z3⟩, z4⟩ := hSw; go_simp; try with_reducible rfl)
                (try simp only [Act.put, List.getElem_toArray, List.getElem_cons_zero, List.getElem_cons_succ, List.setIfInBounds_toArray, List.set_cons_zero, List.set_cons_succ])
                refine wpAnyH_take (i := 12) (v := ?vv8q12x40) rfl (by kernel_rfl) (by kernel_rfl) (by kernel_rfl) (fun _ _ _ h => h) (Or.inl ⟨by kernel_rfl, ?hv8q12x40⟩) (by assumption) ?rv8q12x40
                case hv8q12x40 => (intro w hSw; (try dsimp only at hSw); obtain ⟨⟨z0, z1, z2, z3⟩, z4⟩ := hSw; go_simp; try with_reducible rfl)
                (try simp only [Act.put, List.getElem_toArray, List.getElem_cons_zero, List.getElem_cons_succ, List.setIfInBounds_toArray, List.set_cons_zero, List.set_cons_succ])
                refine wpAnyH_take (i := 13) (v := undef) rfl (by kernel_rfl) (by kernel_rfl) (by kernel_rfl) (fun _ _ _ h => h) (Or.inr ⟨by kernel_rfl, rfl⟩) (by assumption) ?_
                (try simp only [Act.put, List.getElem_toArray, List.getElem_cons_zero, List.getElem_cons_succ, List.setIfInBounds_toArray, List.set_cons_zero, List.set_cons_succ])
                refine wpAnyH_take (i := 14) (v := undef) rfl (by kernel_rfl) (by kernel_rfl) (by kernel_rfl) (fun _ _ _ h => h) (Or.inr ⟨by kernel_rfl, rfl⟩) (by assumption) ?_
                (try simp only [Act.put, List.getElem_toArray, List.getElem_cons_zero, List.getElem_cons_succ, List.setIfInBounds_toArray, List.set_cons_zero, List.set_cons_succ])
                refine wpAnyH_take (i := 15) (v := undef) rfl (by kernel_rfl) (by kernel_rfl) (by kernel_rfl) (fun _ _ _ h => h) (Or.inr ⟨by kernel_rfl, rfl⟩) (by assumption) ?_
                (try simp only [Act.put, List.getElem_toArray, List.getElem_cons_zero, List.getElem_cons_succ, List.setIfInBounds_toArray, List.set_cons_zero, List.set_cons_succ])
                refine wpAnyH_take (i := 16) (v := undef) rfl (by kernel_rfl) (by kernel_rfl) (by kernel_rfl) (fun _ _ _ h => h) (Or.inr ⟨by kernel_rfl, rfl⟩) (by assumption) ?_
                (try simp only [Act.put, List.getElem_toArray, List.getElem_cons_zero, List.getElem_cons_succ, List.setIfInBounds_toArray, List.set_cons_zero, List.set_cons_succ])
                refine wpAnyH_take (i := 17) (v := undef) rfl (by kernel_rfl) (by kernel_rfl) (by kernel_rfl) (fun _ _ _ h => h) (Or.inr ⟨by kernel_rfl, rfl⟩) (by assumption) ?_
                (try simp only [Act.put, List.getElem_toArray, List.getElem_cons_zero, List.getElem_cons_succ, List.setIfInBounds_toArray, List.set_cons_zero, List.set_cons_succ])
                refine wpAnyH_take (i := 18) (v := undef) rfl (by kernel_rfl) (by kernel_rfl) (by kernel_rfl) (fun _ _ _ h => h) (Or.inr ⟨by kernel_rfl, rfl⟩) (by assumption) ?_
                (try simp only [Act.put, List.getElem_toArray, List.getElem_cons_zero, List.getElem_cons_succ, List.setIfInBounds_toArray, List.set_cons_zero, List.set_cons_succ])
                refine wpAnyH_take (i := 19) (v := ?vv8q19x55) rfl (by kernel_rfl) (by kernel_rfl) (by kernel_rfl) (fun _ _ _ h => h) (Or.inl ⟨by kernel_rfl, ?hv8q19x55⟩) (by assumption) ?rv8q19x55
                case hv8q19x55 => (intro w hSw; (try dsimp only at hSw); obtain ⟨⟨z0, z1, z2, z3⟩, z4⟩ := hSw; go_simp; try with_reducible rfl)
                (try simp only [Act.put, List.getElem_toArray, List.getElem_cons_zero, List.getElem_cons_succ, List.setIfInBounds_toArray, List.set_cons_zero, List.set_cons_succ])
                refine wpAnyH_done (by kernel_rfl) ?_ _
                have E6 := hidb (E.out.below GG.out.out)
                have HQ6 : Hid (q = s3.ord.length) := by show _ = _; rw [HS3.out]; exact HQk.out
                rw [← HS3.out] at E6
                go_wp2
                go_roundw
                case rel => exact ⟨k + 1, g, cp, q, H3.out, HS4.out ▸ HQ6.out, rfl, by go_num, HS4.out ▸ E6⟩
                case measure => have := H3.out; simp [intOf]; omega
              · have yn : (((y : Nat) : Int) != 0) = true := by simp; omega
                by_cases a0 : c = 0
                · have q1 : (c == 0) = true := by simpa using a0
                  refine wp_region_held_drew (S := (fun w' => (w'.cell? ⟨NB, 0, none⟩ = some (.int .i64 (y : Int)) ∧ w'.cell? ⟨NB, 1, none⟩ = some (.int .i64 (x : Int)) ∧ w'.cell? ⟨NB, 2, none⟩ = some (.int .i64 u) ∧ w'.cell? ⟨NB, 3, none⟩ = some (.int .i64 gw)) ∧ w'.cell? ⟨g, i, none⟩ = some (.int .i64 (m : Int)))) (by kernel_rfl) ?_ (fun hHeld => ?_)
                  · (try dsimp only); exact HCxs.out _ GG.out.drew
                  replace GG := hidb GG.out.drew
                  generalize World.drew _ = V9 at *
                  refine wpAnyH_take (i := 0) (v := ?vv9q0x4) rfl (by kernel_rfl) (by kernel_rfl) (by kernel_rfl) (fun _ _ _ h => h) (Or.inl ⟨by kernel_rfl, ?hv9q0x4⟩) (by assumption) ?rv9q0x4
                  case hv9q0x4 => (intro w hSw; (try dsimp only at hSw); obtain ⟨⟨z0, z1, z2, z3⟩, z4⟩ := hSw; go_simp; try with_reducible rfl)
                  (try simp only [Act.put, List.getElem_toArray, List.getElem_cons_zero, List.setIfInBounds_toArray, List.set_cons_zero, List.set_cons_succ])
                  refine wpAnyH_take (i := 1) (v := ?vv9q1x7) rfl (by kernel_rfl) (by kernel_rfl) (by kernel_rfl) (fun _ _ _ h => h) (Or.inl ⟨by kernel_rfl, ?hv9q1x7⟩) (by assumption) ?rv9q1x7
                  case hv9q1x7 => (intro w hSw; (try dsimp only at hSw); obtain ⟨⟨z0, z1, z2, z3⟩, z4⟩ := hSw; go_simp; try with_reducible rfl)
                  (try simp only [Act.put, List.getElem_toArray, List.getElem_cons_zero, List.getElem_cons_succ, List.setIfInBounds_toArray, List.set_cons_zero, List.set_cons_succ])
                  refine wpAnyH_take (i := 2) (v := ?vv9q2x10) rfl (by kernel_rfl) (by kernel_rfl) (by kernel_rfl) (fun _ _ _ h => h) (Or.inl ⟨by kernel_rfl, ?hv9q2x10⟩) (by assumption) ?rv9q2x10
                  case hv9q2x10 => (intro w hSw; (try dsimp only at hSw); obtain ⟨⟨z0, z1, z2, z3⟩, z4⟩ := hSw; go_simp; try with_reducible rfl)
                  (try simp only [Act.put, List.getElem_toArray, List.getElem_cons_zero, List.getElem_cons_succ, List.setIfInBounds_toArray, List.set_cons_zero, List.set_cons_succ])
                  refine wpAnyH_take (i := 3) (v := ?vv9q3x13) rfl (by kernel_rfl) (by kernel_rfl) (by kernel_rfl) (fun _ _ _ h => h) (Or.inl ⟨by kernel_rfl, ?hv9q3x13⟩) (by assumption) ?rv9q3x13
                  case hv9q3x13 => (intro w hSw; (try dsimp only at hSw); obtain ⟨⟨z0, z1, z2, z3⟩, z4⟩ := hSw; go_simp; try with_reducible rfl)
                  (try simp only [Act.put, List.getElem_toArray, List.getElem_cons_zero, List.getElem_cons_succ, List.setIfInBounds_toArray, List.set_cons_zero, List.set_cons_succ])
                  refine wpAnyH_take (i := 4) (v := ?vv9q4x16) rfl (by kernel_rfl) (by kernel_rfl) (by kernel_rfl) (fun _ _ _ h => h) (Or.inl ⟨by kernel_rfl, ?hv9q4x16⟩) (by assumption) ?rv9q4x16
                  case hv9q4x16 => (intro w hSw; (try dsimp only at hSw); obtain ⟨⟨z0, z1, z2, z3⟩, z4⟩ := hSw; go_simp; try with_reducible rfl)
                  (try simp only [Act.put, List.getElem_toArray, List.getElem_cons_zero, List.getElem_cons_succ, List.setIfInBounds_toArray, List.set_cons_zero, List.set_cons_succ])
                  refine wpAnyH_take (i := 5) (v := ?vv9q5x19) rfl (by kernel_rfl) (by kernel_rfl) (by kernel_rfl) (fun _ _ _ h => h) (Or.inl ⟨by kernel_rfl, ?hv9q5x19⟩) (by assumption) ?rv9q5x19
                  case hv9q5x19 => (intro w hSw; (try dsimp only at hSw); obtain ⟨⟨z0, z1, z2, z3⟩, z4⟩ := hSw; go_simp; try with_reducible rfl)
                  (try simp only [Act.put, List.getElem_toArray, List.getElem_cons_zero, List.getElem_cons_succ, List.setIfInBounds_toArray, List.set_cons_zero, List.set_cons_succ])
                  refine wpAnyH_take (i := 6) (v := ?vv9q6x22) rfl (by kernel_rfl) (by kernel_rfl) (by kernel_rfl) (fun _ _ _ h => h) (Or.inl ⟨by kernel_rfl, ?hv9q6x22⟩) (by assumption) ?rv9q6x22
                  case hv9q6x22 => (intro w hSw; (try dsimp only at hSw); obtain ⟨⟨z0, z1, z2, z3⟩, z4⟩ := hSw; go_simp; try with_reducible rfl)
                  (try simp only [Act.put, List.getElem_toArray, List.getElem_cons_zero, List.getElem_cons_succ, List.setIfInBounds_toArray, List.set_cons_zero, List.set_cons_succ])
                  refine wpAnyH_take (i := 7) (v := ?vv9q7x25) rfl (by kernel_rfl) (by kernel_rfl) (by kernel_rfl) (fun _ _ _ h => h) (Or.inl ⟨by kernel_rfl, ?hv9q7x25⟩) (by assumption) ?rv9q7x25
                  case hv9q7x25 => (intro w hSw; (try dsimp only at hSw); obtain ⟨⟨z0, z1, z2, z3⟩, z4⟩ := hSw; go_simp; try with_reducible rfl)
                  (try simp only [Act.put, List.getElem_toArray, List.getElem_cons_zero, List.getElem_cons_succ, List.setIfInBounds_toArray, List.set_cons_zero, List.set_cons_succ])
                  refine wpAnyH_take (i := 8) (v := undef) rfl (by kernel_rfl) (by kernel_rfl) (by kernel_rfl) (fun _ _ _ h => h) (Or.inr ⟨by kernel_rfl, rfl⟩) (by assumption) ?_
                  (try simp only [Act.put, List.getElem_toArray, List.getElem_cons_zero, List.getElem_cons_succ, List.setIfInBounds_toArray, List.set_cons_zero, List.set_cons_succ])
                  refine wpAnyH_take (i := 9) (v := undef) rfl (by kernel_rfl) (by kernel_rfl) (by kernel_rfl) (fun _ _ _ h => h) (Or.inr ⟨by kernel_rfl, rfl⟩) (by assumption) ?_
                  (try simp only [Act.put, List.getElem_toArray, List.getElem_cons_zero, List.getElem_cons_succ, List.setIfInBounds_toArray, List.set_cons_zero, List.set_cons_succ])
                  refine wpAnyH_take (i := 10) (v := undef) rfl (by kernel_rfl) (by kernel_rfl) (by kernel_rfl) (fun _ _ _ h => h) (Or.inr ⟨by kernel_rfl, rfl⟩) (by assumption) ?_
                  (try simp only [Act.put, List.getElem_toArray, List.getElem_cons_zero, List.getElem_cons_succ, List.setIfInBounds_toArray, List.set_cons_zero, List.set_cons_succ])
                  refine wpAnyH_take (i := 11) (v := ?vv9q11x34) rfl (by kernel_rfl) (by kernel_rfl) (by kernel_rfl) (fun _ _ _ h => h) (Or.inl ⟨by kernel_rfl, ?hv9q11x34⟩) (by assumption) ?rv9q11x34
                  case hv9q11x34 => (intro w hSw; (try dsimp only at hSw); obtain ⟨⟨z0, z1, z2, z3⟩, z4⟩ := hSw; go_simp; try with_reducible rfl)
                  (try simp only [Act.put, List.getElem_toArray, List.getElem_cons_zero, List.getElem_cons_succ, List.setIfInBounds_toArray, List.set_cons_zero, List.set_cons_succ])
                  refine wpAnyH_take (i := 12) (v := ?vv9q12x37) rfl (by kernel_rfl) (by kernel_rfl) (by kernel_rfl) (fun _ _ _ h => h) (Or.inl ⟨by kernel_rfl, ?hv9q12x37⟩) (by assumption) ?rv9q12x37
                  case hv9q12x37 => (intro w hSw; (try dsimp only at hSw); obtain ⟨⟨z0, z1, z2, z3⟩, z4⟩ := hSw; go_simp; try with_reducible rfl)
                  (try simp only [Act.put, List.getElem_toArray, List.getElem_cons_zero, List.getElem_cons_succ, List.setIfInBounds_toArray, List.set_cons_zero, List.set_cons_succ])
                  refine wpAnyH_take (i := 13) (v := undef) rfl (by kernel_rfl) (by kernel_rfl) (by kernel_rfl) (fun _ _ _ h => h) (Or.inr ⟨by kernel_rfl, rfl⟩) (by assumption) ?_
                  (try simp only [Act.put, List.getElem_toArray, List.getElem_cons_zero, List.getElem_cons_succ, List.setIfInBounds_toArray, List.set_cons_zero, List.set_cons_succ])
                  refine wpAnyH_take (i := 14) (v := undef) rfl (by kernel_rfl) (by kernel_rfl) (by kernel_rfl) (fun _ _ _ h => h) (Or.inr ⟨by kernel_rfl, rfl⟩) (by assumption) ?_
                  (try simp only [Act.put, List.getElem_toArray, List.getElem_cons_zero, List.getElem_cons_succ, List.setIfInBounds_toArray, List.set_cons_zero, List.set_cons_succ])
                  refine wpAnyH_take (i := 15) (v := undef) rfl (by kernel_rfl) (by kernel_rfl) (by kernel_rfl) (fun _ _ _ h => h) (Or.inr ⟨by kernel_rfl, rfl⟩) (by assumption) ?_
                  (try simp only [Act.put, List.getElem_toArray, List.getElem_cons_zero, List.getElem_cons_succ, List.setIfInBounds_toArray, List.set_cons_zero, List.set_cons_succ])
                  refine wpAnyH_take (i := 16) (v := undef) rfl (by kernel_rfl) (by kernel_rfl) (by kernel_rfl) (fun _ _ _ h => h) (Or.inr ⟨by kernel_rfl, rfl⟩) (by assumption) ?_
                  (try simp only [Act.put, List.getElem_toArray, List.getElem_cons_zero, List.getElem_cons_succ, List.setIfInBounds_toArray, List.set_cons_zero, List.set_cons_succ])
                  refine wpAnyH_take (i := 17) (v := undef) rfl (by kernel_rfl) (by kernel_rfl) (by kernel_rfl) (fun _ _ _ h => h) (Or.inr ⟨by kernel_rfl, rfl⟩) (by assumption) ?_
                  (try simp only [Act.put, List.getElem_toArray, List.getElem_cons_zero, List.getElem_cons_succ, List.setIfInBounds_toArray, List.set_cons_zero, List.set_cons_succ])
                  refine wpAnyH_take (i := 18) (v := undef) rfl (by kernel_rfl) (by kernel_rfl) (by kernel_rfl) (fun _ _ _ h => h) (Or.inr ⟨by kernel_rfl, rfl⟩) (by assumption) ?_
                  (try simp only [Act.put, List.getElem_toArray, List.getElem_cons_zero, List.getElem_cons_succ, List.setIfInBounds_toArray, List.set_cons_zero, List.set_cons_succ])
                  refine wpAnyH_take (i := 19) (v := ?vv9q19x52) rfl (by kernel_rfl) (by kernel_rfl) (by kernel_rfl) (fun _ _ _ h => h) (Or.inl ⟨by kernel_rfl, ?hv9q19x52⟩) (by assumption) ?rv9q19x52
                  case hv9q19x52 => (intro w hSw; (try dsimp only at hSw); obtain ⟨⟨z0, z1, z2, z3⟩, z4⟩ := hSw; go_simp; try with_reducible rfl)
                  (try simp only [Act.put, List.getElem_toArray, List.getElem_cons_zero, List.getElem_cons_succ, List.setIfInBounds_toArray, List.set_cons_zero, List.set_cons_succ])
                  refine wpAnyH_done (by kernel_rfl) ?_ _
                  go_upto_region 14 with fail
                  refine wp_region_held_drew (S := (fun w' => (w'.cell? ⟨NB, 0, none⟩ = some (.int .i64 (y : Int)) ∧ w'.cell? ⟨NB, 1, none⟩ = some (.int .i64 (x : Int)) ∧ w'.cell? ⟨NB, 2, none⟩ = some (.int .i64 u) ∧ w'.cell? ⟨NB, 3, none⟩ = some (.int .i64 gw)) ∧ w'.cell? ⟨g, i, none⟩ = some (.int .i64 (m : Int)) ∧ w'.cell? ⟨WB, x, none⟩ = some (.int .i64 a) ∧ w'.cell? ⟨WB, y, none⟩ = some (.int .i64 c))) (by kernel_rfl) ?_ (fun hHeld => ?_)
                  · (try dsimp only); exact HCx.out _ GG.out.drew
                  replace GG := hidb GG.out.drew
                  generalize World.drew _ = V0 at *
                  refine wpAnyH_take (i := 0) (v := ?vv10q0x4) rfl (by kernel_rfl) (by kernel_rfl) (by kernel_rfl) (fun _ _ _ h => h) (Or.inl ⟨by kernel_rfl, ?hv10q0x4⟩) (by assumption) ?rv10q0x4
                  case hv10q0x4 => (intro w hSw; (try dsimp only at hSw); obtain ⟨⟨z0, z1, z2, z3⟩, z4, z5, z6⟩ := hSw; go_simp; try with_reducible rfl)
                  (try simp only [Act.put, List.getElem_toArray, List.getElem_cons_zero, List.setIfInBounds_toArray, List.set_cons_zero, List.set_cons_succ])
                  refine wpAnyH_take (i := 1) (v := ?vv10q1x7) rfl (by kernel_rfl) (by kernel_rfl) (by kernel_rfl) (fun _ _ _ h => h) (Or.inl ⟨by kernel_rfl, ?hv10q1x7⟩) (by assumption) ?rv10q1x7
                  case hv10q1x7 => (intro w hSw; (try dsimp only at hSw); obtain ⟨⟨z0, z1, z2, z3⟩, z4, z5, z6⟩ := hSw; go_simp; try with_reducible rfl)
                  (try simp only [Act.put, List.getElem_toArray, List.getElem_cons_zero, List.getElem_cons_succ, List.setIfInBounds_toArray, List.set_cons_zero, List.set_cons_succ])
                  refine wpAnyH_take (i := 2) (v := ?vv10q2x10) rfl (by kernel_rfl) (by kernel_rfl) (by kernel_rfl) (fun _ _ _ h => h) (Or.inl ⟨by kernel_rfl, ?hv10q2x10⟩) (by assumption) ?rv10q2x10
                  case hv10q2x10 => (intro w hSw; (try dsimp only at hSw); obtain ⟨⟨z0, z1, z2, z3⟩, z4, z5, z6⟩ := hSw; go_simp; try with_reducible rfl)
                  (try simp only [Act.put, List.getElem_toArray, List.getElem_cons_zero, List.getElem_cons_succ, List.setIfInBounds_toArray, List.set_cons_zero, List.set_cons_succ])
                  refine wpAnyH_take (i := 3) (v := ?vv10q3x13) rfl (by kernel_rfl) (by kernel_rfl) (by kernel_rfl) (fun _ _ _ h => h) (Or.inl ⟨by kernel_rfl, ?hv10q3x13⟩) (by assumption) ?rv10q3x13
                  case hv10q3x13 => (intro w hSw; (try dsimp only at hSw); obtain ⟨⟨z0, z1, z2, z3⟩, z4, z5, z6⟩ := hSw; go_simp; try with_reducible rfl)
                  (try simp only [Act.put, List.getElem_toArray, List.getElem_cons_zero, List.getElem_cons_succ, List.setIfInBounds_toArray, List.set_cons_zero, List.set_cons_succ])
                  refine wpAnyH_take (i := 4) (v := ?vv10q4x16) rfl (by kernel_rfl) (by kernel_rfl) (by kernel_rfl) (fun _ _ _ h => h) (Or.inl ⟨by kernel_rfl, ?hv10q4x16⟩) (by assumption) ?rv10q4x16
                  case hv10q4x16 => (intro w hSw; (try dsimp only at hSw); obtain ⟨⟨z0, z1, z2, z3⟩, z4, z5, z6⟩ := hSw; go_simp; try with_reducible rfl)
                  (try simp only [Act.put, List.getElem_toArray, List.getElem_cons_zero, List.getElem_cons_succ, List.setIfInBounds_toArray, List.set_cons_zero, List.set_cons_succ])
                  refine wpAnyH_take (i := 5) (v := ?vv10q5x19) rfl (by kernel_rfl) (by kernel_rfl) (by kernel_rfl) (fun _ _ _ h => h) (Or.inl ⟨by kernel_rfl, ?hv10q5x19⟩) (by assumption) ?rv10q5x19
                  case hv10q5x19 => (intro w hSw; (try dsimp only at hSw); obtain ⟨⟨z0, z1, z2, z3⟩, z4, z5, z6⟩ := hSw; go_simp; try with_reducible rfl)
                  (try simp only [Act.put, List.getElem_toArray, List.getElem_cons_zero, List.getElem_cons_succ, List.setIfInBounds_toArray, List.set_cons_zero, List.set_cons_succ])
                  refine wpAnyH_take (i := 6) (v := ?vv10q6x22) rfl (by kernel_rfl) (by kernel_rfl) (by kernel_rfl) (fun _ _ _ h => h) (Or.inl ⟨by kernel_rfl, ?hv10q6x22⟩) (by assumption) ?rv10q6x22
                  case hv10q6x22 => (intro w hSw; (try dsimp only at hSw); obtain ⟨⟨z0, z1, z2, z3⟩, z4, z5, z6⟩ := hSw; go_simp; try with_reducible rfl)
                  (try simp only [Act.put, List.getElem_toArray, List.getElem_cons_zero, List.getElem_cons_succ, List.setIfInBounds_toArray, List.set_cons_zero, List.set_cons_succ])
                  refine wpAnyH_take (i := 7) (v := ?vv10q7x25) rfl (by kernel_rfl) (by kernel_rfl) (by kernel_rfl) (fun _ _ _ h => h) (Or.inl ⟨by kernel_rfl, ?hv10q7x25⟩) (by assumption) ?rv10q7x25
                  case hv10q7x25 => (intro w hSw; (try dsimp only at hSw); obtain ⟨⟨z0, z1, z2, z3⟩, z4, z5, z6⟩ := hSw; go_simp; try with_reducible rfl)
                  (try simp only [Act.put, List.getElem_toArray, List.getElem_cons_zero, List.getElem_cons_succ, List.setIfInBounds_toArray, List.set_cons_zero, List.set_cons_succ])
                  refine wpAnyH_take (i := 8) (v := ?vv10q8x28) rfl (by kernel_rfl) (by kernel_rfl) (by kernel_rfl) (fun _ _ _ h => h) (Or.inl ⟨by kernel_rfl, ?hv10q8x28⟩) (by assumption) ?rv10q8x28
                  case hv10q8x28 => (intro w hSw; (try dsimp only at hSw); obtain ⟨⟨z0, z1, z2, z3⟩, z4, z5, z6⟩ := hSw; go_simp; try with_reducible rfl)
                  (try simp only [Act.put, List.getElem_toArray, List.getElem_cons_zero, List.getElem_cons_succ, List.setIfInBounds_toArray, List.set_cons_zero, List.set_cons_succ])
                  refine wpAnyH_take (i := 9) (v := ?vv10q9x31) rfl (by kernel_rfl) (by kernel_rfl) (by kernel_rfl) (fun _ _ _ h => h) (Or.inl ⟨by kernel_rfl, ?hv10q9x31⟩) (by assumption) ?rv10q9x31
                  case hv10q9x31 => (intro w hSw; (try dsimp only at hSw); obtain ⟨⟨z0, z1, z2, z3⟩, z4, z5, z6⟩ := hSw; go_simp; try with_reducible rfl)
                  (try simp only [Act.put, List.getElem_toArray, List.getElem_cons_zero, List.getElem_cons_succ, List.setIfInBounds_toArray, List.set_cons_zero, List.set_cons_succ])
                  refine wpAnyH_take (i := 10) (v := ?vv10q10x34) rfl (by kernel_rfl) (by kernel_rfl) (by kernel_rfl) (fun _ _ _ h => h) (Or.inl ⟨by kernel_rfl, ?hv10q10x34⟩) (by assumption) ?rv10q10x34
                  case hv10q10x34 => (intro w hSw; (try dsimp only at hSw); obtain ⟨⟨z0, z1, z2, z3⟩, z4, z5, z6⟩ := hSw; go_simp; try with_reducible rfl)
                  (try simp only [Act.put, List.getElem_toArray, List.getElem_cons_zero, List.getElem_cons_succ, List.setIfInBounds_toArray, List.set_cons_zero, List.set_cons_succ])
                  refine wpAnyH_take (i := 11) (v := ?vv10q11x37) rfl (by kernel_rfl) (by kernel_rfl) (by kernel_rfl) (fun _ _ _ h => h) (Or.inl ⟨by kernel_rfl, ?hv10q11x37⟩) (by assumption) ?rv10q11x37
                  case hv10q11x37 => (intro w hSw; (try dsimp only at hSw); obtain ⟨⟨z0, z1, z2, z3⟩, z4, z5, z6⟩ := hSw; go_simp; try with_reducible rfl)
                  (try simp only [Act.put, List.getElem_toArray, List.getElem_cons_zero, List.getElem_cons_succ, List.setIfInBounds_toArray, List.set_cons_zero, List.set_cons_succ])
                  refine wpAnyH_take (i := 12) (v := ?vv10q12x40) rfl (by kernel_rfl) (by kernel_rfl) (by kernel_rfl) (fun _ _ _ h => h) (Or.inl ⟨by kernel_rfl, ?hv10q12x40⟩) (by assumption) ?rv10q12x40
                  case hv10q12x40 => (intro w hSw; (try dsimp only at hSw); obtain ⟨⟨z0, z1, z2, z3⟩, z4, z5, z6⟩ := hSw; go_simp; try with_reducible rfl)
                  (try simp only [Act.put, List.getElem_toArray, List.getElem_cons_zero, List.getElem_cons_succ, List.setIfInBounds_toArray, List.set_cons_zero, List.set_cons_succ])
                  refine wpAnyH_take (i := 13) (v := ?vv10q13x43) rfl (by kernel_rfl) (by kernel_rfl) (by kernel_rfl) (fun _ _ _ h => h) (Or.inl ⟨by kernel_rfl, ?hv10q13x43⟩) (by assumption) ?rv10q13x43
                  case hv10q13x43 => (intro w hSw; (try dsimp only at hSw); obtain ⟨⟨z0, z1, z2, z3⟩, z4, z5, z6⟩ := hSw; go_simp; try with_reducible rfl)
                  (try simp only [Act.put, List.getElem_toArray, List.getElem_cons_zero, List.getElem_cons_succ, List.setIfInBounds_toArray, List.set_cons_zero, List.set_cons_succ])
                  refine wpAnyH_take (i := 14) (v := ?vv10q14x46) rfl (by kernel_rfl) (by kernel_rfl) (by kernel_rfl) (fun _ _ _ h => h) (Or.inl ⟨by kernel_rfl, ?hv10q14x46⟩) (by assumption) ?rv10q14x46
                  case hv10q14x46 => (intro w hSw; (try dsimp only at hSw); obtain ⟨⟨z0, z1, z2, z3⟩, z4, z5, z6⟩ := hSw; go_simp; try with_reducible rfl)
                  (try simp only [Act.put, List.getElem_toArray, List.getElem_cons_zero, List.getElem_cons_succ, List.setIfInBounds_toArray, List.set_cons_zero, List.set_cons_succ])
                  refine wpAnyH_take (i := 15) (v := ?vv10q15x49) rfl (by kernel_rfl) (by kernel_rfl) (by kernel_rfl) (fun _ _ _ h => h) (Or.inl ⟨by kernel_rfl, ?hv10q15x49⟩) (by assumption) ?rv10q15x49
                  case hv10q15x49 => (intro w hSw; (try dsimp only at hSw); obtain ⟨⟨z0, z1, z2, z3⟩, z4, z5, z6⟩ := hSw; go_simp; try with_reducible rfl)
                  (try simp only [Act.put, List.getElem_toArray, List.getElem_cons_zero, List.getElem_cons_succ, List.setIfInBounds_toArray, List.set_cons_zero, List.set_cons_succ])
                  refine wpAnyH_take (i := 16) (v := ?vv10q16x52) rfl (by kernel_rfl) (by kernel_rfl) (by kernel_rfl) (fun _ _ _ h => h) (Or.inl ⟨by kernel_rfl, ?hv10q16x52⟩) (by assumption) ?rv10q16x52
                  case hv10q16x52 => (intro w hSw; (try dsimp only at hSw); obtain ⟨⟨z0, z1, z2, z3⟩, z4, z5, z6⟩ := hSw; go_simp; try with_reducible rfl)
                  (try simp only [Act.put, List.getElem_toArray, List.getElem_cons_zero, List.getElem_cons_succ, List.setIfInBounds_toArray, List.set_cons_zero, List.set_cons_succ])
                  refine wpAnyH_take (i := 17) (v := ?vv10q17x55) rfl (by kernel_rfl) (by kernel_rfl) (by kernel_rfl) (fun _ _ _ h => h) (Or.inl ⟨by kernel_rfl, ?hv10q17x55⟩) (by assumption) ?rv10q17x55
                  case hv10q17x55 => (intro w hSw; (try dsimp only at hSw); obtain ⟨⟨z0, z1, z2, z3⟩, z4, z5, z6⟩ := hSw; go_simp; try with_reducible rfl)
                  (try simp only [Act.put, List.getElem_toArray, List.getElem_cons_zero, List.getElem_cons_succ, List.setIfInBounds_toArray, List.set_cons_zero, List.set_cons_succ])
                  refine wpAnyH_take (i := 18) (v := ?vv10q18x58) rfl (by kernel_rfl) (by kernel_rfl) (by kernel_rfl) (fun _ _ _ h => h) (Or.inl ⟨by kernel_rfl, ?hv10q18x58⟩) (by assumption) ?rv10q18x58
                  case hv10q18x58 => (intro w hSw; (try dsimp only at hSw); obtain ⟨⟨z0, z1, z2, z3⟩, z4, z5, z6⟩ := hSw; go_simp; try with_reducible rfl)
                  (try simp only [Act.put, List.getElem_toArray, List.getElem_cons_zero, List.getElem_cons_succ, List.setIfInBounds_toArray, List.set_cons_zero, List.set_cons_succ])
                  refine wpAnyH_take (i := 19) (v := ?vv10q19x61) rfl (by kernel_rfl) (by kernel_rfl) (by kernel_rfl) (fun _ _ _ h => h) (Or.inl ⟨by kernel_rfl, ?hv10q19x61⟩) (by assumption) ?rv10q19x61
                  case hv10q19x61 => (intro w hSw; (try dsimp only at hSw); obtain ⟨⟨z0, z1, z2, z3⟩, z4, z5, z6⟩ := hSw; go_simp; try with_reducible rfl)
                  (try simp only [Act.put, List.getElem_toArray, List.getElem_cons_zero, List.getElem_cons_succ, List.setIfInBounds_toArray, List.set_cons_zero, List.set_cons_succ])
                  refine wpAnyH_done (by kernel_rfl) ?_ _
                  have HS3 : Hid (s3 = adE s2 y (-((k : Int) + 1))) := by show _ = _; rw [HScN.out]; exact st_t HEx.out y1 x1 y0 (by rw [← HA.out.2]; exact a0)
                  obtain ⟨-, fx⟩ := (E.out.below GG.out.out).a hyl
                  have hne : ¬ WB = NB := HNb.out.1
                  have E7 : Hid (TM w (V0.setCell ⟨WB, y, none⟩ (.int .i64 (-((k : Int) + 1)))) WB (WB + 1) g cp ⟨s2.wy.set y (-((k : Int) + 1)), s2.ord⟩ ∧ At (V0.setCell ⟨WB, y, none⟩ (.int .i64 (-((k : Int) + 1)))) NB [.int .i64 (y : Int), .int .i64 (x : Int), .int .i64 u, .int .i64 gw]) := ⟨(E.out.below GG.out.out).put y _, (At.below GG.out.out AR.out).skip hne _ _⟩
                  obtain ⟨r0, r1, r2, r3⟩ := (At.below GG.out.out AR.out).c4
                  clear y1 x1 y0 a0 q1
                  go_upto_region 16 with fail
                  clear r0 r1 r2 r3 fx hne
                  generalize V0.setCell ⟨WB, y, none⟩ (.int .i64 (-((k : Int) + 1))) = V2 at *
                  obtain ⟨r0, r1, r2, r3⟩ := E7.out.2.c4
                  have Hr : Hid (V2.ownsRow (WB + 1) 3 1 (.slice (some ⟨g, 0, none⟩) q cp) q (ir (on s2.ord)) ∧ WB + 1 ≤ V2.heap.size) := ⟨by have := E7.out.1.r; rw [HQk.out]; exact this, E7.out.1.b.2.2⟩
                  have HQM : Hid (q ≤ 20000) := by show _ ≤ _; rw [HQk.out]; have := HSk.out.len; have := HM.out; omega
                  go_upto_region 9 with (at_builtin; refine wpList_in _ (WB + 1) (.slice (some ⟨g, 0, none⟩) q cp) (on s2.ord) (y : Int) q V2.heap.size _ _ rfl rfl rfl rfl HQM.out (own_kept Hr.out.1 ((Below.refl _ _).alloc (Nat.le_refl _) _)) (At.at1 rfl _ _) (by have := Hr.out.2; simp; omega) (V2.heap.size + 1) (by simp) ?_; intro g2 cap3 w3 hown hgrow)
                  have E8 : Hid (TM w w3 WB (WB + 1) g2 cap3 s3 ∧ q + 1 = s3.ord.length ∧ At w3 NB [.int .i64 (y : Int), .int .i64 (x : Int), .int .i64 u, .int .i64 gw]) := by
                    rw [HS3.out]
                    refine ⟨TM.app E7.out.1 (by rw [← HQk.out]; exact hown.out) (by rw [← HQk.out]; exact hgrow.out), ?_, At.grwn (E7.out.2.alloc _) hgrow.out (fun e => HNb.out.2 (Option.some.inj e))⟩
                    show q + 1 = (s2.ord ++ [y]).length
                    rw [List.length_append, HQk.out]
                    rfl
                  clear hown hgrow E7 Hr r0 r1 r2 r3
                  go_wp2
                  go_roundw
                  case rel => exact ⟨k + 1, g2, cap3, q + 1, H3.out, HS4.out ▸ E8.out.2.1, rfl, by go_num, HS4.out ▸ hidb E8.out.1⟩
                  case measure => have := H3.out; simp [intOf]; omega
                · have q1 : (c == 0) = false := by simpa using a0
                  have HS3 : Hid (s3 = s2) := by show _ = _; rw [HScN.out]; exact st_no HEx.out (fun q => y1 q.1) (fun q => a0 (by rw [HA.out.2]; exact q.2.2))
                  clear y1 x1 HEx HScN a0 y0
                  refine wp_region_held_drew (S := (fun w' => (w'.cell? ⟨NB, 0, none⟩ = some (.int .i64 (y : Int)) ∧ w'.cell? ⟨NB, 1, none⟩ = some (.int .i64 (x : Int)) ∧ w'.cell? ⟨NB, 2, none⟩ = some (.int .i64 u) ∧ w'.cell? ⟨NB, 3, none⟩ = some (.int .i64 gw)) ∧ w'.cell? ⟨g, i, none⟩ = some (.int .i64 (m : Int)))) (by kernel_rfl) ?_ (fun hHeld => ?_)
                  · (try dsimp only); exact HCxs.out _ GG.out.drew
                  replace GG := hidb GG.out.drew
                  generalize World.drew _ = V9 at *
                  refine wpAnyH_take (i := 0) (v := ?vv11q0x4) rfl (by kernel_rfl) (by kernel_rfl) (by kernel_rfl) (fun _ _ _ h => h) (Or.inl ⟨by kernel_rfl, ?hv11q0x4⟩) (by assumption) ?rv11q0x4
                  case hv11q0x4 => (intro w hSw; (try dsimp only at hSw); obtain ⟨⟨z0, z1, z2, z3⟩, z4⟩ := hSw; go_simp; try with_reducible rfl)
                  (try simp only [Act.put, List.getElem_toArray, List.getElem_cons_zero, List.setIfInBounds_toArray, List.set_cons_zero, List.set_cons_succ])
                  refine wpAnyH_take (i := 1) (v := ?vv11q1x7) rfl (by kernel_rfl) (by kernel_rfl) (by kernel_rfl) (fun _ _ _ h => h) (Or.inl ⟨by kernel_rfl, ?hv11q1x7⟩) (by assumption) ?rv11q1x7
                  case hv11q1x7 => (intro w hSw; (try dsimp only at hSw); obtain ⟨⟨z0, z1, z2, z3⟩, z4⟩ := hSw; go_simp; try with_reducible rfl)
                  (try simp only [Act.put, List.getElem_toArray, List.getElem_cons_zero, List.getElem_cons_succ, List.setIfInBounds_toArray, List.set_cons_zero, List.set_cons_succ])
                  refine wpAnyH_take (i := 2) (v := ?vv11q2x10) rfl (by kernel_rfl) (by kernel_rfl) (by kernel_rfl) (fun _ _ _ h => h) (Or.inl ⟨by kernel_rfl, ?hv11q2x10⟩) (by assumption) ?rv11q2x10
                  case hv11q2x10 => (intro w hSw; (try dsimp only at hSw); obtain ⟨⟨z0, z1, z2, z3⟩, z4⟩ := hSw; go_simp; try with_reducible rfl)
                  (try simp only [Act.put, List.getElem_toArray, List.getElem_cons_zero, List.getElem_cons_succ, List.setIfInBounds_toArray, List.set_cons_zero, List.set_cons_succ])
                  refine wpAnyH_take (i := 3) (v := ?vv11q3x13) rfl (by kernel_rfl) (by kernel_rfl) (by kernel_rfl) (fun _ _ _ h => h) (Or.inl ⟨by kernel_rfl, ?hv11q3x13⟩) (by assumption) ?rv11q3x13
                  case hv11q3x13 => (intro w hSw; (try dsimp only at hSw); obtain ⟨⟨z0, z1, z2, z3⟩, z4⟩ := hSw; go_simp; try with_reducible rfl)
                  (try simp only [Act.put, List.getElem_toArray, List.getElem_cons_zero, List.getElem_cons_succ, List.setIfInBounds_toArray, List.set_cons_zero, List.set_cons_succ])
                  refine wpAnyH_take (i := 4) (v := ?vv11q4x16) rfl (by kernel_rfl) (by kernel_rfl) (by kernel_rfl) (fun _ _ _ h => h) (Or.inl ⟨by kernel_rfl, ?hv11q4x16⟩) (by assumption) ?rv11q4x16
                  case hv11q4x16 => (intro w hSw; (try dsimp only at hSw); obtain ⟨⟨z0, z1, z2, z3⟩, z4⟩ := hSw; go_simp; try with_reducible rfl)
                  (try simp only [Act.put, List.getElem_toArray, List.getElem_cons_zero, List.getElem_cons_succ, List.setIfInBounds_toArray, List.set_cons_zero, List.set_cons_succ])
                  refine wpAnyH_take (i := 5) (v := ?vv11q5x19) rfl (by kernel_rfl) (by kernel_rfl) (by kernel_rfl) (fun _ _ _ h => h) (Or.inl ⟨by kernel_rfl, ?hv11q5x19⟩) (by assumption) ?rv11q5x19
                  case hv11q5x19 => (intro w hSw; (try dsimp only at hSw); obtain ⟨⟨z0, z1, z2, z3⟩, z4⟩ := hSw; go_simp; try with_reducible rfl)
                  (try simp only [Act.put, List.getElem_toArray, List.getElem_cons_zero, List.getElem_cons_succ, List.setIfInBounds_toArray, List.set_cons_zero, List.set_cons_succ])
                  refine wpAnyH_take (i := 6) (v := ?vv11q6x22) rfl (by kernel_rfl) (by kernel_rfl) (by kernel_rfl) (fun _ _ _ h => h) (Or.inl ⟨by kernel_rfl, ?hv11q6x22⟩) (by assumption) ?rv11q6x22
                  case hv11q6x22 => (intro w hSw; (try dsimp only at hSw); obtain ⟨⟨z0, z1, z2, z3⟩, z4⟩ := hSw; go_simp; try with_reducible rfl)
                  (try simp only [Act.put, List.getElem_toArray, List.getElem_cons_zero, List.getElem_cons_succ, List.setIfInBounds_toArray, List.set_cons_zero, List.set_cons_succ])
                  refine wpAnyH_take (i := 7) (v := ?vv11q7x25) rfl (by kernel_rfl) (by kernel_rfl) (by kernel_rfl) (fun _ _ _ h => h) (Or.inl ⟨by kernel_rfl, ?hv11q7x25⟩) (by assumption) ?rv11q7x25
                  case hv11q7x25 => (intro w hSw; (try dsimp only at hSw); obtain ⟨⟨z0, z1, z2, z3⟩, z4⟩ := hSw; go_simp; try with_reducible rfl)
                  (try simp only [Act.put, List.getElem_toArray, List.getElem_cons_zero, List.getElem_cons_succ, List.setIfInBounds_toArray, List.set_cons_zero, List.set_cons_succ])
                  refine wpAnyH_take (i := 8) (v := undef) rfl (by kernel_rfl) (by kernel_rfl) (by kernel_rfl) (fun _ _ _ h => h) (Or.inr ⟨by kernel_rfl, rfl⟩) (by assumption) ?_
                  (try simp only [Act.put, List.getElem_toArray, List.getElem_cons_zero, List.getElem_cons_succ, List.setIfInBounds_toArray, List.set_cons_zero, List.set_cons_succ])
                  refine wpAnyH_take (i := 9) (v := undef) rfl (by kernel_rfl) (by kernel_rfl) (by kernel_rfl) (fun _ _ _ h => h) (Or.inr ⟨by kernel_rfl, rfl⟩) (by assumption) ?_
                  (try simp only [Act.put, List.getElem_toArray, List.getElem_cons_zero, List.getElem_cons_succ, List.setIfInBounds_toArray, List.set_cons_zero, List.set_cons_succ])
                  refine wpAnyH_take (i := 10) (v := undef) rfl (by kernel_rfl) (by kernel_rfl) (by kernel_rfl) (fun _ _ _ h => h) (Or.inr ⟨by kernel_rfl, rfl⟩) (by assumption) ?_
                  (try simp only [Act.put, List.getElem_toArray, List.getElem_cons_zero, List.getElem_cons_succ, List.setIfInBounds_toArray, List.set_cons_zero, List.set_cons_succ])
                  refine wpAnyH_take (i := 11) (v := ?vv11q11x34) rfl (by kernel_rfl) (by kernel_rfl) (by kernel_rfl) (fun _ _ _ h => h) (Or.inl ⟨by kernel_rfl, ?hv11q11x34⟩) (by assumption) ?rv11q11x34
                  case hv11q11x34 => (intro w hSw; (try dsimp only at hSw); obtain ⟨⟨z0, z1, z2, z3⟩, z4⟩ := hSw; go_simp; try with_reducible rfl)
                  (try simp only [Act.put, List.getElem_toArray, List.getElem_cons_zero, List.getElem_cons_succ, List.setIfInBounds_toArray, List.set_cons_zero, List.set_cons_succ])
                  refine wpAnyH_take (i := 12) (v := ?vv11q12x37) rfl (by kernel_rfl) (by kernel_rfl) (by kernel_rfl) (fun _ _ _ h => h) (Or.inl ⟨by kernel_rfl, ?hv11q12x37⟩) (by assumption) ?rv11q12x37
                  case hv11q12x37 => (intro w hSw; (try dsimp only at hSw); obtain ⟨⟨z0, z1, z2, z3⟩, z4⟩ := hSw; go_simp; try with_reducible rfl)
                  (try simp only [Act.put, List.getElem_toArray, List.getElem_cons_zero, List.getElem_cons_succ, List.setIfInBounds_toArray, List.set_cons_zero, List.set_cons_succ])
                  refine wpAnyH_take (i := 13) (v := undef) rfl (by kernel_rfl) (by kernel_rfl) (by kernel_rfl) (fun _ _ _ h => h) (Or.inr ⟨by kernel_rfl, rfl⟩) (by assumption) ?_
                  (try simp only [Act.put, List.getElem_toArray, List.getElem_cons_zero, List.getElem_cons_succ, List.setIfInBounds_toArray, List.set_cons_zero, List.set_cons_succ])
                  refine wpAnyH_take (i := 14) (v := undef) rfl (by kernel_rfl) (by kernel_rfl) (by kernel_rfl) (fun _ _ _ h => h) (Or.inr ⟨by kernel_rfl, rfl⟩) (by assumption) ?_
                  (try simp only [Act.put, List.getElem_toArray, List.getElem_cons_zero, List.getElem_cons_succ, List.setIfInBounds_toArray, List.set_cons_zero, List.set_cons_succ])
                  refine wpAnyH_take (i := 15) (v := undef) rfl (by kernel_rfl) (by kernel_rfl) (by kernel_rfl) (fun _ _ _ h => h) (Or.inr ⟨by kernel_rfl, rfl⟩) (by assumption) ?_
                  (try simp only [Act.put, List.getElem_toArray, List.getElem_cons_zero, List.getElem_cons_succ, List.setIfInBounds_toArray, List.set_cons_zero, List.set_cons_succ])
                  refine wpAnyH_take (i := 16) (v := undef) rfl (by kernel_rfl) (by kernel_rfl) (by kernel_rfl) (fun _ _ _ h => h) (Or.inr ⟨by kernel_rfl, rfl⟩) (by assumption) ?_
                  (try simp only [Act.put, List.getElem_toArray, List.getElem_cons_zero, List.getElem_cons_succ, List.setIfInBounds_toArray, List.set_cons_zero, List.set_cons_succ])
                  refine wpAnyH_take (i := 17) (v := undef) rfl (by kernel_rfl) (by kernel_rfl) (by kernel_rfl) (fun _ _ _ h => h) (Or.inr ⟨by kernel_rfl, rfl⟩) (by assumption) ?_
                  (try simp only [Act.put, List.getElem_toArray, List.getElem_cons_zero, List.getElem_cons_succ, List.setIfInBounds_toArray, List.set_cons_zero, List.set_cons_succ])
                  refine wpAnyH_take (i := 18) (v := undef) rfl (by kernel_rfl) (by kernel_rfl) (by kernel_rfl) (fun _ _ _ h => h) (Or.inr ⟨by kernel_rfl, rfl⟩) (by assumption) ?_
                  (try simp only [Act.put, List.getElem_toArray, List.getElem_cons_zero, List.getElem_cons_succ, List.setIfInBounds_toArray, List.set_cons_zero, List.set_cons_succ])
                  refine wpAnyH_take (i := 19) (v := ?vv11q19x52) rfl (by kernel_rfl) (by kernel_rfl) (by kernel_rfl) (fun _ _ _ h => h) (Or.inl ⟨by kernel_rfl, ?hv11q19x52⟩) (by assumption) ?rv11q19x52
                  case hv11q19x52 => (intro w hSw; (try dsimp only at hSw); obtain ⟨⟨z0, z1, z2, z3⟩, z4⟩ := hSw; go_simp; try with_reducible rfl)
                  (try simp only [Act.put, List.getElem_toArray, List.getElem_cons_zero, List.getElem_cons_succ, List.setIfInBounds_toArray, List.set_cons_zero, List.set_cons_succ])
                  refine wpAnyH_done (by kernel_rfl) ?_ _
                  go_upto_region 14 with fail
                  refine wp_region_held_drew (S := (fun w' => (w'.cell? ⟨NB, 0, none⟩ = some (.int .i64 (y : Int)) ∧ w'.cell? ⟨NB, 1, none⟩ = some (.int .i64 (x : Int)) ∧ w'.cell? ⟨NB, 2, none⟩ = some (.int .i64 u) ∧ w'.cell? ⟨NB, 3, none⟩ = some (.int .i64 gw)) ∧ w'.cell? ⟨g, i, none⟩ = some (.int .i64 (m : Int)) ∧ w'.cell? ⟨WB, x, none⟩ = some (.int .i64 a) ∧ w'.cell? ⟨WB, y, none⟩ = some (.int .i64 c))) (by kernel_rfl) ?_ (fun hHeld => ?_)
                  · (try dsimp only); exact HCx.out _ GG.out.drew
                  replace GG := hidb GG.out.drew
                  generalize World.drew _ = V0 at *
                  refine wpAnyH_take (i := 0) (v := ?vv12q0x4) rfl (by kernel_rfl) (by kernel_rfl) (by kernel_rfl) (fun _ _ _ h => h) (Or.inl ⟨by kernel_rfl, ?hv12q0x4⟩) (by assumption) ?rv12q0x4
                  case hv12q0x4 => (intro w hSw; (try dsimp only at hSw); obtain ⟨⟨z0, z1, z2, z3⟩, z4, z5, z6⟩ := hSw; go_simp; try with_reducible rfl)
                  (try simp only [Act.put, List.getElem_toArray, List.getElem_cons_zero, List.setIfInBounds_toArray, List.set_cons_zero, List.set_cons_succ])
                  refine wpAnyH_take (i := 1) (v := ?vv12q1x7) rfl (by kernel_rfl) (by kernel_rfl) (by kernel_rfl) (fun _ _ _ h => h) (Or.inl ⟨by kernel_rfl, ?hv12q1x7⟩) (by assumption) ?rv12q1x7
                  case hv12q1x7 => (intro w hSw; (try dsimp only at hSw); obtain ⟨⟨z0, z1, z2, z3⟩, z4, z5, z6⟩ := hSw; go_simp; try with_reducible rfl)
                  (try simp only [Act.put, List.getElem_toArray, List.getElem_cons_zero, List.getElem_cons_succ, List.setIfInBounds_toArray, List.set_cons_zero, List.set_cons_succ])
                  refine wpAnyH_take (i := 2) (v := ?vv12q2x10) rfl (by kernel_rfl) (by kernel_rfl) (by kernel_rfl) (fun _ _ _ h => h) (Or.inl ⟨by kernel_rfl, ?hv12q2x10⟩) (by assumption) ?rv12q2x10
                  case hv12q2x10 => (intro w hSw; (try dsimp only at hSw); obtain ⟨⟨z0, z1, z2, z3⟩, z4, z5, z6⟩ := hSw; go_simp; try with_reducible rfl)
                  (try simp only [Act.put, List.getElem_toArray, List.getElem_cons_zero, List.getElem_cons_succ, List.setIfInBounds_toArray, List.set_cons_zero, List.set_cons_succ])
                  refine wpAnyH_take (i := 3) (v := ?vv12q3x13) rfl (by kernel_rfl) (by kernel_rfl) (by kernel_rfl) (fun _ _ _ h => h) (Or.inl ⟨by kernel_rfl, ?hv12q3x13⟩) (by assumption) ?rv12q3x13
                  case hv12q3x13 => (intro w hSw; (try dsimp only at hSw); obtain ⟨⟨z0, z1, z2, z3⟩, z4, z5, z6⟩ := hSw; go_simp; try with_reducible rfl)
                  (try simp only [Act.put, List.getElem_toArray, List.getElem_cons_zero, List.getElem_cons_succ, List.setIfInBounds_toArray, List.set_cons_zero, List.set_cons_succ])
                  refine wpAnyH_take (i := 4) (v := ?vv12q4x16) rfl (by kernel_rfl) (by kernel_rfl) (by kernel_rfl) (fun _ _ _ h => h) (Or.inl ⟨by kernel_rfl, ?hv12q4x16⟩) (by assumption) ?rv12q4x16
                  case hv12q4x16 => (intro w hSw; (try dsimp only at hSw); obtain ⟨⟨z0, z1, z2, z3⟩, z4, z5, z6⟩ := hSw; go_simp; try with_reducible rfl)
                  (try simp only [Act.put, List.getElem_toArray, List.getElem_cons_zero, List.getElem_cons_succ, List.setIfInBounds_toArray, List.set_cons_zero, List.set_cons_succ])
                  refine wpAnyH_take (i := 5) (v := ?vv12q5x19) rfl (by kernel_rfl) (by kernel_rfl) (by kernel_rfl) (fun _ _ _ h => h) (Or.inl ⟨by kernel_rfl, ?hv12q5x19⟩) (by assumption) ?rv12q5x19
                  case hv12q5x19 => (intro w hSw; (try dsimp only at hSw); obtain ⟨⟨z0, z1, z2, z3⟩, z4, z5, z6⟩ := hSw; go_simp; try with_reducible rfl)
                  (try simp only [Act.put, List.getElem_toArray, List.getElem_cons_zero, List.getElem_cons_succ, List.setIfInBounds_toArray, List.set_cons_zero, List.set_cons_succ])
                  refine wpAnyH_take (i := 6) (v := ?vv12q6x22) rfl (by kernel_rfl) (by kernel_rfl) (by kernel_rfl) (fun _ _ _ h => h) (Or.inl ⟨by kernel_rfl, ?hv12q6x22⟩) (by assumption) ?rv12q6x22
                  case hv12q6x22 => (intro w hSw; (try dsimp only at hSw); obtain ⟨⟨z0, z1, z2, z3⟩, z4, z5, z6⟩ := hSw; go_simp; try with_reducible rfl)
                  (try simp only [Act.put, List.getElem_toArray, List.getElem_cons_zero, List.getElem_cons_succ, List.setIfInBounds_toArray, List.set_cons_zero, List.set_cons_succ])
                  refine wpAnyH_take (i := 7) (v := ?vv12q7x25) rfl (by kernel_rfl) (by kernel_rfl) (by kernel_rfl) (fun _ _ _ h => h) (Or.inl ⟨by kernel_rfl, ?hv12q7x25⟩) (by assumption) ?rv12q7x25
                  case hv12q7x25 => (intro w hSw; (try dsimp only at hSw); obtain ⟨⟨z0, z1, z2, z3⟩, z4, z5, z6⟩ := hSw; go_simp; try with_reducible rfl)
                  (try simp only [Act.put, List.getElem_toArray, List.getElem_cons_zero, List.getElem_cons_succ, List.setIfInBounds_toArray, List.set_cons_zero, List.set_cons_succ])
                  refine wpAnyH_take (i := 8) (v := ?vv12q8x28) rfl (by kernel_rfl) (by kernel_rfl) (by kernel_rfl) (fun _ _ _ h => h) (Or.inl ⟨by kernel_rfl, ?hv12q8x28⟩) (by assumption) ?rv12q8x28
                  case hv12q8x28 => (intro w hSw; (try dsimp only at hSw); obtain ⟨⟨z0, z1, z2, z3⟩, z4, z5, z6⟩ := hSw; go_simp; try with_reducible rfl)
                  (try simp only [Act.put, List.getElem_toArray, List.getElem_cons_zero, List.getElem_cons_succ, List.setIfInBounds_toArray, List.set_cons_zero, List.set_cons_succ])
                  refine wpAnyH_take (i := 9) (v := ?vv12q9x31) rfl (by kernel_rfl) (by kernel_rfl) (by kernel_rfl) (fun _ _ _ h => h) (Or.inl ⟨by kernel_rfl, ?hv12q9x31⟩) (by assumption) ?rv12q9x31
                  case hv12q9x31 => (intro w hSw; (try dsimp only at hSw); obtain ⟨⟨z0, z1, z2, z3⟩, z4, z5, z6⟩ := hSw; go_simp; try with_reducible rfl)
                  (try simp only [Act.put, List.getElem_toArray, List.getElem_cons_zero, List.getElem_cons_succ, List.setIfInBounds_toArray, List.set_cons_zero, List.set_cons_succ])
                  refine wpAnyH_take (i := 10) (v := ?vv12q10x34) rfl (by kernel_rfl) (by kernel_rfl) (by kernel_rfl) (fun _ _ _ h => h) (Or.inl ⟨by kernel_rfl, ?hv12q10x34⟩) (by assumption) ?rv12q10x34
                  case hv12q10x34 => (intro w hSw; (try dsimp only at hSw); obtain ⟨⟨z0, z1, z2, z3⟩, z4, z5, z6⟩ := hSw; go_simp; try with_reducible rfl)
                  (try simp only [Act.put, List.getElem_toArray, List.getElem_cons_zero, List.getElem_cons_succ, List.setIfInBounds_toArray, List.set_cons_zero, List.set_cons_succ])
                  refine wpAnyH_take (i := 11) (v := ?vv12q11x37) rfl (by kernel_rfl) (by kernel_rfl) (by kernel_rfl) (fun _ _ _ h => h) (Or.inl ⟨by kernel_rfl, ?hv12q11x37⟩) (by assumption) ?rv12q11x37
                  case hv12q11x37 => (intro w hSw; (try dsimp only at hSw); obtain ⟨⟨z0, z1, z2, z3⟩, z4, z5, z6⟩ := hSw; go_simp; try with_reducible rfl)
                  (try simp only [Act.put, List.getElem_toArray, List.getElem_cons_zero, List.getElem_cons_succ, List.setIfInBounds_toArray, List.set_cons_zero, List.set_cons_succ])
                  refine wpAnyH_take (i := 12) (v := ?vv12q12x40) rfl (by kernel_rfl) (by kernel_rfl) (by kernel_rfl) (fun _ _ _ h => h) (Or.inl ⟨by kernel_rfl, ?hv12q12x40⟩) (by assumption) ?rv12q12x40
                  case hv12q12x40 => (intro w hSw; (try dsimp only at hSw); obtain ⟨⟨z0, z1, z2, z3⟩, z4, z5, z6⟩ := hSw; go_simp; try with_reducible rfl)
                  (try simp only [Act.put, List.getElem_toArray, List.getElem_cons_zero, List.getElem_cons_succ, List.setIfInBounds_toArray, List.set_cons_zero, List.set_cons_succ])
                  refine wpAnyH_take (i := 13) (v := ?vv12q13x43) rfl (by kernel_rfl) (by kernel_rfl) (by kernel_rfl) (fun _ _ _ h => h) (Or.inl ⟨by kernel_rfl, ?hv12q13x43⟩) (by assumption) ?rv12q13x43
                  case hv12q13x43 => (intro w hSw; (try dsimp only at hSw); obtain ⟨⟨z0, z1, z2, z3⟩, z4, z5, z6⟩ := hSw; go_simp; try with_reducible rfl)
                  (try simp only [Act.put, List.getElem_toArray, List.getElem_cons_zero, List.getElem_cons_succ, List.setIfInBounds_toArray, List.set_cons_zero, List.set_cons_succ])
                  refine wpAnyH_take (i := 14) (v := ?vv12q14x46) rfl (by kernel_rfl) (by kernel_rfl) (by kernel_rfl) (fun _ _ _ h => h) (Or.inl ⟨by kernel_rfl, ?hv12q14x46⟩) (by assumption) ?rv12q14x46
                  case hv12q14x46 => (intro w hSw; (try dsimp only at hSw); obtain ⟨⟨z0, z1, z2, z3⟩, z4, z5, z6⟩ := hSw; go_simp; try with_reducible rfl)
                  (try simp only [Act.put, List.getElem_toArray, List.getElem_cons_zero, List.getElem_cons_succ, List.setIfInBounds_toArray, List.set_cons_zero, List.set_cons_succ])
                  refine wpAnyH_take (i := 15) (v := ?vv12q15x49) rfl (by kernel_rfl) (by kernel_rfl) (by kernel_rfl) (fun _ _ _ h => h) (Or.inl ⟨by kernel_rfl, ?hv12q15x49⟩) (by assumption) ?rv12q15x49
                  case hv12q15x49 => (intro w hSw; (try dsimp only at hSw); obtain ⟨⟨z0, z1, z2, z3⟩, z4, z5, z6⟩ := hSw; go_simp; try with_reducible rfl)
                  (try simp only [Act.put, List.getElem_toArray, List.getElem_cons_zero, List.getElem_cons_succ, List.setIfInBounds_toArray, List.set_cons_zero, List.set_cons_succ])
                  refine wpAnyH_take (i := 16) (v := ?vv12q16x52) rfl (by kernel_rfl) (by kernel_rfl) (by kernel_rfl) (fun _ _ _ h => h) (Or.inl ⟨by kernel_rfl, ?hv12q16x52⟩) (by assumption) ?rv12q16x52
                  case hv12q16x52 => (intro w hSw; (try dsimp only at hSw); obtain ⟨⟨z0, z1, z2, z3⟩, z4, z5, z6⟩ := hSw; go_simp; try with_reducible rfl)
                  (try simp only [Act.put, List.getElem_toArray, List.getElem_cons_zero, List.getElem_cons_succ, List.setIfInBounds_toArray, List.set_cons_zero, List.set_cons_succ])
                  refine wpAnyH_take (i := 17) (v := ?vv12q17x55) rfl (by kernel_rfl) (by kernel_rfl) (by kernel_rfl) (fun _ _ _ h => h) (Or.inl ⟨by kernel_rfl, ?hv12q17x55⟩) (by assumption) ?rv12q17x55
                  case hv12q17x55 => (intro w hSw; (try dsimp only at hSw); obtain ⟨⟨z0, z1, z2, z3⟩, z4, z5, z6⟩ := hSw; go_simp; try with_reducible rfl)
                  (try simp only [Act.put, List.getElem_toArray, List.getElem_cons_zero, List.getElem_cons_succ, List.setIfInBounds_toArray, List.set_cons_zero, List.set_cons_succ])
                  refine wpAnyH_take (i := 18) (v := ?vv12q18x58) rfl (by kernel_rfl) (by kernel_rfl) (by kernel_rfl) (fun _ _ _ h => h) (Or.inl ⟨by kernel_rfl, ?hv12q18x58⟩) (by assumption) ?rv12q18x58
                  case hv12q18x58 => (intro w hSw; (try dsimp only at hSw); obtain ⟨⟨z0, z1, z2, z3⟩, z4, z5, z6⟩ := hSw; go_simp; try with_reducible rfl)
                  (try simp only [Act.put, List.getElem_toArray, List.getElem_cons_zero, List.getElem_cons_succ, List.setIfInBounds_toArray, List.set_cons_zero, List.set_cons_succ])
                  refine wpAnyH_take (i := 19) (v := ?vv12q19x61) rfl (by kernel_rfl) (by kernel_rfl) (by kernel_rfl) (fun _ _ _ h => h) (Or.inl ⟨by kernel_rfl, ?hv12q19x61⟩) (by assumption) ?rv12q19x61
                  case hv12q19x61 => (intro w hSw; (try dsimp only at hSw); obtain ⟨⟨z0, z1, z2, z3⟩, z4, z5, z6⟩ := hSw; go_simp; try with_reducible rfl)
                  (try simp only [Act.put, List.getElem_toArray, List.getElem_cons_zero, List.getElem_cons_succ, List.setIfInBounds_toArray, List.set_cons_zero, List.set_cons_succ])
                  refine wpAnyH_done (by kernel_rfl) ?_ _
                  have E6 := hidb (E.out.below GG.out.out)
                  have HQ6 : Hid (q = s3.ord.length) := by show _ = _; rw [HS3.out]; exact HQk.out
                  rw [← HS3.out] at E6
                  go_wp2
                  go_roundw
                  case rel => exact ⟨k + 1, g, cp, q, H3.out, HS4.out ▸ HQ6.out, rfl, by go_num, HS4.out ▸ E6⟩
                  case measure => have := H3.out; simp [intOf]; omega
            · have xm : (((x : Nat) : Int) == ((m : Nat) : Int)) = false := by simp; omega
              have HS3 : Hid (s3 = s2) := by show _ = _; rw [HScN.out]; exact st_no HEx.out (fun q => y1 q.1) (fun q => x1 q.1)
              clear y1 x1 HA HEx HScN
              refine wp_region_held_drew (S := (fun w' => (w'.cell? ⟨NB, 0, none⟩ = some (.int .i64 (y : Int)) ∧ w'.cell? ⟨NB, 1, none⟩ = some (.int .i64 (x : Int)) ∧ w'.cell? ⟨NB, 2, none⟩ = some (.int .i64 u) ∧ w'.cell? ⟨NB, 3, none⟩ = some (.int .i64 gw)) ∧ w'.cell? ⟨g, i, none⟩ = some (.int .i64 (m : Int)))) (by kernel_rfl) ?_ (fun hHeld => ?_)
              · (try dsimp only); exact HCxs.out _ GG.out.drew
              replace GG := hidb GG.out.drew
              generalize World.drew _ = V0 at *
              refine wpAnyH_take (i := 0) (v := ?vv13q0x4) rfl (by kernel_rfl) (by kernel_rfl) (by kernel_rfl) (fun _ _ _ h => h) (Or.inl ⟨by kernel_rfl, ?hv13q0x4⟩) (by assumption) ?rv13q0x4
              case hv13q0x4 => (intro w hSw; (try dsimp only at hSw); obtain ⟨⟨z0, z1, z2, z3⟩, z4⟩ := hSw; go_simp; try with_reducible rfl)
              (try simp only [Act.put, List.getElem_toArray, List.getElem_cons_zero, List.setIfInBounds_toArray, List.set_cons_zero, List.set_cons_succ])
              refine wpAnyH_take (i := 1) (v := ?vv13q1x7) rfl (by kernel_rfl) (by kernel_rfl) (by kernel_rfl) (fun _ _ _ h => h) (Or.inl ⟨by kernel_rfl, ?hv13q1x7⟩) (by assumption) ?rv13q1x7
              case hv13q1x7 => (intro w hSw; (try dsimp only at hSw); obtain ⟨⟨z0, z1, z2, z3⟩, z4⟩ := hSw; go_simp; try with_reducible rfl)
              (try simp only [Act.put, List.getElem_toArray, List.getElem_cons_zero, List.getElem_cons_succ, List.setIfInBounds_toArray, List.set_cons_zero, List.set_cons_succ])
              refine wpAnyH_take (i := 2) (v := ?vv13q2x10) rfl (by kernel_rfl) (by kernel_rfl) (by kernel_rfl) (fun _ _ _ h => h) (Or.inl ⟨by kernel_rfl, ?hv13q2x10⟩) (by assumption) ?rv13q2x10
              case hv13q2x10 => (intro w hSw; (try dsimp only at hSw); obtain ⟨⟨z0, z1, z2, z3⟩, z4⟩ := hSw; go_simp; try with_reducible rfl)
              (try simp only [Act.put, List.getElem_toArray, List.getElem_cons_zero, List.getElem_cons_succ, List.setIfInBounds_toArray, List.set_cons_zero, List.set_cons_succ])
              refine wpAnyH_take (i := 3) (v := ?vv13q3x13) rfl (by kernel_rfl) (by kernel_rfl) (by kernel_rfl) (fun _ _ _ h => h) (Or.inl ⟨by kernel_rfl, ?hv13q3x13⟩) (by assumption) ?rv13q3x13
              case hv13q3x13 => (intro w hSw; (try dsimp only at hSw); obtain ⟨⟨z0, z1, z2, z3⟩, z4⟩ := hSw; go_simp; try with_reducible rfl)
              (try simp only [Act.put, List.getElem_toArray, List.getElem_cons_zero, List.getElem_cons_succ, List.setIfInBounds_toArray, List.set_cons_zero, List.set_cons_succ])
              refine wpAnyH_take (i := 4) (v := ?vv13q4x16) rfl (by kernel_rfl) (by kernel_rfl) (by kernel_rfl) (fun _ _ _ h => h) (Or.inl ⟨by kernel_rfl, ?hv13q4x16⟩) (by assumption) ?rv13q4x16
              case hv13q4x16 => (intro w hSw; (try dsimp only at hSw); obtain ⟨⟨z0, z1, z2, z3⟩, z4⟩ := hSw; go_simp; try with_reducible rfl)
              (try simp only [Act.put, List.getElem_toArray, List.getElem_cons_zero, List.getElem_cons_succ, List.setIfInBounds_toArray, List.set_cons_zero, List.set_cons_succ])
              refine wpAnyH_take (i := 5) (v := ?vv13q5x19) rfl (by kernel_rfl) (by kernel_rfl) (by kernel_rfl) (fun _ _ _ h => h) (Or.inl ⟨by kernel_rfl, ?hv13q5x19⟩) (by assumption) ?rv13q5x19
              case hv13q5x19 => (intro w hSw; (try dsimp only at hSw); obtain ⟨⟨z0, z1, z2, z3⟩, z4⟩ := hSw; go_simp; try with_reducible rfl)
              (try simp only [Act.put, List.getElem_toArray, List.getElem_cons_zero, List.getElem_cons_succ, List.setIfInBounds_toArray, List.set_cons_zero, List.set_cons_succ])
              refine wpAnyH_take (i := 6) (v := ?vv13q6x22) rfl (by kernel_rfl) (by kernel_rfl) (by kernel_rfl) (fun _ _ _ h => h) (Or.inl ⟨by kernel_rfl, ?hv13q6x22⟩) (by assumption) ?rv13q6x22
              case hv13q6x22 => (intro w hSw; (try dsimp only at hSw); obtain ⟨⟨z0, z1, z2, z3⟩, z4⟩ := hSw; go_simp; try with_reducible rfl)
              (try simp only [Act.put, List.getElem_toArray, List.getElem_cons_zero, List.getElem_cons_succ, List.setIfInBounds_toArray, List.set_cons_zero, List.set_cons_succ])
              refine wpAnyH_take (i := 7) (v := ?vv13q7x25) rfl (by kernel_rfl) (by kernel_rfl) (by kernel_rfl) (fun _ _ _ h => h) (Or.inl ⟨by kernel_rfl, ?hv13q7x25⟩) (by assumption) ?rv13q7x25
              case hv13q7x25 => (intro w hSw; (try dsimp only at hSw); obtain ⟨⟨z0, z1, z2, z3⟩, z4⟩ := hSw; go_simp; try with_reducible rfl)
              (try simp only [Act.put, List.getElem_toArray, List.getElem_cons_zero, List.getElem_cons_succ, List.setIfInBounds_toArray, List.set_cons_zero, List.set_cons_succ])
              refine wpAnyH_take (i := 8) (v := undef) rfl (by kernel_rfl) (by kernel_rfl) (by kernel_rfl) (fun _ _ _ h => h) (Or.inr ⟨by kernel_rfl, rfl⟩) (by assumption) ?_
              (try simp only [Act.put, List.getElem_toArray, List.getElem_cons_zero, List.getElem_cons_succ, List.setIfInBounds_toArray, List.set_cons_zero, List.set_cons_succ])
              refine wpAnyH_take (i := 9) (v := undef) rfl (by kernel_rfl) (by kernel_rfl) (by kernel_rfl) (fun _ _ _ h => h) (Or.inr ⟨by kernel_rfl, rfl⟩) (by assumption) ?_
              (try simp only [Act.put, List.getElem_toArray, List.getElem_cons_zero, List.getElem_cons_succ, List.setIfInBounds_toArray, List.set_cons_zero, List.set_cons_succ])
              refine wpAnyH_take (i := 10) (v := undef) rfl (by kernel_rfl) (by kernel_rfl) (by kernel_rfl) (fun _ _ _ h => h) (Or.inr ⟨by kernel_rfl, rfl⟩) (by assumption) ?_
              (try simp only [Act.put, List.getElem_toArray, List.getElem_cons_zero, List.getElem_cons_succ, List.setIfInBounds_toArray, List.set_cons_zero, List.set_cons_succ])
              refine wpAnyH_take (i := 11) (v := ?vv13q11x34) rfl (by kernel_rfl) (by kernel_rfl) (by kernel_rfl) (fun _ _ _ h => h) (Or.inl ⟨by kernel_rfl, ?hv13q11x34⟩) (by assumption) ?rv13q11x34
              case hv13q11x34 => (intro w hSw; (try dsimp only at hSw); obtain ⟨⟨z0, z1, z2, z3⟩, z4⟩ := hSw; go_simp; try with_reducible rfl)
              (try simp only [Act.put, List.getElem_toArray, List.getElem_cons_zero, List.getElem_cons_succ, List.setIfInBounds_toArray, List.set_cons_zero, List.set_cons_succ])
              refine wpAnyH_take (i := 12) (v := ?vv13q12x37) rfl (by kernel_rfl) (by kernel_rfl) (by kernel_rfl) (fun _ _ _ h => h) (Or.inl ⟨by kernel_rfl, ?hv13q12x37⟩) (by assumption) ?rv13q12x37
              case hv13q12x37 => (intro w hSw; (try dsimp only at hSw); obtain ⟨⟨z0, z1, z2, z3⟩, z4⟩ := hSw; go_simp; try with_reducible rfl)
              (try simp only [Act.put, List.getElem_toArray, List.getElem_cons_zero, List.getElem_cons_succ, List.setIfInBounds_toArray, List.set_cons_zero, List.set_cons_succ])
              refine wpAnyH_take (i := 13) (v := undef) rfl (by kernel_rfl) (by kernel_rfl) (by kernel_rfl) (fun _ _ _ h => h) (Or.inr ⟨by kernel_rfl, rfl⟩) (by assumption) ?_
              (try simp only [Act.put, List.getElem_toArray, List.getElem_cons_zero, List.getElem_cons_succ, List.setIfInBounds_toArray, List.set_cons_zero, List.set_cons_succ])
              refine wpAnyH_take (i := 14) (v := undef) rfl (by kernel_rfl) (by kernel_rfl) (by kernel_rfl) (fun _ _ _ h => h) (Or.inr ⟨by kernel_rfl, rfl⟩) (by assumption) ?_
              (try simp only [Act.put, List.getElem_toArray, List.getElem_cons_zero, List.getElem_cons_succ, List.setIfInBounds_toArray, List.set_cons_zero, List.set_cons_succ])
              refine wpAnyH_take (i := 15) (v := undef) rfl (by kernel_rfl) (by kernel_rfl) (by kernel_rfl) (fun _ _ _ h => h) (Or.inr ⟨by kernel_rfl, rfl⟩) (by assumption) ?_
              (try simp only [Act.put, List.getElem_toArray, List.getElem_cons_zero, List.getElem_cons_succ, List.setIfInBounds_toArray, List.set_cons_zero, List.set_cons_succ])
              refine wpAnyH_take (i := 16) (v := undef) rfl (by kernel_rfl) (by kernel_rfl) (by kernel_rfl) (fun _ _ _ h => h) (Or.inr ⟨by kernel_rfl, rfl⟩) (by assumption) ?_
              (try simp only [Act.put, List.getElem_toArray, List.getElem_cons_zero, List.getElem_cons_succ, List.setIfInBounds_toArray, List.set_cons_zero, List.set_cons_succ])
              refine wpAnyH_take (i := 17) (v := undef) rfl (by kernel_rfl) (by kernel_rfl) (by kernel_rfl) (fun _ _ _ h => h) (Or.inr ⟨by kernel_rfl, rfl⟩) (by assumption) ?_
              (try simp only [Act.put, List.getElem_toArray, List.getElem_cons_zero, List.getElem_cons_succ, List.setIfInBounds_toArray, List.set_cons_zero, List.set_cons_succ])
              refine wpAnyH_take (i := 18) (v := undef) rfl (by kernel_rfl) (by kernel_rfl) (by kernel_rfl) (fun _ _ _ h => h) (Or.inr ⟨by kernel_rfl, rfl⟩) (by assumption) ?_
              (try simp only [Act.put, List.getElem_toArray, List.getElem_cons_zero, List.getElem_cons_succ, List.setIfInBounds_toArray, List.set_cons_zero, List.set_cons_succ])
              refine wpAnyH_take (i := 19) (v := ?vv13q19x52) rfl (by kernel_rfl) (by kernel_rfl) (by kernel_rfl) (fun _ _ _ h => h) (Or.inl ⟨by kernel_rfl, ?hv13q19x52⟩) (by assumption) ?rv13q19x52
              case hv13q19x52 => (intro w hSw; (try dsimp only at hSw); obtain ⟨⟨z0, z1, z2, z3⟩, z4⟩ := hSw; go_simp; try with_reducible rfl)
              (try simp only [Act.put, List.getElem_toArray, List.getElem_cons_zero, List.getElem_cons_succ, List.setIfInBounds_toArray, List.set_cons_zero, List.set_cons_succ])
              refine wpAnyH_done (by kernel_rfl) ?_ _
              go_upto_region 14 with fail
              refine wp_region_held_drew (S := (fun w' => (w'.cell? ⟨NB, 0, none⟩ = some (.int .i64 (y : Int)) ∧ w'.cell? ⟨NB, 1, none⟩ = some (.int .i64 (x : Int)) ∧ w'.cell? ⟨NB, 2, none⟩ = some (.int .i64 u) ∧ w'.cell? ⟨NB, 3, none⟩ = some (.int .i64 gw)) ∧ w'.cell? ⟨g, i, none⟩ = some (.int .i64 (m : Int)))) (by kernel_rfl) ?_ (fun hHeld => ?_)
              · (try dsimp only); exact HCxs.out _ GG.out.drew
              replace GG := hidb GG.out.drew
              generalize World.drew _ = V1 at *
              refine wpAnyH_take (i := 0) (v := ?vv14q0x4) rfl (by kernel_rfl) (by kernel_rfl) (by kernel_rfl) (fun _ _ _ h => h) (Or.inl ⟨by kernel_rfl, ?hv14q0x4⟩) (by assumption) ?rv14q0x4
              case hv14q0x4 => (intro w hSw; (try dsimp only at hSw); obtain ⟨⟨z0, z1, z2, z3⟩, z4⟩ := hSw; go_simp; try with_reducible rfl)
              (try simp only [Act.put, List.getElem_toArray, List.getElem_cons_zero, List.setIfInBounds_toArray, List.set_cons_zero, List.set_cons_succ])
              refine wpAnyH_take (i := 1) (v := ?vv14q1x7) rfl (by kernel_rfl) (by kernel_rfl) (by kernel_rfl) (fun _ _ _ h => h) (Or.inl ⟨by kernel_rfl, ?hv14q1x7⟩) (by assumption) ?rv14q1x7
              case hv14q1x7 => (intro w hSw; (try dsimp only at hSw); obtain ⟨⟨z0, z1, z2, z3⟩, z4⟩ := hSw; go_simp; try with_reducible rfl)
              (try simp only [Act.put, List.getElem_toArray, List.getElem_cons_zero, List.getElem_cons_succ, List.setIfInBounds_toArray, List.set_cons_zero, List.set_cons_succ])
              refine wpAnyH_take (i := 2) (v := ?vv14q2x10) rfl (by kernel_rfl) (by kernel_rfl) (by kernel_rfl) (fun _ _ _ h => h) (Or.inl ⟨by kernel_rfl, ?hv14q2x10⟩) (by assumption) ?rv14q2x10
              case hv14q2x10 => (intro w hSw; (try dsimp only at hSw); obtain ⟨⟨z0, z1, z2, z3⟩, z4⟩ := hSw; go_simp; try with_reducible rfl)
              (try simp only [Act.put, List.getElem_toArray, List.getElem_cons_zero, List.getElem_cons_succ, List.setIfInBounds_toArray, List.set_cons_zero, List.set_cons_succ])
              refine wpAnyH_take (i := 3) (v := ?vv14q3x13) rfl (by kernel_rfl) (by kernel_rfl) (by kernel_rfl) (fun _ _ _ h => h) (Or.inl ⟨by kernel_rfl, ?hv14q3x13⟩) (by assumption) ?rv14q3x13
              case hv14q3x13 => (intro w hSw; (try dsimp only at hSw); obtain ⟨⟨z0, z1, z2, z3⟩, z4⟩ := hSw; go_simp; try with_reducible rfl)
              (try simp only [Act.put, List.getElem_toArray, List.getElem_cons_zero, List.getElem_cons_succ, List.setIfInBounds_toArray, List.set_cons_zero, List.set_cons_succ])
              refine wpAnyH_take (i := 4) (v := ?vv14q4x16) rfl (by kernel_rfl) (by kernel_rfl) (by kernel_rfl) (fun _ _ _ h => h) (Or.inl ⟨by kernel_rfl, ?hv14q4x16⟩) (by assumption) ?rv14q4x16
              case hv14q4x16 => (intro w hSw; (try dsimp only at hSw); obtain ⟨⟨z0, z1, z2, z3⟩, z4⟩ := hSw; go_simp; try with_reducible rfl)
              (try simp only [Act.put, List.getElem_toArray, List.getElem_cons_zero, List.getElem_cons_succ, List.setIfInBounds_toArray, List.set_cons_zero, List.set_cons_succ])
              refine wpAnyH_take (i := 5) (v := ?vv14q5x19) rfl (by kernel_rfl) (by kernel_rfl) (by kernel_rfl) (fun _ _ _ h => h) (Or.inl ⟨by kernel_rfl, ?hv14q5x19⟩) (by assumption) ?rv14q5x19
              case hv14q5x19 => (intro w hSw; (try dsimp only at hSw); obtain ⟨⟨z0, z1, z2, z3⟩, z4⟩ := hSw; go_simp; try with_reducible rfl)
              (try simp only [Act.put, List.getElem_toArray, List.getElem_cons_zero, List.getElem_cons_succ, List.setIfInBounds_toArray, List.set_cons_zero, List.set_cons_succ])
              refine wpAnyH_take (i := 6) (v := ?vv14q6x22) rfl (by kernel_rfl) (by kernel_rfl) (by kernel_rfl) (fun _ _ _ h => h) (Or.inl ⟨by kernel_rfl, ?hv14q6x22⟩) (by assumption) ?rv14q6x22
              case hv14q6x22 => (intro w hSw; (try dsimp only at hSw); obtain ⟨⟨z0, z1, z2, z3⟩, z4⟩ := hSw; go_simp; try with_reducible rfl)
              (try simp only [Act.put, List.getElem_toArray, List.getElem_cons_zero, List.getElem_cons_succ, List.setIfInBounds_toArray, List.set_cons_zero, List.set_cons_succ])
              refine wpAnyH_take (i := 7) (v := ?vv14q7x25) rfl (by kernel_rfl) (by kernel_rfl) (by kernel_rfl) (fun _ _ _ h => h) (Or.inl ⟨by kernel_rfl, ?hv14q7x25⟩) (by assumption) ?rv14q7x25
              case hv14q7x25 => (intro w hSw; (try dsimp only at hSw); obtain ⟨⟨z0, z1, z2, z3⟩, z4⟩ := hSw; go_simp; try with_reducible rfl)
              (try simp only [Act.put, List.getElem_toArray, List.getElem_cons_zero, List.getElem_cons_succ, List.setIfInBounds_toArray, List.set_cons_zero, List.set_cons_succ])
              refine wpAnyH_take (i := 8) (v := undef) rfl (by kernel_rfl) (by kernel_rfl) (by kernel_rfl) (fun _ _ _ h => h) (Or.inr ⟨by kernel_rfl, rfl⟩) (by assumption) ?_
              (try simp only [Act.put, List.getElem_toArray, List.getElem_cons_zero, List.getElem_cons_succ, List.setIfInBounds_toArray, List.set_cons_zero, List.set_cons_succ])
              refine wpAnyH_take (i := 9) (v := undef) rfl (by kernel_rfl) (by kernel_rfl) (by kernel_rfl) (fun _ _ _ h => h) (Or.inr ⟨by kernel_rfl, rfl⟩) (by assumption) ?_
              (try simp only [Act.put, List.getElem_toArray, List.getElem_cons_zero, List.getElem_cons_succ, List.setIfInBounds_toArray, List.set_cons_zero, List.set_cons_succ])
              refine wpAnyH_take (i := 10) (v := undef) rfl (by kernel_rfl) (by kernel_rfl) (by kernel_rfl) (fun _ _ _ h => h) (Or.inr ⟨by kernel_rfl, rfl⟩) (by assumption) ?_
              (try simp only [Act.put, List.getElem_toArray, List.getElem_cons_zero, List.getElem_cons_succ, List.setIfInBounds_toArray, List.set_cons_zero, List.set_cons_succ])
              refine wpAnyH_take (i := 11) (v := ?vv14q11x34) rfl (by kernel_rfl) (by kernel_rfl) (by kernel_rfl) (fun _ _ _ h => h) (Or.inl ⟨by kernel_rfl, ?hv14q11x34⟩) (by assumption) ?rv14q11x34
              case hv14q11x34 => (intro w hSw; (try dsimp only at hSw); obtain ⟨⟨z0, z1, z2, z3⟩, z4⟩ := hSw; go_simp; try with_reducible rfl)
              (try simp only [Act.put, List.getElem_toArray, List.getElem_cons_zero, List.getElem_cons_succ, List.setIfInBounds_toArray, List.set_cons_zero, List.set_cons_succ])
              refine wpAnyH_take (i := 12) (v := ?vv14q12x37) rfl (by kernel_rfl) (by kernel_rfl) (by kernel_rfl) (fun _ _ _ h => h) (Or.inl ⟨by kernel_rfl, ?hv14q12x37⟩) (by assumption) ?rv14q12x37
              case hv14q12x37 => (intro w hSw; (try dsimp only at hSw); obtain ⟨⟨z0, z1, z2, z3⟩, z4⟩ := hSw; go_simp; try with_reducible rfl)
              (try simp only [Act.put, List.getElem_toArray, List.getElem_cons_zero, List.getElem_cons_succ, List.setIfInBounds_toArray, List.set_cons_zero, List.set_cons_succ])
              refine wpAnyH_take (i := 13) (v := undef) rfl (by kernel_rfl) (by kernel_rfl) (by kernel_rfl) (fun _ _ _ h => h) (Or.inr ⟨by kernel_rfl, rfl⟩) (by assumption) ?_
              (try simp only [Act.put, List.getElem_toArray, List.getElem_cons_zero, List.getElem_cons_succ, List.setIfInBounds_toArray, List.set_cons_zero, List.set_cons_succ])
              refine wpAnyH_take (i := 14) (v := undef) rfl (by kernel_rfl) (by kernel_rfl) (by kernel_rfl) (fun _ _ _ h => h) (Or.inr ⟨by kernel_rfl, rfl⟩) (by assumption) ?_
              (try simp only [Act.put, List.getElem_toArray, List.getElem_cons_zero, List.getElem_cons_succ, List.setIfInBounds_toArray, List.set_cons_zero, List.set_cons_succ])
              refine wpAnyH_take (i := 15) (v := undef) rfl (by kernel_rfl) (by kernel_rfl) (by kernel_rfl) (fun _ _ _ h => h) (Or.inr ⟨by kernel_rfl, rfl⟩) (by assumption) ?_
              (try simp only [Act.put, List.getElem_toArray, List.getElem_cons_zero, List.getElem_cons_succ, List.setIfInBounds_toArray, List.set_cons_zero, List.set_cons_succ])
              refine wpAnyH_take (i := 16) (v := undef) rfl (by kernel_rfl) (by kernel_rfl) (by kernel_rfl) (fun _ _ _ h => h) (Or.inr ⟨by kernel_rfl, rfl⟩) (by assumption) ?_
              (try simp only [Act.put, List.getElem_toArray, List.getElem_cons_zero, List.getElem_cons_succ, List.setIfInBounds_toArray, List.set_cons_zero, List.set_cons_succ])
              refine wpAnyH_take (i := 17) (v := undef) rfl (by kernel_rfl) (by kernel_rfl) (by kernel_rfl) (fun _ _ _ h => h) (Or.inr ⟨by kernel_rfl, rfl⟩) (by assumption) ?_
              (try simp only [Act.put, List.getElem_toArray, List.getElem_cons_zero, List.getElem_cons_succ, List.setIfInBounds_toArray, List.set_cons_zero, List.set_cons_succ])
              refine wpAnyH_take (i := 18) (v := undef) rfl (by kernel_rfl) (by kernel_rfl) (by kernel_rfl) (fun _ _ _ h => h) (Or.inr ⟨by kernel_rfl, rfl⟩) (by assumption) ?_
              (try simp only [Act.put, List.getElem_toArray, List.getElem_cons_zero, List.getElem_cons_succ, List.setIfInBounds_toArray, List.set_cons_zero, List.set_cons_succ])
              refine wpAnyH_take (i := 19) (v := ?vv14q19x52) rfl (by kernel_rfl) (by kernel_rfl) (by kernel_rfl) (fun _ _ _ h => h) (Or.inl ⟨by kernel_rfl, ?hv14q19x52⟩) (by assumption) ?rv14q19x52
              case hv14q19x52 => (intro w hSw; (try dsimp only at hSw); obtain ⟨⟨z0, z1, z2, z3⟩, z4⟩ := hSw; go_simp; try with_reducible rfl)
              (try simp only [Act.put, List.getElem_toArray, List.getElem_cons_zero, List.getElem_cons_succ, List.setIfInBounds_toArray, List.set_cons_zero, List.set_cons_succ])
              refine wpAnyH_done (by kernel_rfl) ?_ _
              have E6 := hidb (E.out.below GG.out.out)
              have HQ6 : Hid (q = s3.ord.length) := by show _ = _; rw [HS3.out]; exact HQk.out
              rw [← HS3.out] at E6
              go_wp2
              go_roundw
              case rel => exact ⟨k + 1, g, cp, q, H3.out, HS4.out ▸ HQ6.out, rfl, by go_num, HS4.out ▸ E6⟩
              case measure => have := H3.out; simp [intOf]; omega
end
end Go.Proofs.YtecmkjefoppbiaaDoor
