/-
  mercatorref4.StrahlerOf.
-/
import Derived.Test.YtlhligeicnejbaaDoorQDsE
namespace Go.Proofs.YtlhligeicnejbaaDoor
open Go.RowKit
attribute [local go_sem ↓] Go.wp_at_zero Go.wp_at_succ

/-- The orders of those of the first i that flow into a cell. -/
def rkI (m n : Nat) (l : List Int) (q : Int) (i c : Nat) : Nat × Nat := rkL (((List.range i).filter (fun j => flB m n l q j c)).map (so m n l q))
theorem rkI_no {m n : Nat} {l : List Int} {q : Int} {i c : Nat} (h : flB m n l q i c = false) : rkI m n l q (i + 1) c = rkI m n l q i c := by
  unfold rkI
  rw [List.range_succ, List.filter_append]
  simp [h]
theorem rkI_yes {m n : Nat} {l : List Int} {q : Int} {i c : Nat} (h : flB m n l q i c = true) : rkI m n l q (i + 1) c = wth (rkI m n l q i c) (so m n l q i) := by
  unfold rkI
  rw [List.range_succ, List.filter_append]
  simp [h, rkL_snoc]
theorem rkI_bd (m n : Nat) (l : List Int) (q : Int) (i c : Nat) : (rkI m n l q i c).1 ≤ l.length + 1 ∧ (rkI m n l q i c).2 ≤ i := by
  refine ⟨rkL_le (fun o ho => ?_), ?_⟩
  · obtain ⟨i, _, rfl⟩ := List.mem_map.1 ho
    exact (so_bd m n l q i).2
  · have h1 := rkL_many (((List.range i).filter (fun j => flB m n l q j c)).map (so m n l q))
    have h2 := List.length_filter_le (fun j => flB m n l q j c) (List.range i)
    rw [List.length_map] at h1
    rw [List.length_range] at h2
    unfold rkI
    omega
theorem rkI_so {m n : Nat} {l : List Int} {q : Int} (ok : Ok l m n) {c : Nat} (hc : c < l.length) : so m n l q c = if (rkI m n l q l.length c).1 = 0 then 1 else if 1 < (rkI m n l q l.length c).2 then (rkI m n l q l.length c).1 + 1 else (rkI m n l q l.length c).1 := by
  rw [so_eq m n l q ok.m1 ok.len hc]
  exact rkO_ref (rkL_some (fun o ho => by
    obtain ⟨i, _, rfl⟩ := List.mem_map.1 ho
    exact (so_bd m n l q i).1))
set_option maxRecDepth 4000 in
set_option maxHeartbeats 16000000 in
theorem strahler_ref {m n TO ON : Nat} {l Lt : List Int} (ok : Ok l m n) (q : Int) (v1 v3 : Value) (hLt : TwL m n l Lt) : ∀ (d p : Nat), p < l.length → l.length ≤ p + d → ∀ (w : World), At w TO (ir Lt) → At w ON (br (bF l.length (stB m n l q))) → Calls Tryd.prog 13 #[.agg #[v1, .slice (some ⟨TO, 0, none⟩) l.length l.length, v3], .slice (some ⟨ON, 0, none⟩) l.length l.length, .int .i64 (oc m n l p : Int)] w fun e w' => e = .returned (.int .i64 (so m n l q (oc m n l p) : Int)) ∧ Gr w w' := by
  intro d
  induction d with
  | zero => intro p hp hd; omega
  | succ d ih =>
    intro p hp hd w hT hS
    have hlen := ok.len_le
    have hc := oc_lt m n l ok.m1 ok.len hp
    have HIh : Hid (∀ i, i < l.length → flB m n l q i (oc m n l p) = true → ∀ W, Gr w W → Calls Tryd.prog 13 #[.agg #[v1, .slice (some ⟨TO, 0, none⟩) l.length l.length, v3], .slice (some ⟨ON, 0, none⟩) l.length l.length, .int .i64 (i : Int)] W fun e w' => e = .returned (.int .i64 (so m n l q i : Int)) ∧ Gr W w') := fun i hi hf W hG => by
      obtain ⟨j, hpj, hj, rfl⟩ := fl_pos m n l q ok.m1 ok.len hp hi hf
      exact ih j hj (by omega) W (At.below hG.out hT) (At.below hG.out hS)
    have HSo := hidb (rkI_so (q := q) ok hc)
    have HBd := hidb (fun i => rkI_bd m n l q i (oc m n l p))
    have HSb := hidb (so_bd m n l q)
    generalize hcc : oc m n l p = c at *
    have HC := hidb hc
    have HL := hidb (show l.length ≤ 16384 from hlen)
    have HCt := hidb (fun W (hG : Gr w W) i (hi : i < l.length) => (At.below hG.out hT).get (j := i) (by rw [hLt.1]; exact hi))
    have HCs := hidb (fun W (hG : Gr w W) i (hi : i < l.length) => (At.below hG.out hS).gb hi)
    have HTw : Hid (∀ W, Gr w W → ∀ i, i < l.length → W.cell? ⟨TO, i, none⟩ = some (.int .i64 (tw m n l i : Int))) := fun W hG i hi => by
      have := (HCt.out W hG i hi).1
      rw [gl_get (by rw [hLt.1]; exact hi), hLt.2 i hi] at this
      exact this
    have PX : Hid (PF w (w.alloc (.cells #[v1, .slice (some ⟨TO, 0, none⟩) l.length l.length, v3] 38)) w.heap.size [v1, .slice (some ⟨TO, 0, none⟩) l.length l.length, v3]) := ⟨At.new3 _ _ _ _ _, (Gr.refl w).alloc _⟩
    obtain ⟨N, hN⟩ : ∃ N, N = l.length := ⟨_, rfl⟩
    rw [← hN] at HIh HSo HC HL HCs HTw PX HBd HSb ⊢
    clear ih hT hS hlen hc hp hd ok HCt hcc hN hLt
    go_enter Tryd.func13, Tryd.ntmps13
    go_upto_region 1 with fail
    generalize w.alloc (.cells #[v1, .slice (some ⟨TO, 0, none⟩) N N, v3] 38) = w1 at *
    obtain ⟨T, hTT⟩ : ∃ z, z = w.heap.size := ⟨_, rfl⟩
    rw [← hTT] at PX ⊢
    clear hTT
    go_wp2
    go_loopw [7, 8, 9] (fun b k s wr => ∃ i : Nat, i ≤ N ∧ b = .int .i64 ((rkI m n l q i c).1 : Int) ∧ k = .int .i64 ((rkI m n l q i c).2 : Int) ∧ s = .int .i64 (i : Int) ∧ Hid (PF w wr T [v1, .slice (some ⟨TO, 0, none⟩) N N, v3])) (fun _ _ s _ => N - (intOf s).toNat)
    case atStart => exact ⟨0, Nat.zero_le _, rfl, rfl, rfl, PX⟩
    case round =>
      clear PX
      obtain ⟨i, hi, rfl, rfl, rfl, E⟩ := hrel
      obtain ⟨t0, t1, t2⟩ := E.out.a.c3
      by_cases h1 : ¬ i < N
      · have h1' : ¬ (i : Int) < (N : Int) := by omega
        obtain rfl : i = N := by omega
        have hb := HBd.out i
        have hso := HSo.out
        generalize (rkI m n l q i c).1 = B at *
        generalize (rkI m n l q i c).2 = K at *
        have hB := HL.out
        clear h1
        by_cases hB0 : B = 0
        · rw [if_pos hB0] at hso
          have HZ := hidb hso
          subst hB0
          clear hb hB hso
          go_wp2
          go_ret
          exact ⟨by rw [HZ.out]; rfl, E.out.gr⟩
        · rw [if_neg hB0] at hso
          have hB0' : ¬ (B : Int) = 0 := by omega
          by_cases hK : 1 < K
          · rw [if_pos hK] at hso
            have hK' : (1 : Int) < (K : Int) := by omega
            have e2 : IntKind.i64.wrap ((B : Int) + 1) = ((B + 1 : Nat) : Int) := by rw [show (B : Int) + 1 = ((B + 1 : Nat) : Int) by omega]; exact wrap_in (by omega) (by omega)
            have HZ := hidb hso
            clear hB0 hK hb hB hso
            go_wp2
            go_ret
            exact ⟨by rw [HZ.out]; rfl, E.out.gr⟩
          · rw [if_neg hK] at hso
            have hK' : ¬ (1 : Int) < (K : Int) := by omega
            have HZ := hidb hso
            clear hB0 hK hb hB hso
            go_wp2
            go_ret
            exact ⟨by rw [HZ.out]; rfl, E.out.gr⟩
      · have h1' : (i : Int) < (N : Int) := by omega
        have hiN : i < N := by omega
        have H1 := hidb hiN
        have e1 : IntKind.i64.wrap ((i : Int) + 1) = ((i + 1 : Nat) : Int) := by rw [show (i : Int) + 1 = ((i + 1 : Nat) : Int) by omega]; exact wrap_in (by have := HL.out; omega) (by have := HL.out; omega)
        have ixT := iindex TO 0 N N i hiN
        rw [Nat.zero_add] at ixT
        have ixO := bindex ON N N i hiN
        have cT := HTw.out _ E.out.gr i hiN
        have cS := (HCs.out _ E.out.gr i hiN).1
        have HFl : Hid (flB m n l q i c = (stB m n l q i && (decide (tw m n l i = c) && !decide (i = c)))) := rfl
        by_cases hic : i = c
        · have HNo := hidb (rkI_no (m := m) (n := n) (l := l) (q := q) (i := i) (c := c) (by rw [HFl.out, hic]; simp))
          have hq1 : ((i : Int) = (c : Int)) = True := eq_true (by omega)
          have hq2 : ((i : Int) == (c : Int)) = true := beq_iff_eq.2 (by omega)
          rw [← HNo.out]
          clear h1 hiN hic
          go_wp2
          go_roundw
          case rel => exact ⟨i + 1, H1.out, rfl, rfl, by go_num, E⟩
          case measure => have := H1.out; simp [intOf]; omega
        · have hic' : ¬ (i : Int) = (c : Int) := by omega
          by_cases htc : tw m n l i = c
          · have htc' : ((tw m n l i : Nat) : Int) = (c : Int) := by omega
            cases hst : stB m n l q i with
            | false =>
              have HNo := hidb (rkI_no (m := m) (n := n) (l := l) (q := q) (i := i) (c := c) (by rw [HFl.out, hst]; rfl))
              rw [hst] at cS
              rw [← HNo.out]
              rw [htc'] at cT
              clear h1 hiN hic htc hst htc'
              go_wp2
              go_roundw
              case rel => exact ⟨i + 1, H1.out, rfl, rfl, by go_num, E⟩
              case measure => have := H1.out; simp [intOf]; omega
            | true =>
              have hfl : flB m n l q i c = true := by rw [HFl.out, hst, htc]; simp [hic]
              have HYe := hidb (rkI_yes (m := m) (n := n) (l := l) (q := q) (i := i) (c := c) hfl)
              have HCl := hidb (HIh.out i hiN hfl wr E.out.gr)
              rw [hst] at cS
              rw [htc'] at cT
              have hb := HBd.out i
              have hsb := HSb.out i
              obtain ⟨r, hr⟩ : ∃ r, r = rkI m n l q i c := ⟨_, rfl⟩
              rw [← hr] at hb HYe ⊢
              obtain ⟨B, K⟩ := r
              generalize so m n l q i = SO at *
              clear h1 hiN hic htc hst htc' hfl hr
              dsimp only at hb ⊢
              go_wp2_with fail
              refine HCl.out.mono ?_
              rintro e w2 ⟨rfl, hB2⟩
              have E2 := hidb (E.out.below hB2.out)
              have hL := HL.out
              have hi1 := H1.out
              unfold wth at HYe
              dsimp only at HYe
              clear hB2 E t0 t1 t2 cT cS HCl
              rcases Nat.lt_trichotomy B SO with hlt | heq | hgt
              · rw [if_pos hlt] at HYe
                have k1 : (B : Int) < (SO : Int) := by omega
                have k2 : IntKind.i64.wrap ((0 : Int) + 1) = 1 := by decide
                clear hlt hb hsb hL hi1
                go_wp2
                go_roundw
                case rel => exact ⟨i + 1, H1.out, by rw [HYe.out], by rw [HYe.out]; rfl, by go_num, E2⟩
                case measure => have := H1.out; simp [intOf]; omega
              · rw [if_neg (by omega), if_pos heq.symm] at HYe
                subst heq
                have k2 : IntKind.i64.wrap ((K : Int) + 1) = ((K + 1 : Nat) : Int) := by rw [show (K : Int) + 1 = ((K + 1 : Nat) : Int) by omega]; exact wrap_in (by omega) (by omega)
                have k1 : ¬ (B : Int) < (B : Int) := by omega
                clear hb hsb hL hi1
                go_wp2
                go_roundw
                case rel => exact ⟨i + 1, H1.out, by rw [HYe.out], by rw [HYe.out]; (try simp), by go_num, E2⟩
                case measure => have := H1.out; simp [intOf]; omega
              · rw [if_neg (by omega), if_neg (by omega)] at HYe
                have k1 : ¬ (B : Int) < (SO : Int) := by omega
                have k2 : ¬ (SO : Int) = (B : Int) := by omega
                clear hgt hb hsb hL hi1
                go_wp2
                go_roundw
                case rel => exact ⟨i + 1, H1.out, by rw [HYe.out], by rw [HYe.out]; (try simp), by go_num, E2⟩
                case measure => have := H1.out; simp [intOf]; omega
          · have htc' : ¬ ((tw m n l i : Nat) : Int) = (c : Int) := by omega
            have HNo := hidb (rkI_no (m := m) (n := n) (l := l) (q := q) (i := i) (c := c) (by rw [HFl.out, decide_eq_false htc]; simp))
            rw [← HNo.out]
            generalize (tw m n l i : Int) = tI at *
            generalize stB m n l q i = sI at *
            clear h1 hiN hic htc
            go_wp2
            go_roundw
            case rel => exact ⟨i + 1, H1.out, rfl, rfl, by go_num, E⟩
            case measure => have := H1.out; simp [intOf]; omega
end Go.Proofs.YtlhligeicnejbaaDoor
