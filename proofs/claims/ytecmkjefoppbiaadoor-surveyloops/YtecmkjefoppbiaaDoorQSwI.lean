/-
  survey.Survey's level, of two marks and one way between them.
-/
import Derived.Test.YtecmkjefoppbiaaDoorQSwH
namespace Go.Proofs.YtecmkjefoppbiaaDoor
open Go.RowKit
attribute [local go_sem ↓] Go.wp_at_zero Go.wp_at_succ

theorem made_runNu (K : Nat) (hK : K ≤ 2000) : ∃ CS : Array Value, CS.toList = nuL (List.replicate K (false, .slice none 0 0)) ∧ ∀ w, (Instr.makeSlice 61 (.int .i64 (K : Int)) (.int .i64 (K : Int))).run Tryd.prog w = .ok (.slice (some ⟨w.heap.size, 0, none⟩) K K) (w.alloc (.cells CS 65)) := by
  obtain ⟨i0, hi, hz0, hz1, hz2⟩ := info_parts infoNu
  refine ⟨madeCells #[.bool false, .slice none 0 0] (K * 2), ?_, fun w => ?_⟩
  · apply List.ext_getElem
    · rw [nuL_len]; simp [madeCells]
    · intro j h1 h2
      have hk : j / 2 < K := by simp [madeCells] at h1; omega
      have e := nuL_get (List.replicate K (false, .slice none 0 0)) (j / 2) (by simpa using hk) (j % 2) (by omega)
      rw [show j / 2 * 2 + j % 2 = j by omega] at e
      have e2 := (List.getElem?_eq_some_iff (l := nuL (List.replicate K (false, .slice none 0 0))) (i := j) (a := (nuL (List.replicate K (false, .slice none 0 0)))[j])).2 ⟨h2, rfl⟩
      rw [e2] at e
      have hj : j % 2 = 0 ∨ j % 2 = 1 := by omega
      rcases hj with q | q <;> simp [madeCells, q, nuX, hk] at e ⊢ <;> exact e.symm
  · have := run_makeSlice (P := Tryd.prog) w 61 65 i0 (.agg #[.bool false, .slice none 0 0]) undNu hi hz0 .i64 .i64 (K : Int) (K : Int) (by omega) (Int.le_refl _) (by rw [hz1]; omega) (by rw [hz2]; omega) (by omega)
    rw [hz1, Int.toNat_natCast] at this
    exact this
/-- What lies in memory at the end of level. -/
structure LT (w W : World) (RB LB HB OV g g2 cp2 : Nat) (m0 m1 mo mh : Bool) (u0 u1 vo vh : Value) : Prop where
  gr : Gr w W
  q : QT W g g2 cp2 m0 u0 m1 u1
  r : At W RB [.slice none 0 0, .bool false, .slice none 0 0]
  l : At W LB [.slice (some ⟨HB, 0, none⟩) 2 2, .bool mo, vo]
  h : At W HB [.bool false, .slice none 0 0, .bool mh, vh]
  z : Nm W mo vo 1
  b : w.heap.size ≤ HB ∧ w.heap.size ≤ RB ∧ ¬ HB = g ∧ ¬ HB = g2 ∧ ¬ HB = RB ∧ ¬ HB = LB ∧ ¬ RB = LB
theorem LT.below {w W w' : World} {RB LB HB OV g g2 cp2 : Nat} {m0 m1 mo mh : Bool} {u0 u1 vo vh : Value} (h : LT w W RB LB HB OV g g2 cp2 m0 m1 mo mh u0 u1 vo vh) (hB : Below W.heap.size W w') : LT w w' RB LB HB OV g g2 cp2 m0 m1 mo mh u0 u1 vo vh :=
  ⟨Gr.step h.gr hB, h.q.below hB, At.below hB h.r, At.below hB h.l, At.below hB h.h, h.z.below hB, h.b⟩
theorem LT.drew {w W : World} {RB LB HB OV g g2 cp2 : Nat} {m0 m1 mo mh : Bool} {u0 u1 vo vh : Value} (h : LT w W RB LB HB OV g g2 cp2 m0 m1 mo mh u0 u1 vo vh) : LT w W.drew RB LB HB OV g g2 cp2 m0 m1 mo mh u0 u1 vo vh :=
  ⟨h.gr.drew, ⟨h.q.c, h.q.d, h.q.z0.drew, h.q.z1.drew⟩, h.r, h.l, h.h, h.z.drew, h.b⟩
theorem LT.put {w W : World} {RB LB HB OV g g2 cp2 : Nat} {m0 m1 mo mh : Bool} {u0 u1 vo vh : Value} (h : LT w W RB LB HB OV g g2 cp2 m0 m1 mo mh u0 u1 vo vh) (m : Bool) (v : Value) : LT w ((W.setCell ⟨HB, 2, none⟩ (.bool m)).setCell ⟨HB, 3, none⟩ v) RB LB HB OV g g2 cp2 m0 m1 mo m u0 u1 vo v := by
  obtain ⟨b1, b2, b3, b4, b5, b6, b7⟩ := h.b
  have w1 : Nw W HB := h.h.nw (fun z e => by cases e)
  have hh := h.h.put 2 (.bool m)
  have w2 : Nw (W.setCell ⟨HB, 2, none⟩ (.bool m)) HB := At.nw (l := [.slice none 0 0, .bool m, vh]) hh (fun z e => by cases e)
  exact ⟨(h.gr.set b1 _ _).set b1 _ _, (h.q.set ⟨b3, b4⟩ w1 _ _).set ⟨b3, b4⟩ w2 _ _, (h.r.skip b5 _ _).skip b5 _ _, (h.l.skip b6 _ _).skip b6 _ _, hh.put 3 v, (h.z.setX w1 _ _).setX w2 _ _, h.b⟩
def nwV (x : Value) : Prop := ∀ z : Int, ¬ x = .int .u64 z
theorem QT.set3 {W : World} {g g2 cp2 B : Nat} {m0 m1 : Bool} {u0 u1 x y z a b c : Value} (h : QT W g g2 cp2 m0 u0 m1 u1) (hg : ¬ B = g ∧ ¬ B = g2) (hA : At W B [x, y, z]) (hx : nwV x) (ha : nwV a) : QT (((W.setCell ⟨B, 0, none⟩ a).setCell ⟨B, 1, none⟩ b).setCell ⟨B, 2, none⟩ c) g g2 cp2 m0 u0 m1 u1 :=
  ((h.set hg (hA.nw hx) _ _).set hg (At.nw (l := [y, z]) (hA.put 0 a) ha) _ _).set hg (At.nw (l := [b, z]) ((hA.put 0 a).put 1 b) ha) _ _
theorem Nm.set3 {W : World} {B : Nat} {m : Bool} {v x y z a b c : Value} {n : Int} (h : Nm W m v n) (hA : At W B [x, y, z]) (hx : nwV x) (ha : nwV a) : Nm (((W.setCell ⟨B, 0, none⟩ a).setCell ⟨B, 1, none⟩ b).setCell ⟨B, 2, none⟩ c) m v n :=
  ((h.setX (hA.nw hx) _ _).setX (At.nw (l := [y, z]) (hA.put 0 a) ha) _ _).setX (At.nw (l := [b, z]) ((hA.put 0 a).put 1 b) ha) _ _
theorem QT.set2 {W : World} {g g2 cp2 B : Nat} {m0 m1 : Bool} {u0 u1 x y a b : Value} (h : QT W g g2 cp2 m0 u0 m1 u1) (hg : ¬ B = g ∧ ¬ B = g2) (hA : At W B [x, y]) (hx : nwV x) (ha : nwV a) : QT ((W.setCell ⟨B, 0, none⟩ a).setCell ⟨B, 1, none⟩ b) g g2 cp2 m0 u0 m1 u1 :=
  (h.set hg (hA.nw hx) _ _).set hg (At.nw (l := [y]) (hA.put 0 a) ha) _ _
theorem Nm.set2 {W : World} {B : Nat} {m : Bool} {v x y a b : Value} {n : Int} (h : Nm W m v n) (hA : At W B [x, y]) (hx : nwV x) (ha : nwV a) : Nm ((W.setCell ⟨B, 0, none⟩ a).setCell ⟨B, 1, none⟩ b) m v n :=
  (h.setX (hA.nw hx) _ _).setX (At.nw (l := [y]) (hA.put 0 a) ha) _ _
theorem nw_b (b : Bool) : nwV (.bool b) := fun z e => by cases e
theorem nw_s (a : Option Addr) (l c : Nat) : nwV (.slice a l c) := fun z e => by cases e
set_option maxRecDepth 4000 in
set_option maxHeartbeats 16000000 in
theorem slevel_two {ad : Option Addr} {b o cap : Nat} (w : World) (h : SeL 32 w ad b o cap [x1s]) (B : Int) : Calls Tryd.prog 20 #[svV 2 B (.slice ad 1 cap)] w fun e w' => ∃ HB mo vo mh vh, e = .returned (.agg #[.slice (some ⟨HB, 0, none⟩) 2 2, .bool mo, vo]) ∧ At w' HB [.bool false, .slice none 0 0, .bool mh, vh] ∧ Nm w' mh vh 3 ∧ Nm w' mo vo 1 ∧ w.heap.size ≤ HB ∧ Gr w w' := by
  have HEq := hidb (fun W (hG : Gr w W) => sequations_two W (h.below hG.out) B)
  have HOf := hidb (fun w => of_any (n := 1) (by decide) (by decide) w)
  obtain ⟨CN, hCN, mkN⟩ := made_runNu 2 (by decide)
  push_cast at mkN
  obtain ⟨XB, hXB⟩ : ∃ z, z = w.heap.size := ⟨_, rfl⟩
  have HXw : Hid (w.heap.size ≤ XB) := by show _ ≤ _; omega
  have PX : Hid (At ((w.alloc (.cells #[.int .i64 2, .int .i64 B, .slice ad 1 cap] 34)).alloc (.cells #[.slice none 0 0, .bool false, .slice none 0 0] 67)) XB [.int .i64 2, .int .i64 B, .slice ad 1 cap] ∧ At ((w.alloc (.cells #[.int .i64 2, .int .i64 B, .slice ad 1 cap] 34)).alloc (.cells #[.slice none 0 0, .bool false, .slice none 0 0] 67)) (XB + 1) [.slice none 0 0, .bool false, .slice none 0 0] ∧ Gr w ((w.alloc (.cells #[.int .i64 2, .int .i64 B, .slice ad 1 cap] 34)).alloc (.cells #[.slice none 0 0, .bool false, .slice none 0 0] 67))) :=
    ⟨(At.at3 hXB _ _ _ _).alloc _, by rw [hXB]; exact At.nx3 _ _ _ _ _, ((Gr.refl w).alloc _).alloc _⟩
  unfold svV at HEq ⊢
  clear h
  go_enter Tryd.func20, Tryd.ntmps20
  go_upto_region 1 with fail
  rw [← hXB]
  generalize (w.alloc (.cells #[.int .i64 2, .int .i64 B, .slice ad 1 cap] 34)).alloc (.cells #[.slice none 0 0, .bool false, .slice none 0 0] 67) = W1 at *
  clear hXB
  obtain ⟨z0, z1, z2⟩ := PX.out.1.c3
  go_wp2_with fail
  refine (HEq.out _ PX.out.2.2).mono ?_
  rintro e W2 ⟨g, cp, g2, cp2, m0, u0, m1, u1, rfl, hQ, hB⟩
  obtain ⟨ad0, L0, c0, rfl⟩ := hQ.z0.form
  obtain ⟨ad1, L1, c1, rfl⟩ := hQ.z1.form
  have E2 := hidb (show QT W2 g g2 cp2 m0 (.slice ad0 L0 c0) m1 (.slice ad1 L1 c1) ∧ Gr W1 W2 from ⟨hQ, hB⟩)
  clear hQ hB z0 z1 z2
  go_wp2_with fail
  refine (HOf.out _).mono ?_
  rintro e W3 ⟨mo, vo, rfl, k1, k2, -⟩
  obtain ⟨ado, Lo, cpo, rfl⟩ := k1.form
  obtain ⟨OV, hOV⟩ : ∃ z, z = W3.heap.size := ⟨_, rfl⟩
  have E3 : Hid (QT (W3.alloc (.cells #[.bool mo, .slice ado Lo cpo] 65)) g g2 cp2 m0 (.slice ad0 L0 c0) m1 (.slice ad1 L1 c1) ∧ Gr W1 (W3.alloc (.cells #[.bool mo, .slice ado Lo cpo] 65)) ∧ At (W3.alloc (.cells #[.bool mo, .slice ado Lo cpo] 65)) OV [.bool mo, .slice ado Lo cpo] ∧ Nm (W3.alloc (.cells #[.bool mo, .slice ado Lo cpo] 65)) mo (.slice ado Lo cpo) 1) :=
    ⟨(E2.out.1.below k2).below ((Below.refl _ _).alloc (Nat.le_refl _) _), (Gr.step E2.out.2 k2).alloc _, At.at2 hOV _ _ _, k1.below ((Below.refl _ _).alloc (Nat.le_refl _) _)⟩
  have HOV : Hid (W1.heap.size ≤ OV ∧ ¬ OV = g ∧ ¬ OV = g2) := by
    have h1 := (E2.out.1.below k2).lt
    have h2 := (Gr.step E2.out.2 k2).out.size
    show _ ∧ _
    omega
  clear k1 k2 E2
  go_upto_region 3 with fail
  rw [← hOV]
  generalize W3.alloc (.cells #[.bool mo, .slice ado Lo cpo] 65) = W4 at *
  clear hOV
  go_wp2
  go_loopw [15] (fun t wr => ∃ (k : Nat) (mo : Bool) (ado : Option Addr) (Lo cpo : Nat), k ≤ 1 ∧ t = .int .i64 (k : Int) ∧ Hid (QT wr g g2 cp2 m0 (.slice ad0 L0 c0) m1 (.slice ad1 L1 c1) ∧ Gr W1 wr ∧ At wr OV [.bool mo, .slice ado Lo cpo] ∧ Nm wr mo (.slice ado Lo cpo) 1)) (fun t _ => 1 - (intOf t).toNat)
  case atStart => exact ⟨0, mo, ado, Lo, cpo, by omega, rfl, E3⟩
  case round =>
    clear E3
    obtain ⟨k, mo, ado, Lo, cpo, hk, rfl, E⟩ := hrel
    have hk2 : k = 0 ∨ k = 1 := by omega
    rcases hk2 with rfl | rfl
    · clear hk
      have HE := hidb E.out
      clear E
      go_wp2
      go_loopw [20] (fun t wr => ∃ i : Nat, i ≤ 1 ∧ t = .int .i64 (i : Int) ∧ Hid (QT wr g g2 cp2 m0 (.slice ad0 L0 c0) m1 (.slice ad1 L1 c1) ∧ Gr W1 wr ∧ At wr OV [.bool mo, .slice ado Lo cpo] ∧ Nm wr mo (.slice ado Lo cpo) 1)) (fun t _ => 1 - (intOf t).toNat)
      case atStart => exact ⟨0, by omega, rfl, HE⟩
      case round =>
        clear HE
        obtain ⟨i, hi, rfl, E⟩ := hrel
        have hi2 : i = 0 ∨ i = 1 := by omega
        rcases hi2 with rfl | rfl
        · clear hi
          go_wp2
          go_roundw
          case rel => exact ⟨1, by omega, by go_num, E⟩
          case measure => simp [intOf]
        · clear hi
          obtain ⟨y0, y1⟩ := E.out.2.2.1.c2
          have f0 := (E.out.2.2.1.1 0 (by simp)).2
          have f1 := (E.out.2.2.1.1 1 (by simp)).2
          have q0 := E.out.1.c
          obtain ⟨⟨q1, q2⟩, -, -⟩ := E.out.1.d
          have ixr := nsindex g 0 1 cp 0 (by decide)
          have ixn := nuindex g2 0 2 cp2 0 (by decide)
          push_cast at ixr ixn
          (try simp only [Nat.add_zero, Nat.zero_mul] at ixr ixn)
          have E7 : Hid (QT ((wr.setCell ⟨OV, 0, none⟩ (.bool m0)).setCell ⟨OV, 1, none⟩ (.slice ad0 L0 c0)) g g2 cp2 m0 (.slice ad0 L0 c0) m1 (.slice ad1 L1 c1) ∧ Gr W1 ((wr.setCell ⟨OV, 0, none⟩ (.bool m0)).setCell ⟨OV, 1, none⟩ (.slice ad0 L0 c0)) ∧ At ((wr.setCell ⟨OV, 0, none⟩ (.bool m0)).setCell ⟨OV, 1, none⟩ (.slice ad0 L0 c0)) OV [.bool m0, .slice ad0 L0 c0] ∧ Nm ((wr.setCell ⟨OV, 0, none⟩ (.bool m0)).setCell ⟨OV, 1, none⟩ (.slice ad0 L0 c0)) m0 (.slice ad0 L0 c0) 1) :=
            ⟨E.out.1.set2 HOV.out.2 E.out.2.2.1 (nw_b _) (nw_b _), (E.out.2.1.set HOV.out.1 _ _).set HOV.out.1 _ _, (E.out.2.2.1.put 0 _).put 1 _, E.out.1.z0.set2 E.out.2.2.1 (nw_b _) (nw_b _)⟩
          clear E
          go_wp2
          go_roundw
          case rel => exact ⟨1, m0, ad0, L0, c0, by omega, by go_num, E7⟩
          case measure => simp [intOf]
    · clear hk
      go_upto_region 14 with fail
      have HE := hidb E.out
      generalize wr = W5 at *
      have GG := hidb (Gr.refl W5)
      have HCx : Hid (∀ W', Gr W5 W' → (fun w' => (w'.cell? ⟨XB, 0, none⟩ = some (.int .i64 2) ∧ w'.cell? ⟨XB, 1, none⟩ = some (.int .i64 B) ∧ w'.cell? ⟨XB, 2, none⟩ = some (.slice ad 1 cap)) ∧ w'.cell? ⟨OV, 0, none⟩ = some (.bool mo) ∧ w'.cell? ⟨OV, 1, none⟩ = some (.slice ado Lo cpo)) W') := fun W' hG => ⟨(At.below (Gr.step HE.out.2.1 hG.out).out PX.out.1).c3, (At.below hG.out HE.out.2.2.1).c2⟩
      clear E
      refine wp_region_held_drew (S := (fun w' => (w'.cell? ⟨XB, 0, none⟩ = some (.int .i64 2) ∧ w'.cell? ⟨XB, 1, none⟩ = some (.int .i64 B) ∧ w'.cell? ⟨XB, 2, none⟩ = some (.slice ad 1 cap)) ∧ w'.cell? ⟨OV, 0, none⟩ = some (.bool mo) ∧ w'.cell? ⟨OV, 1, none⟩ = some (.slice ado Lo cpo))) (by kernel_rfl) ?_ (fun hHeld => ?_)
      · (try dsimp only); exact HCx.out _ GG.out.drew
      replace GG := hidb GG.out.drew
      generalize W5.drew = V at *
      refine wpAnyH_take (i := 0) (v := ?vi14q0x4) rfl (by kernel_rfl) (by kernel_rfl) (by kernel_rfl) (fun _ _ _ h => h) (Or.inl ⟨by kernel_rfl, ?hi14q0x4⟩) (by assumption) ?ri14q0x4
      case hi14q0x4 => (intro w hSw; (try dsimp only at hSw); obtain ⟨⟨z0, z1, z2⟩, o0, o1⟩ := hSw; go_simp; try with_reducible rfl)
      (try simp only [Act.put, List.getElem_toArray, List.getElem_cons_zero, List.setIfInBounds_toArray, List.set_cons_zero, List.set_cons_succ])
      refine wpAnyH_take (i := 1) (v := ?vi14q1x7) rfl (by kernel_rfl) (by kernel_rfl) (by kernel_rfl) (fun _ _ _ h => h) (Or.inl ⟨by kernel_rfl, ?hi14q1x7⟩) (by assumption) ?ri14q1x7
      case hi14q1x7 => (intro w hSw; (try dsimp only at hSw); obtain ⟨⟨z0, z1, z2⟩, o0, o1⟩ := hSw; go_simp; try with_reducible rfl)
      (try simp only [Act.put, List.getElem_toArray, List.getElem_cons_zero, List.getElem_cons_succ, List.setIfInBounds_toArray, List.set_cons_zero, List.set_cons_succ])
      refine wpAnyH_take (i := 3) (v := ?vi14q3x10) rfl (by kernel_rfl) (by kernel_rfl) (by kernel_rfl) (fun _ _ _ h => h) (Or.inl ⟨by kernel_rfl, ?hi14q3x10⟩) (by assumption) ?ri14q3x10
      case hi14q3x10 => (intro w hSw; (try dsimp only at hSw); obtain ⟨⟨z0, z1, z2⟩, o0, o1⟩ := hSw; go_simp; try with_reducible rfl)
      (try simp only [Act.put, List.getElem_toArray, List.getElem_cons_zero, List.getElem_cons_succ, List.setIfInBounds_toArray, List.set_cons_zero, List.set_cons_succ])
      refine wpAnyH_ready (rs := [2, 5]) (by kernel_rfl) (by simp) ?_
      refine AllReadyH.cons rfl (fun K hK => ?_) (AllReadyH.cons rfl (fun K hK => ?_) AllReadyH.nil)
      · skip
        go_simp
        refine hK.out _ _ ?_ (fun hHeld => ?_)
        · (try dsimp only); exact HCx.out _ (GG.out.alloc _)
        clear hK K
        have AH := hidb (At.newArr V CN 65)
        have HHb : Hid (W5.heap.size ≤ V.heap.size) := GG.out.out.size
        replace GG := hidb (GG.out.alloc (.cells CN 65))
        obtain ⟨HB, hHB⟩ : ∃ z, z = V.heap.size := ⟨_, rfl⟩
        rw [← hHB] at AH HHb ⊢
        rw [hCN] at AH
        generalize V.alloc (.cells CN 65) = Vm at *
        clear hHB
        have AH0 := AH
        refine wpAnyH_take (i := 4) (v := ?vi14q4x29) rfl (by kernel_rfl) (by kernel_rfl) (by kernel_rfl) (fun _ _ _ h => h) (Or.inl ⟨by kernel_rfl, ?hi14q4x29⟩) (by assumption) ?ri14q4x29
        case hi14q4x29 => (intro w hSw; (try dsimp only at hSw); obtain ⟨⟨z0, z1, z2⟩, o0, o1⟩ := hSw; go_simp; try with_reducible rfl)
        (try simp only [Act.put, List.getElem_toArray, List.getElem_cons_zero, List.getElem_cons_succ, List.setIfInBounds_toArray, List.set_cons_zero, List.set_cons_succ])
        refine wpAnyH_ready (rs := [5]) (by kernel_rfl) (by simp) ?_
        refine AllReadyH.cons rfl (fun K hK => ?_) AllReadyH.nil
        go_simp
        refine hK.out _ _ ?_ (fun hHeld => ?_)
        · (try dsimp only); exact HCx.out _ (GG.out.alloc _)
        clear hK K
        have AL := hidb (At.new3 Vm (.slice none 0 0) (.bool false) (.slice none 0 0) 67)
        have HLb : Hid (W5.heap.size ≤ Vm.heap.size) := GG.out.out.size
        have HHL : Hid (¬ HB = Vm.heap.size) := by have := AH.out.lt; show ¬ _; omega
        replace AH := hidb (AH.out.alloc (.cells #[.slice none 0 0, .bool false, .slice none 0 0] 67))
        replace GG := hidb (GG.out.alloc (.cells #[.slice none 0 0, .bool false, .slice none 0 0] 67))
        obtain ⟨LB, hLB⟩ : ∃ z, z = Vm.heap.size := ⟨_, rfl⟩
        rw [← hLB] at AL HLb HHL ⊢
        generalize Vm.alloc (.cells #[.slice none 0 0, .bool false, .slice none 0 0] 67) = Vma at *
        clear hLB
        refine wpAnyH_ready (rs := [6]) (by kernel_rfl) (by simp) ?_
        refine AllReadyH.cons rfl (fun K hK => ?_) AllReadyH.nil
        obtain ⟨d0, d1, d2⟩ := AL.out.c3
        have f0 := (AL.out.1 0 (by simp)).2
        have f1 := (AL.out.1 1 (by simp)).2
        have f2 := (AL.out.1 2 (by simp)).2
        go_simp
        refine hK.out _ _ ?_ (fun hHeld => ?_)
        · (try dsimp only); exact HCx.out _ (((GG.out.set HLb.out _ _).set HLb.out _ _).set HLb.out _ _)
        clear hK K
        clear d0 d1 d2 f0 f1 f2
        refine wpAnyH_done (by kernel_rfl) ?_ _
        have E0 : Hid (LT w (((Vma.setCell ⟨LB, 0, none⟩ (.slice (some ⟨HB, 0, none⟩) 2 2)).setCell ⟨LB, 1, none⟩ (.bool mo)).setCell ⟨LB, 2, none⟩ (.slice ado Lo cpo)) (XB + 1) LB HB OV g g2 cp2 m0 m1 mo false (.slice ad0 L0 c0) (.slice ad1 L1 c1) (.slice ado Lo cpo) (.slice none 0 0)) := by
          have hq := HE.out.1.below GG.out.out
          have hlt := HE.out.1.lt
          have hR := At.below (Gr.step HE.out.2.1 GG.out.out).out PX.out.2.1
          have hRl := (At.below HE.out.2.1.out PX.out.2.1).lt
          have hw := (Gr.step PX.out.2.2 HE.out.2.1.out).out.size
          have h1 := HHb.out
          have h2 := HLb.out
          have h3 := HXw.out
          have hA : At Vma HB [.bool false, .slice none 0 0, .bool false, .slice none 0 0] := by simpa [nuL] using AH.out
          refine ⟨(((Gr.step (Gr.step PX.out.2.2 HE.out.2.1.out) GG.out.out).set (by omega) _ _).set (by omega) _ _).set (by omega) _ _, hq.set3 ⟨by omega, by omega⟩ AL.out (nw_s _ _ _) (nw_s _ _ _), ((hR.skip (by omega) _ _).skip (by omega) _ _).skip (by omega) _ _, ((AL.out.put 0 _).put 1 _).put 2 _, ((hA.skip (fun e => HHL.out e.symm) _ _).skip (fun e => HHL.out e.symm) _ _).skip (fun e => HHL.out e.symm) _ _, (HE.out.2.2.2.below GG.out.out).set3 AL.out (nw_s _ _ _) (nw_s _ _ _), by omega, by omega, by omega, by omega, by omega, HHL.out, by omega⟩
        clear GG AH AL HHL HHb HLb HE HCx
        generalize ((Vma.setCell ⟨LB, 0, none⟩ (.slice (some ⟨HB, 0, none⟩) 2 2)).setCell ⟨LB, 1, none⟩ (.bool mo)).setCell ⟨LB, 2, none⟩ (.slice ado Lo cpo) = W6 at *
        go_wp2
        go_loopw [56] (fun t wr => ∃ (i : Nat) (mh : Bool) (vh : Value), i ≤ 1 ∧ t = .int .i64 (i : Int) ∧ Hid (LT w wr (XB + 1) LB HB OV g g2 cp2 m0 m1 mo mh (.slice ad0 L0 c0) (.slice ad1 L1 c1) (.slice ado Lo cpo) vh ∧ (i = 1 → mh = m1 ∧ vh = .slice ad1 L1 c1))) (fun t _ => 1 - (intOf t).toNat)
        case atStart => exact ⟨0, false, .slice none 0 0, by omega, rfl, hidb ⟨E0.out, fun e => by omega⟩⟩
        case round =>
          clear E0
          obtain ⟨i, mh, vh, hi, rfl, EE⟩ := hrel
          have hi2 : i = 0 ∨ i = 1 := by omega
          rcases hi2 with rfl | rfl
          · clear hi
            have E := hidb EE.out.1
            clear EE
            have q0 := E.out.q.c
            have e1 : IntKind.i64.wrap 1 = 1 := by decide
            have ixr := nsindex g 0 1 cp 0 (by decide)
            push_cast at ixr
            (try simp only [Nat.add_zero] at ixr)
            have ixn := nuindex g2 0 2 cp2 1 (by decide)
            have ixh := nuindex HB 0 2 2 1 (by decide)
            push_cast at ixn ixh
            (try simp only [Nat.zero_add, Nat.one_mul] at ixn ixh)
            have HCy : Hid (∀ W', LT w W' (XB + 1) LB HB OV g g2 cp2 m0 m1 mo mh (.slice ad0 L0 c0) (.slice ad1 L1 c1) (.slice ado Lo cpo) vh → (fun w' => (w'.cell? ⟨LB, 0, none⟩ = some (.slice (some ⟨HB, 0, none⟩) 2 2)) ∧ w'.cell? ⟨g2, 2, none⟩ = some (.bool m1) ∧ w'.cell? ⟨g2, 3, none⟩ = some (.slice ad1 L1 c1)) W') := fun W' h => ⟨h.l.c3.1, h.q.d.2⟩
            have HCz : Hid (∀ W', LT w W' (XB + 1) LB HB OV g g2 cp2 m0 m1 mo mh (.slice ad0 L0 c0) (.slice ad1 L1 c1) (.slice ado Lo cpo) vh → (fun w' => (w'.cell? ⟨LB, 0, none⟩ = some (.slice (some ⟨HB, 0, none⟩) 2 2)) ∧ w'.cell? ⟨g2, 2, none⟩ = some (.bool m1) ∧ w'.cell? ⟨g2, 3, none⟩ = some (.slice ad1 L1 c1)) ((W'.setCell ⟨HB, 2, none⟩ (.bool m1)).setCell ⟨HB, 3, none⟩ (.slice ad1 L1 c1))) := fun W' h => ⟨(h.put m1 (.slice ad1 L1 c1)).l.c3.1, (h.put m1 (.slice ad1 L1 c1)).q.d.2⟩
            go_upto_region 18 with fail
            clear q0 ixr
            refine wp_region_held_drew (S := (fun w' => (w'.cell? ⟨LB, 0, none⟩ = some (.slice (some ⟨HB, 0, none⟩) 2 2)) ∧ w'.cell? ⟨g2, 2, none⟩ = some (.bool m1) ∧ w'.cell? ⟨g2, 3, none⟩ = some (.slice ad1 L1 c1))) (by kernel_rfl) ?_ (fun hHeld => ?_)
            · (try dsimp only); exact HCy.out _ E.out.drew
            replace E := hidb E.out.drew
            generalize World.drew _ = V8 at *
            refine wpAnyH_take (i := 0) (v := ?vi18q1z0x4) rfl (by kernel_rfl) (by kernel_rfl) (by kernel_rfl) (fun _ _ _ h => h) (Or.inl ⟨by kernel_rfl, ?hi18q1z0x4⟩) (by assumption) ?ri18q1z0x4
            case hi18q1z0x4 => (intro w hSw; (try dsimp only at hSw); obtain ⟨l0, l1, l2⟩ := hSw; go_simp; try with_reducible rfl)
            (try simp only [Act.put, List.getElem_toArray, List.getElem_cons_zero, List.setIfInBounds_toArray, List.set_cons_zero, List.set_cons_succ])
            refine wpAnyH_take (i := 1) (v := ?vi18q1z1x7) rfl (by kernel_rfl) (by kernel_rfl) (by kernel_rfl) (fun _ _ _ h => h) (Or.inl ⟨by kernel_rfl, ?hi18q1z1x7⟩) (by assumption) ?ri18q1z1x7
            case hi18q1z1x7 => (intro w hSw; (try dsimp only at hSw); obtain ⟨l0, l1, l2⟩ := hSw; go_simp; try with_reducible rfl)
            (try simp only [Act.put, List.getElem_toArray, List.getElem_cons_zero, List.getElem_cons_succ, List.setIfInBounds_toArray, List.set_cons_zero, List.set_cons_succ])
            refine wpAnyH_take (i := 2) (v := ?vi18q1z2x10) rfl (by kernel_rfl) (by kernel_rfl) (by kernel_rfl) (fun _ _ _ h => h) (Or.inl ⟨by kernel_rfl, ?hi18q1z2x10⟩) (by assumption) ?ri18q1z2x10
            case hi18q1z2x10 => (intro w hSw; (try dsimp only at hSw); obtain ⟨l0, l1, l2⟩ := hSw; go_simp; try with_reducible rfl)
            (try simp only [Act.put, List.getElem_toArray, List.getElem_cons_zero, List.getElem_cons_succ, List.setIfInBounds_toArray, List.set_cons_zero, List.set_cons_succ])
            refine wpAnyH_take (i := 3) (v := ?vi18q1z3x13) rfl (by kernel_rfl) (by kernel_rfl) (by kernel_rfl) (fun _ _ _ h => h) (Or.inl ⟨by kernel_rfl, ?hi18q1z3x13⟩) (by assumption) ?ri18q1z3x13
            case hi18q1z3x13 => (intro w hSw; (try dsimp only at hSw); obtain ⟨l0, l1, l2⟩ := hSw; go_simp; try with_reducible rfl)
            (try simp only [Act.put, List.getElem_toArray, List.getElem_cons_zero, List.getElem_cons_succ, List.setIfInBounds_toArray, List.set_cons_zero, List.set_cons_succ])
            refine wpAnyH_take (i := 4) (v := ?vi18q1z4x16) rfl (by kernel_rfl) (by kernel_rfl) (by kernel_rfl) (fun _ _ _ h => h) (Or.inl ⟨by kernel_rfl, ?hi18q1z4x16⟩) (by assumption) ?ri18q1z4x16
            case hi18q1z4x16 => (intro w hSw; (try dsimp only at hSw); obtain ⟨l0, l1, l2⟩ := hSw; go_simp; try with_reducible rfl)
            (try simp only [Act.put, List.getElem_toArray, List.getElem_cons_zero, List.getElem_cons_succ, List.setIfInBounds_toArray, List.set_cons_zero, List.set_cons_succ])
            refine wpAnyH_take (i := 5) (v := ?vi18q1z5x19) rfl (by kernel_rfl) (by kernel_rfl) (by kernel_rfl) (fun _ _ _ h => h) (Or.inl ⟨by kernel_rfl, ?hi18q1z5x19⟩) (by assumption) ?ri18q1z5x19
            case hi18q1z5x19 => (intro w hSw; (try dsimp only at hSw); obtain ⟨l0, l1, l2⟩ := hSw; go_simp; try with_reducible rfl)
            (try simp only [Act.put, List.getElem_toArray, List.getElem_cons_zero, List.getElem_cons_succ, List.setIfInBounds_toArray, List.set_cons_zero, List.set_cons_succ])
            refine wpAnyH_take (i := 6) (v := ?vi18q1z6x22) rfl (by kernel_rfl) (by kernel_rfl) (by kernel_rfl) (fun _ _ _ h => h) (Or.inl ⟨by kernel_rfl, ?hi18q1z6x22⟩) (by assumption) ?ri18q1z6x22
            case hi18q1z6x22 => (intro w hSw; (try dsimp only at hSw); obtain ⟨l0, l1, l2⟩ := hSw; go_simp; try with_reducible rfl)
            (try simp only [Act.put, List.getElem_toArray, List.getElem_cons_zero, List.getElem_cons_succ, List.setIfInBounds_toArray, List.set_cons_zero, List.set_cons_succ])
            refine wpAnyH_take (i := 7) (v := ?vi18q1z7x25) rfl (by kernel_rfl) (by kernel_rfl) (by kernel_rfl) (fun _ _ _ h => h) (Or.inl ⟨by kernel_rfl, ?hi18q1z7x25⟩) (by assumption) ?ri18q1z7x25
            case hi18q1z7x25 => (intro w hSw; (try dsimp only at hSw); obtain ⟨l0, l1, l2⟩ := hSw; go_simp; try with_reducible rfl)
            (try simp only [Act.put, List.getElem_toArray, List.getElem_cons_zero, List.getElem_cons_succ, List.setIfInBounds_toArray, List.set_cons_zero, List.set_cons_succ])
            refine wpAnyH_take (i := 8) (v := ?vi18q1z8x28) rfl (by kernel_rfl) (by kernel_rfl) (by kernel_rfl) (fun _ _ _ h => h) (Or.inl ⟨by kernel_rfl, ?hi18q1z8x28⟩) (by assumption) ?ri18q1z8x28
            case hi18q1z8x28 => (intro w hSw; (try dsimp only at hSw); obtain ⟨l0, l1, l2⟩ := hSw; go_simp; try with_reducible rfl)
            (try simp only [Act.put, List.getElem_toArray, List.getElem_cons_zero, List.getElem_cons_succ, List.setIfInBounds_toArray, List.set_cons_zero, List.set_cons_succ])
            refine wpAnyH_take (i := 9) (v := ?vi18q1z9x31) rfl (by kernel_rfl) (by kernel_rfl) (by kernel_rfl) (fun _ _ _ h => h) (Or.inl ⟨by kernel_rfl, ?hi18q1z9x31⟩) (by assumption) ?ri18q1z9x31
            case hi18q1z9x31 => (intro w hSw; (try dsimp only at hSw); obtain ⟨l0, l1, l2⟩ := hSw; go_simp; try with_reducible rfl)
            (try simp only [Act.put, List.getElem_toArray, List.getElem_cons_zero, List.getElem_cons_succ, List.setIfInBounds_toArray, List.set_cons_zero, List.set_cons_succ])
            refine wpAnyH_take (i := 10) (v := ?vi18q1z10x34) rfl (by kernel_rfl) (by kernel_rfl) (by kernel_rfl) (fun _ _ _ h => h) (Or.inl ⟨by kernel_rfl, ?hi18q1z10x34⟩) (by assumption) ?ri18q1z10x34
            case hi18q1z10x34 => (intro w hSw; (try dsimp only at hSw); obtain ⟨l0, l1, l2⟩ := hSw; go_simp; try with_reducible rfl)
            (try simp only [Act.put, List.getElem_toArray, List.getElem_cons_zero, List.getElem_cons_succ, List.setIfInBounds_toArray, List.set_cons_zero, List.set_cons_succ])
            refine wpAnyH_ready (rs := [11]) (by kernel_rfl) (by simp) ?_
            refine AllReadyH.cons rfl (fun K hK => ?_) AllReadyH.nil
            obtain ⟨d0, d1, d2, d3⟩ := E.out.h.c4
            have f2 := (E.out.h.1 2 (by simp)).2
            have f3 := (E.out.h.1 3 (by simp)).2
            go_simp
            refine hK.out _ _ ?_ (fun hHeld => ?_)
            · (try dsimp only); exact HCz.out _ E.out
            clear hK K
            clear d0 d1 d2 d3 f2 f3
            refine wpAnyH_done (by kernel_rfl) ?_ _
            have E9 := hidb (E.out.put m1 (.slice ad1 L1 c1))
            clear E HCy HCz ixn ixh
            go_wp2
            go_roundw
            case rel => exact ⟨1, m1, _, by omega, by go_num, hidb ⟨E9.out, fun _ => ⟨rfl, rfl⟩⟩⟩
            case measure => simp [intOf]
          · clear hi
            obtain ⟨rfl, rfl⟩ := EE.out.2 rfl
            have E := hidb EE.out.1
            clear EE
            obtain ⟨y0, y1, y2⟩ := E.out.l.c3
            obtain ⟨x0, x1, x2⟩ := E.out.r.c3
            have f0 := (E.out.r.1 0 (by simp)).2
            have f1 := (E.out.r.1 1 (by simp)).2
            have f2 := (E.out.r.1 2 (by simp)).2
            have HZ : Hid (At (((wr.setCell ⟨XB + 1, 0, none⟩ (.slice (some ⟨HB, 0, none⟩) 2 2)).setCell ⟨XB + 1, 1, none⟩ (.bool mo)).setCell ⟨XB + 1, 2, none⟩ (.slice ado Lo cpo)) HB [.bool false, .slice none 0 0, .bool mh, .slice ad1 L1 c1] ∧ Nm (((wr.setCell ⟨XB + 1, 0, none⟩ (.slice (some ⟨HB, 0, none⟩) 2 2)).setCell ⟨XB + 1, 1, none⟩ (.bool mo)).setCell ⟨XB + 1, 2, none⟩ (.slice ado Lo cpo)) mh (.slice ad1 L1 c1) 3 ∧ Nm (((wr.setCell ⟨XB + 1, 0, none⟩ (.slice (some ⟨HB, 0, none⟩) 2 2)).setCell ⟨XB + 1, 1, none⟩ (.bool mo)).setCell ⟨XB + 1, 2, none⟩ (.slice ado Lo cpo)) mo (.slice ado Lo cpo) 1 ∧ w.heap.size ≤ HB ∧ Gr w (((wr.setCell ⟨XB + 1, 0, none⟩ (.slice (some ⟨HB, 0, none⟩) 2 2)).setCell ⟨XB + 1, 1, none⟩ (.bool mo)).setCell ⟨XB + 1, 2, none⟩ (.slice ado Lo cpo))) := by
              obtain ⟨b1, b2, b3, b4, b5, b6, b7⟩ := E.out.b
              exact ⟨((E.out.h.skip (fun e => b5 e.symm) _ _).skip (fun e => b5 e.symm) _ _).skip (fun e => b5 e.symm) _ _, E.out.q.z1.set3 E.out.r (nw_s _ _ _) (nw_s _ _ _), E.out.z.set3 E.out.r (nw_s _ _ _) (nw_s _ _ _), b1, ((E.out.gr.set b2 _ _).set b2 _ _).set b2 _ _⟩
            clear E
            go_wp2
            refine bodyPost_ret (v := .agg #[.slice (some ⟨HB, 0, none⟩) 2 2, .bool mo, .slice ado Lo cpo]) (by simp [results, Tryd.results20, go_sem, x0, x1, x2]) rfl ?_
            exact ⟨HB, mo, .slice ado Lo cpo, mh, .slice ad1 L1 c1, rfl, HZ.out⟩
      · skip
        go_simp
        refine hK.out _ _ ?_ (fun hHeld => ?_)
        · (try dsimp only); exact HCx.out _ (GG.out.alloc _)
        clear hK K
        have AL := hidb (At.new3 V (.slice none 0 0) (.bool false) (.slice none 0 0) 67)
        have HLb : Hid (W5.heap.size ≤ V.heap.size) := GG.out.out.size
        replace GG := hidb (GG.out.alloc (.cells #[.slice none 0 0, .bool false, .slice none 0 0] 67))
        obtain ⟨LB, hLB⟩ : ∃ z, z = V.heap.size := ⟨_, rfl⟩
        rw [← hLB] at AL HLb ⊢
        generalize V.alloc (.cells #[.slice none 0 0, .bool false, .slice none 0 0] 67) = Va at *
        clear hLB
        refine wpAnyH_ready (rs := [2]) (by kernel_rfl) (by simp) ?_
        refine AllReadyH.cons rfl (fun K hK => ?_) AllReadyH.nil
        go_simp
        refine hK.out _ _ ?_ (fun hHeld => ?_)
        · (try dsimp only); exact HCx.out _ (GG.out.alloc _)
        clear hK K
        have AL0 := AL
        have AH := hidb (At.newArr Va CN 65)
        have HHb : Hid (W5.heap.size ≤ Va.heap.size) := GG.out.out.size
        replace AL := hidb (AL.out.alloc (.cells CN 65))
        have HHL : Hid (¬ Va.heap.size = LB) := by have := AL0.out.lt; show ¬ _; omega
        replace GG := hidb (GG.out.alloc (.cells CN 65))
        obtain ⟨HB, hHB⟩ : ∃ z, z = Va.heap.size := ⟨_, rfl⟩
        rw [← hHB] at AH HHb HHL ⊢
        rw [hCN] at AH
        generalize Va.alloc (.cells CN 65) = Vam at *
        clear hHB
        clear AL0
        refine wpAnyH_take (i := 4) (v := ?vi14q4x196) rfl (by kernel_rfl) (by kernel_rfl) (by kernel_rfl) (fun _ _ _ h => h) (Or.inl ⟨by kernel_rfl, ?hi14q4x196⟩) (by assumption) ?ri14q4x196
        case hi14q4x196 => (intro w hSw; (try dsimp only at hSw); obtain ⟨⟨z0, z1, z2⟩, o0, o1⟩ := hSw; go_simp; try with_reducible rfl)
        (try simp only [Act.put, List.getElem_toArray, List.getElem_cons_zero, List.getElem_cons_succ, List.setIfInBounds_toArray, List.set_cons_zero, List.set_cons_succ])
        refine wpAnyH_ready (rs := [6]) (by kernel_rfl) (by simp) ?_
        refine AllReadyH.cons rfl (fun K hK => ?_) AllReadyH.nil
        obtain ⟨d0, d1, d2⟩ := AL.out.c3
        have f0 := (AL.out.1 0 (by simp)).2
        have f1 := (AL.out.1 1 (by simp)).2
        have f2 := (AL.out.1 2 (by simp)).2
        go_simp
        refine hK.out _ _ ?_ (fun hHeld => ?_)
        · (try dsimp only); exact HCx.out _ (((GG.out.set HLb.out _ _).set HLb.out _ _).set HLb.out _ _)
        clear hK K
        clear d0 d1 d2 f0 f1 f2
        refine wpAnyH_done (by kernel_rfl) ?_ _
        have E0 : Hid (LT w (((Vam.setCell ⟨LB, 0, none⟩ (.slice (some ⟨HB, 0, none⟩) 2 2)).setCell ⟨LB, 1, none⟩ (.bool mo)).setCell ⟨LB, 2, none⟩ (.slice ado Lo cpo)) (XB + 1) LB HB OV g g2 cp2 m0 m1 mo false (.slice ad0 L0 c0) (.slice ad1 L1 c1) (.slice ado Lo cpo) (.slice none 0 0)) := by
          have hq := HE.out.1.below GG.out.out
          have hlt := HE.out.1.lt
          have hR := At.below (Gr.step HE.out.2.1 GG.out.out).out PX.out.2.1
          have hRl := (At.below HE.out.2.1.out PX.out.2.1).lt
          have hw := (Gr.step PX.out.2.2 HE.out.2.1.out).out.size
          have h1 := HHb.out
          have h2 := HLb.out
          have h3 := HXw.out
          have hA : At Vam HB [.bool false, .slice none 0 0, .bool false, .slice none 0 0] := by simpa [nuL] using AH.out
          refine ⟨(((Gr.step (Gr.step PX.out.2.2 HE.out.2.1.out) GG.out.out).set (by omega) _ _).set (by omega) _ _).set (by omega) _ _, hq.set3 ⟨by omega, by omega⟩ AL.out (nw_s _ _ _) (nw_s _ _ _), ((hR.skip (by omega) _ _).skip (by omega) _ _).skip (by omega) _ _, ((AL.out.put 0 _).put 1 _).put 2 _, ((hA.skip (fun e => HHL.out e.symm) _ _).skip (fun e => HHL.out e.symm) _ _).skip (fun e => HHL.out e.symm) _ _, (HE.out.2.2.2.below GG.out.out).set3 AL.out (nw_s _ _ _) (nw_s _ _ _), by omega, by omega, by omega, by omega, by omega, HHL.out, by omega⟩
        clear GG AH AL HHL HHb HLb HE HCx
        generalize ((Vam.setCell ⟨LB, 0, none⟩ (.slice (some ⟨HB, 0, none⟩) 2 2)).setCell ⟨LB, 1, none⟩ (.bool mo)).setCell ⟨LB, 2, none⟩ (.slice ado Lo cpo) = W6 at *
        go_wp2
        go_loopw [56] (fun t wr => ∃ (i : Nat) (mh : Bool) (vh : Value), i ≤ 1 ∧ t = .int .i64 (i : Int) ∧ Hid (LT w wr (XB + 1) LB HB OV g g2 cp2 m0 m1 mo mh (.slice ad0 L0 c0) (.slice ad1 L1 c1) (.slice ado Lo cpo) vh ∧ (i = 1 → mh = m1 ∧ vh = .slice ad1 L1 c1))) (fun t _ => 1 - (intOf t).toNat)
        case atStart => exact ⟨0, false, .slice none 0 0, by omega, rfl, hidb ⟨E0.out, fun e => by omega⟩⟩
        case round =>
          clear E0
          obtain ⟨i, mh, vh, hi, rfl, EE⟩ := hrel
          have hi2 : i = 0 ∨ i = 1 := by omega
          rcases hi2 with rfl | rfl
          · clear hi
            have E := hidb EE.out.1
            clear EE
            have q0 := E.out.q.c
            have e1 : IntKind.i64.wrap 1 = 1 := by decide
            have ixr := nsindex g 0 1 cp 0 (by decide)
            push_cast at ixr
            (try simp only [Nat.add_zero] at ixr)
            have ixn := nuindex g2 0 2 cp2 1 (by decide)
            have ixh := nuindex HB 0 2 2 1 (by decide)
            push_cast at ixn ixh
            (try simp only [Nat.zero_add, Nat.one_mul] at ixn ixh)
            have HCy : Hid (∀ W', LT w W' (XB + 1) LB HB OV g g2 cp2 m0 m1 mo mh (.slice ad0 L0 c0) (.slice ad1 L1 c1) (.slice ado Lo cpo) vh → (fun w' => (w'.cell? ⟨LB, 0, none⟩ = some (.slice (some ⟨HB, 0, none⟩) 2 2)) ∧ w'.cell? ⟨g2, 2, none⟩ = some (.bool m1) ∧ w'.cell? ⟨g2, 3, none⟩ = some (.slice ad1 L1 c1)) W') := fun W' h => ⟨h.l.c3.1, h.q.d.2⟩
            have HCz : Hid (∀ W', LT w W' (XB + 1) LB HB OV g g2 cp2 m0 m1 mo mh (.slice ad0 L0 c0) (.slice ad1 L1 c1) (.slice ado Lo cpo) vh → (fun w' => (w'.cell? ⟨LB, 0, none⟩ = some (.slice (some ⟨HB, 0, none⟩) 2 2)) ∧ w'.cell? ⟨g2, 2, none⟩ = some (.bool m1) ∧ w'.cell? ⟨g2, 3, none⟩ = some (.slice ad1 L1 c1)) ((W'.setCell ⟨HB, 2, none⟩ (.bool m1)).setCell ⟨HB, 3, none⟩ (.slice ad1 L1 c1))) := fun W' h => ⟨(h.put m1 (.slice ad1 L1 c1)).l.c3.1, (h.put m1 (.slice ad1 L1 c1)).q.d.2⟩
            go_upto_region 18 with fail
            clear q0 ixr
            refine wp_region_held_drew (S := (fun w' => (w'.cell? ⟨LB, 0, none⟩ = some (.slice (some ⟨HB, 0, none⟩) 2 2)) ∧ w'.cell? ⟨g2, 2, none⟩ = some (.bool m1) ∧ w'.cell? ⟨g2, 3, none⟩ = some (.slice ad1 L1 c1))) (by kernel_rfl) ?_ (fun hHeld => ?_)
            · (try dsimp only); exact HCy.out _ E.out.drew
            replace E := hidb E.out.drew
            generalize World.drew _ = V8 at *
            refine wpAnyH_take (i := 0) (v := ?vi18q2z0x4) rfl (by kernel_rfl) (by kernel_rfl) (by kernel_rfl) (fun _ _ _ h => h) (Or.inl ⟨by kernel_rfl, ?hi18q2z0x4⟩) (by assumption) ?ri18q2z0x4
            case hi18q2z0x4 => (intro w hSw; (try dsimp only at hSw); obtain ⟨l0, l1, l2⟩ := hSw; go_simp; try with_reducible rfl)
            (try simp only [Act.put, List.getElem_toArray, List.getElem_cons_zero, List.setIfInBounds_toArray, List.set_cons_zero, List.set_cons_succ])
            refine wpAnyH_take (i := 1) (v := ?vi18q2z1x7) rfl (by kernel_rfl) (by kernel_rfl) (by kernel_rfl) (fun _ _ _ h => h) (Or.inl ⟨by kernel_rfl, ?hi18q2z1x7⟩) (by assumption) ?ri18q2z1x7
            case hi18q2z1x7 => (intro w hSw; (try dsimp only at hSw); obtain ⟨l0, l1, l2⟩ := hSw; go_simp; try with_reducible rfl)
            (try simp only [Act.put, List.getElem_toArray, List.getElem_cons_zero, List.getElem_cons_succ, List.setIfInBounds_toArray, List.set_cons_zero, List.set_cons_succ])
            refine wpAnyH_take (i := 2) (v := ?vi18q2z2x10) rfl (by kernel_rfl) (by kernel_rfl) (by kernel_rfl) (fun _ _ _ h => h) (Or.inl ⟨by kernel_rfl, ?hi18q2z2x10⟩) (by assumption) ?ri18q2z2x10
            case hi18q2z2x10 => (intro w hSw; (try dsimp only at hSw); obtain ⟨l0, l1, l2⟩ := hSw; go_simp; try with_reducible rfl)
            (try simp only [Act.put, List.getElem_toArray, List.getElem_cons_zero, List.getElem_cons_succ, List.setIfInBounds_toArray, List.set_cons_zero, List.set_cons_succ])
            refine wpAnyH_take (i := 3) (v := ?vi18q2z3x13) rfl (by kernel_rfl) (by kernel_rfl) (by kernel_rfl) (fun _ _ _ h => h) (Or.inl ⟨by kernel_rfl, ?hi18q2z3x13⟩) (by assumption) ?ri18q2z3x13
            case hi18q2z3x13 => (intro w hSw; (try dsimp only at hSw); obtain ⟨l0, l1, l2⟩ := hSw; go_simp; try with_reducible rfl)
            (try simp only [Act.put, List.getElem_toArray, List.getElem_cons_zero, List.getElem_cons_succ, List.setIfInBounds_toArray, List.set_cons_zero, List.set_cons_succ])
            refine wpAnyH_take (i := 4) (v := ?vi18q2z4x16) rfl (by kernel_rfl) (by kernel_rfl) (by kernel_rfl) (fun _ _ _ h => h) (Or.inl ⟨by kernel_rfl, ?hi18q2z4x16⟩) (by assumption) ?ri18q2z4x16
            case hi18q2z4x16 => (intro w hSw; (try dsimp only at hSw); obtain ⟨l0, l1, l2⟩ := hSw; go_simp; try with_reducible rfl)
            (try simp only [Act.put, List.getElem_toArray, List.getElem_cons_zero, List.getElem_cons_succ, List.setIfInBounds_toArray, List.set_cons_zero, List.set_cons_succ])
            refine wpAnyH_take (i := 5) (v := ?vi18q2z5x19) rfl (by kernel_rfl) (by kernel_rfl) (by kernel_rfl) (fun _ _ _ h => h) (Or.inl ⟨by kernel_rfl, ?hi18q2z5x19⟩) (by assumption) ?ri18q2z5x19
            case hi18q2z5x19 => (intro w hSw; (try dsimp only at hSw); obtain ⟨l0, l1, l2⟩ := hSw; go_simp; try with_reducible rfl)
            (try simp only [Act.put, List.getElem_toArray, List.getElem_cons_zero, List.getElem_cons_succ, List.setIfInBounds_toArray, List.set_cons_zero, List.set_cons_succ])
            refine wpAnyH_take (i := 6) (v := ?vi18q2z6x22) rfl (by kernel_rfl) (by kernel_rfl) (by kernel_rfl) (fun _ _ _ h => h) (Or.inl ⟨by kernel_rfl, ?hi18q2z6x22⟩) (by assumption) ?ri18q2z6x22
            case hi18q2z6x22 => (intro w hSw; (try dsimp only at hSw); obtain ⟨l0, l1, l2⟩ := hSw; go_simp; try with_reducible rfl)
            (try simp only [Act.put, List.getElem_toArray, List.getElem_cons_zero, List.getElem_cons_succ, List.setIfInBounds_toArray, List.set_cons_zero, List.set_cons_succ])
            refine wpAnyH_take (i := 7) (v := ?vi18q2z7x25) rfl (by kernel_rfl) (by kernel_rfl) (by kernel_rfl) (fun _ _ _ h => h) (Or.inl ⟨by kernel_rfl, ?hi18q2z7x25⟩) (by assumption) ?ri18q2z7x25
            case hi18q2z7x25 => (intro w hSw; (try dsimp only at hSw); obtain ⟨l0, l1, l2⟩ := hSw; go_simp; try with_reducible rfl)
            (try simp only [Act.put, List.getElem_toArray, List.getElem_cons_zero, List.getElem_cons_succ, List.setIfInBounds_toArray, List.set_cons_zero, List.set_cons_succ])
            refine wpAnyH_take (i := 8) (v := ?vi18q2z8x28) rfl (by kernel_rfl) (by kernel_rfl) (by kernel_rfl) (fun _ _ _ h => h) (Or.inl ⟨by kernel_rfl, ?hi18q2z8x28⟩) (by assumption) ?ri18q2z8x28
            case hi18q2z8x28 => (intro w hSw; (try dsimp only at hSw); obtain ⟨l0, l1, l2⟩ := hSw; go_simp; try with_reducible rfl)
            (try simp only [Act.put, List.getElem_toArray, List.getElem_cons_zero, List.getElem_cons_succ, List.setIfInBounds_toArray, List.set_cons_zero, List.set_cons_succ])
            refine wpAnyH_take (i := 9) (v := ?vi18q2z9x31) rfl (by kernel_rfl) (by kernel_rfl) (by kernel_rfl) (fun _ _ _ h => h) (Or.inl ⟨by kernel_rfl, ?hi18q2z9x31⟩) (by assumption) ?ri18q2z9x31
            case hi18q2z9x31 => (intro w hSw; (try dsimp only at hSw); obtain ⟨l0, l1, l2⟩ := hSw; go_simp; try with_reducible rfl)
            (try simp only [Act.put, List.getElem_toArray, List.getElem_cons_zero, List.getElem_cons_succ, List.setIfInBounds_toArray, List.set_cons_zero, List.set_cons_succ])
            refine wpAnyH_take (i := 10) (v := ?vi18q2z10x34) rfl (by kernel_rfl) (by kernel_rfl) (by kernel_rfl) (fun _ _ _ h => h) (Or.inl ⟨by kernel_rfl, ?hi18q2z10x34⟩) (by assumption) ?ri18q2z10x34
            case hi18q2z10x34 => (intro w hSw; (try dsimp only at hSw); obtain ⟨l0, l1, l2⟩ := hSw; go_simp; try with_reducible rfl)
            (try simp only [Act.put, List.getElem_toArray, List.getElem_cons_zero, List.getElem_cons_succ, List.setIfInBounds_toArray, List.set_cons_zero, List.set_cons_succ])
            refine wpAnyH_ready (rs := [11]) (by kernel_rfl) (by simp) ?_
            refine AllReadyH.cons rfl (fun K hK => ?_) AllReadyH.nil
            obtain ⟨d0, d1, d2, d3⟩ := E.out.h.c4
            have f2 := (E.out.h.1 2 (by simp)).2
            have f3 := (E.out.h.1 3 (by simp)).2
            go_simp
            refine hK.out _ _ ?_ (fun hHeld => ?_)
            · (try dsimp only); exact HCz.out _ E.out
            clear hK K
            clear d0 d1 d2 d3 f2 f3
            refine wpAnyH_done (by kernel_rfl) ?_ _
            have E9 := hidb (E.out.put m1 (.slice ad1 L1 c1))
            clear E HCy HCz ixn ixh
            go_wp2
            go_roundw
            case rel => exact ⟨1, m1, _, by omega, by go_num, hidb ⟨E9.out, fun _ => ⟨rfl, rfl⟩⟩⟩
            case measure => simp [intOf]
          · clear hi
            obtain ⟨rfl, rfl⟩ := EE.out.2 rfl
            have E := hidb EE.out.1
            clear EE
            obtain ⟨y0, y1, y2⟩ := E.out.l.c3
            obtain ⟨x0, x1, x2⟩ := E.out.r.c3
            have f0 := (E.out.r.1 0 (by simp)).2
            have f1 := (E.out.r.1 1 (by simp)).2
            have f2 := (E.out.r.1 2 (by simp)).2
            have HZ : Hid (At (((wr.setCell ⟨XB + 1, 0, none⟩ (.slice (some ⟨HB, 0, none⟩) 2 2)).setCell ⟨XB + 1, 1, none⟩ (.bool mo)).setCell ⟨XB + 1, 2, none⟩ (.slice ado Lo cpo)) HB [.bool false, .slice none 0 0, .bool mh, .slice ad1 L1 c1] ∧ Nm (((wr.setCell ⟨XB + 1, 0, none⟩ (.slice (some ⟨HB, 0, none⟩) 2 2)).setCell ⟨XB + 1, 1, none⟩ (.bool mo)).setCell ⟨XB + 1, 2, none⟩ (.slice ado Lo cpo)) mh (.slice ad1 L1 c1) 3 ∧ Nm (((wr.setCell ⟨XB + 1, 0, none⟩ (.slice (some ⟨HB, 0, none⟩) 2 2)).setCell ⟨XB + 1, 1, none⟩ (.bool mo)).setCell ⟨XB + 1, 2, none⟩ (.slice ado Lo cpo)) mo (.slice ado Lo cpo) 1 ∧ w.heap.size ≤ HB ∧ Gr w (((wr.setCell ⟨XB + 1, 0, none⟩ (.slice (some ⟨HB, 0, none⟩) 2 2)).setCell ⟨XB + 1, 1, none⟩ (.bool mo)).setCell ⟨XB + 1, 2, none⟩ (.slice ado Lo cpo))) := by
              obtain ⟨b1, b2, b3, b4, b5, b6, b7⟩ := E.out.b
              exact ⟨((E.out.h.skip (fun e => b5 e.symm) _ _).skip (fun e => b5 e.symm) _ _).skip (fun e => b5 e.symm) _ _, E.out.q.z1.set3 E.out.r (nw_s _ _ _) (nw_s _ _ _), E.out.z.set3 E.out.r (nw_s _ _ _) (nw_s _ _ _), b1, ((E.out.gr.set b2 _ _).set b2 _ _).set b2 _ _⟩
            clear E
            go_wp2
            refine bodyPost_ret (v := .agg #[.slice (some ⟨HB, 0, none⟩) 2 2, .bool mo, .slice ado Lo cpo]) (by simp [results, Tryd.results20, go_sem, x0, x1, x2]) rfl ?_
            exact ⟨HB, mo, .slice ado Lo cpo, mh, .slice ad1 L1 c1, rfl, HZ.out⟩
end Go.Proofs.YtecmkjefoppbiaaDoor
