/-
  survey.Survey's Adjust, of two marks and one way; mercatorlaw3.adjusts.
-/
import Derived.Test.YtecmkjefoppbiaaDoorQSwI
namespace Go.Proofs.YtecmkjefoppbiaaDoor
open Go.RowKit
attribute [local go_sem ↓] Go.wp_at_zero Go.wp_at_succ

theorem al_one : alE (edL [x1s]) 2 := fun x hx => by
  have hx2 : x = 0 ∨ x = 1 := by omega
  rcases hx2 with rfl | rfl
  · exact .z
  · exact .a .z ⟨0, by decide, by decide, rfl⟩
theorem svc_one : svc 2 7 [x1s] = 0 := svc_0 (M := 2) (by decide) (by decide) ft_one al_one
theorem heights_two (g : Nat → Addr) (w : World) {HB : Nat} {mo mh : Bool} {vo vh : Value} (hA : At w HB [.bool false, .slice none 0 0, .bool mh, vh]) (hz : Nm w mh vh 3) (ho : Nm w mo vo 1) (hl : Laid w g) : Calls Tryd.prog 21 #[.agg #[.slice (some ⟨HB, 0, none⟩) 2 2, .bool mo, vo], .int .i64 7] w fun e w' => ∃ OB, e = .returned (.tuple #[.slice (some ⟨OB, 0, none⟩) 2 2, .nilIface]) ∧ w'.cell? ⟨OB, 2, none⟩ = some (.int .i64 10) ∧ Gr w w' := by
  have hw : 100 ≤ wlid := by decide +kernel
  obtain ⟨c0, c1, c2, c3⟩ := hA.c4
  have hLV : LV w HB 2 (fun j => if j = 0 then false else mh) (fun j => if j = 0 then .slice none 0 0 else vh) (fun j => if j = 0 then 0 else 3) mo vo 1 := by
    refine ⟨fun j hj => ?_, hA.lt, fun j hj => ?_, ho⟩
    · have hj2 : j = 0 ∨ j = 1 := by omega
      rcases hj2 with rfl | rfl
      · exact ⟨c0, c1⟩
      · exact ⟨c2, c3⟩
    · have hj2 : j = 0 ∨ j = 1 := by omega
      rcases hj2 with rfl | rfl
      · exact ⟨.inl ⟨rfl, WH.dn_zero⟩, rfl⟩
      · exact hz
  refine (sheights_any g w hLV (by decide) (by decide) 7 (by decide) (Nat.lt_of_lt_of_le (by decide) hw) (Nat.lt_of_lt_of_le (by decide) hw) (fun j hj => Nat.lt_of_lt_of_le (show _ < 100 from ?_) hw) (fun j hj => Nat.lt_of_lt_of_le (show _ < 100 from ?_) hw) hl).mono ?_
  · (try dsimp only)
    split <;> decide
  · (try dsimp only)
    split <;> decide
  · have q0 : qe g (7 * 1 + 0) 1 = .nilIface := by unfold qe re; rw [if_pos (by decide +kernel)]
    have q1 : qe g (7 * 1 + 3) 1 = .nilIface := by unfold qe re; rw [if_pos (by decide +kernel)]
    rintro e w' ⟨⟨OB, rfl, -, hf, -⟩ | ⟨⟨j, hj, hn⟩, -⟩, hG⟩
    · have h1 := (hf.cl 1 (by decide)).1.1
      have e10 : qx (7 * 1 + 3) 1 = 10 := by decide +kernel
      refine ⟨OB, rfl, ?_, hG⟩
      rw [← e10]
      exact h1
    · exfalso
      have hj2 : j = 0 ∨ j = 1 := by omega
      rcases hj2 with rfl | rfl
      · exact hn q0
      · exact hn q1
set_option maxRecDepth 4000 in
set_option maxHeartbeats 16000000 in
theorem sadjust_two (g : Nat → Addr) {ad : Option Addr} {b o cap : Nat} (w : World) (h : SeL 32 w ad b o cap [x1s]) (hl : Laid w g) : Calls Tryd.prog 12 #[svV 2 7 (.slice ad 1 cap)] w fun e w' => ∃ OB, e = .returned (.tuple #[.slice (some ⟨OB, 0, none⟩) 2 2, .nilIface]) ∧ w'.cell? ⟨OB, 2, none⟩ = some (.int .i64 10) ∧ Gr w w' := by
  obtain ⟨XB, hXB⟩ : ∃ z, z = w.heap.size := ⟨_, rfl⟩
  have PX : Hid (At (w.alloc (.cells #[.int .i64 2, .int .i64 7, .slice ad 1 cap] 34)) XB [.int .i64 2, .int .i64 7, .slice ad 1 cap] ∧ Gr w (w.alloc (.cells #[.int .i64 2, .int .i64 7, .slice ad 1 cap] 34))) := ⟨At.at3 hXB _ _ _ _, (Gr.refl w).alloc _⟩
  have HV := hidb (fun W (hG : Gr w W) => svalid_any g 2 7 [x1s] W (h.below hG.out) (hl.below hG.out))
  rw [svc_one] at HV
  have HLw := hidb (fun W (hG : Gr w W) => slevel_two W (h.below hG.out) 7)
  have HLx := hidb hl
  unfold svV at HV HLw ⊢
  clear h hl
  go_enter Tryd.func12, Tryd.ntmps12
  go_upto_region 1 with fail
  rw [← hXB]
  generalize w.alloc (.cells #[.int .i64 2, .int .i64 7, .slice ad 1 cap] 34) = w1 at *
  clear hXB
  obtain ⟨z0, z1, z2⟩ := PX.out.1.c3
  go_wp2_with fail
  refine (HV.out _ PX.out.2).mono ?_
  rintro e w2 ⟨rfl, hB⟩
  rw [show evc g 0 = Value.nilIface from rfl]
  have E2 := hidb (show At w2 XB [.int .i64 2, .int .i64 7, .slice ad 1 cap] ∧ Gr w w2 from ⟨At.below hB.out PX.out.1, Gr.step PX.out.2 hB.out⟩)
  clear hB z0 z1 z2 HV PX
  go_upto_region 4 with fail
  have HCx : Hid (∀ W', Gr w2 W' → (fun w' => w'.cell? ⟨XB, 0, none⟩ = some (.int .i64 2) ∧ w'.cell? ⟨XB, 1, none⟩ = some (.int .i64 7) ∧ w'.cell? ⟨XB, 2, none⟩ = some (.slice ad 1 cap)) W') := fun W' hG => (At.below hG.out E2.out.1).c3
  have HLv := hidb (fun W' (hG : Gr w2 W') => HLw.out W' (Gr.step E2.out.2 hG.out))
  have HLa := hidb (fun W' (hG : Gr w2 W') => HLx.out.below (Gr.step E2.out.2 hG.out).out)
  have GG := hidb (Gr.refl w2)
  clear HLw HLx
  refine wp_region_held_drew (S := (fun w' => w'.cell? ⟨XB, 0, none⟩ = some (.int .i64 2) ∧ w'.cell? ⟨XB, 1, none⟩ = some (.int .i64 7) ∧ w'.cell? ⟨XB, 2, none⟩ = some (.slice ad 1 cap))) (by kernel_rfl) ?_ (fun hHeld => ?_)
  · (try dsimp only); exact HCx.out _ GG.out.drew
  replace GG := hidb GG.out.drew
  generalize World.drew _ = V0 at *
  refine wpAnyH_take (i := 0) (v := ?vj4q0x4) rfl (by kernel_rfl) (by kernel_rfl) (by kernel_rfl) (fun _ _ _ h => h) (Or.inl ⟨by kernel_rfl, ?hj4q0x4⟩) (by assumption) ?rj4q0x4
  case hj4q0x4 => (intro w hSw; (try dsimp only at hSw); obtain ⟨z0, z1, z2⟩ := hSw; go_simp; try with_reducible rfl)
  (try simp only [Act.put, List.getElem_toArray, List.getElem_cons_zero, List.setIfInBounds_toArray, List.set_cons_zero, List.set_cons_succ])
  refine wpAnyH_take (i := 2) (v := ?vj4q2x7) rfl (by kernel_rfl) (by kernel_rfl) (by kernel_rfl) (fun _ _ _ h => h) (Or.inl ⟨by kernel_rfl, ?hj4q2x7⟩) (by assumption) ?rj4q2x7
  case hj4q2x7 => (intro w hSw; (try dsimp only at hSw); obtain ⟨z0, z1, z2⟩ := hSw; go_simp; try with_reducible rfl)
  (try simp only [Act.put, List.getElem_toArray, List.getElem_cons_zero, List.getElem_cons_succ, List.setIfInBounds_toArray, List.set_cons_zero, List.set_cons_succ])
  refine wpAnyH_take (i := 3) (v := ?vj4q3x10) rfl (by kernel_rfl) (by kernel_rfl) (by kernel_rfl) (fun _ _ _ h => h) (Or.inl ⟨by kernel_rfl, ?hj4q3x10⟩) (by assumption) ?rj4q3x10
  case hj4q3x10 => (intro w hSw; (try dsimp only at hSw); obtain ⟨z0, z1, z2⟩ := hSw; go_simp; try with_reducible rfl)
  (try simp only [Act.put, List.getElem_toArray, List.getElem_cons_zero, List.getElem_cons_succ, List.setIfInBounds_toArray, List.set_cons_zero, List.set_cons_succ])
  refine wpAnyH_ready (rs := [1]) (by kernel_rfl) (by simp) ?_
  refine AllReadyH.cons rfl (fun K hK => ?_) AllReadyH.nil
  go_simp
  go_wp2_with (go_at_call 20; refine (HLv.out _ GG.out).mono ?_; rintro e V1 ⟨HB, mo, vo, mh, vh, rfl, k1, k2, k3, -, k4⟩)
  refine hK.out _ _ ?_ (fun hHeld => ?_)
  · (try dsimp only); exact HCx.out _ (Gr.step GG.out k4)
  clear hK K
  replace GG := hidb (Gr.step GG.out k4)
  have KV := hidb (And.intro k1 (And.intro k2 k3))
  clear k1 k2 k3 k4
  refine wpAnyH_ready (rs := [4]) (by kernel_rfl) (by simp) ?_
  refine AllReadyH.cons rfl (fun K hK => ?_) AllReadyH.nil
  have HHt := hidb (heights_two (vh := vh) g V1 KV.out.1 KV.out.2.1 KV.out.2.2 (HLa.out _ GG.out))
  go_simp
  go_wp2_with (go_at_call 21; refine HHt.out.mono ?_; rintro e V2 ⟨OB, rfl, k1, k2⟩)
  refine hK.out _ _ ?_ (fun hHeld => ?_)
  · (try dsimp only); exact HCx.out _ (Gr.step GG.out k2)
  clear hK K
  replace GG := hidb (Gr.step GG.out k2)
  have K9 := hidb k1
  clear k1 k2 HHt
  refine wpAnyH_take (i := 5) (v := ?vj4q5x34) rfl (by kernel_rfl) (by kernel_rfl) (by kernel_rfl) (fun _ _ _ h => h) (Or.inl ⟨by kernel_rfl, ?hj4q5x34⟩) (by assumption) ?rj4q5x34
  case hj4q5x34 => (intro w hSw; (try dsimp only at hSw); obtain ⟨z0, z1, z2⟩ := hSw; go_simp; try with_reducible rfl)
  (try simp only [Act.put, List.getElem_toArray, List.getElem_cons_zero, List.getElem_cons_succ, List.setIfInBounds_toArray, List.set_cons_zero, List.set_cons_succ])
  refine wpAnyH_take (i := 6) (v := ?vj4q6x37) rfl (by kernel_rfl) (by kernel_rfl) (by kernel_rfl) (fun _ _ _ h => h) (Or.inl ⟨by kernel_rfl, ?hj4q6x37⟩) (by assumption) ?rj4q6x37
  case hj4q6x37 => (intro w hSw; (try dsimp only at hSw); obtain ⟨z0, z1, z2⟩ := hSw; go_simp; try with_reducible rfl)
  (try simp only [Act.put, List.getElem_toArray, List.getElem_cons_zero, List.getElem_cons_succ, List.setIfInBounds_toArray, List.set_cons_zero, List.set_cons_succ])
  refine wpAnyH_take (i := 7) (v := ?vj4q7x40) rfl (by kernel_rfl) (by kernel_rfl) (by kernel_rfl) (fun _ _ _ h => h) (Or.inl ⟨by kernel_rfl, ?hj4q7x40⟩) (by assumption) ?rj4q7x40
  case hj4q7x40 => (intro w hSw; (try dsimp only at hSw); obtain ⟨z0, z1, z2⟩ := hSw; go_simp; try with_reducible rfl)
  (try simp only [Act.put, List.getElem_toArray, List.getElem_cons_zero, List.getElem_cons_succ, List.setIfInBounds_toArray, List.set_cons_zero, List.set_cons_succ])
  refine wpAnyH_take (i := 8) (v := ?vj4q8x43) rfl (by kernel_rfl) (by kernel_rfl) (by kernel_rfl) (fun _ _ _ h => h) (Or.inl ⟨by kernel_rfl, ?hj4q8x43⟩) (by assumption) ?rj4q8x43
  case hj4q8x43 => (intro w hSw; (try dsimp only at hSw); obtain ⟨z0, z1, z2⟩ := hSw; go_simp; try with_reducible rfl)
  (try simp only [Act.put, List.getElem_toArray, List.getElem_cons_zero, List.getElem_cons_succ, List.setIfInBounds_toArray, List.set_cons_zero, List.set_cons_succ])
  refine wpAnyH_done (by kernel_rfl) ?_ _
  have HZ := hidb (Gr.step E2.out.2 GG.out.out)
  clear GG KV
  go_wp2
  exact bodyPost_ret (v := .tuple #[.slice (some ⟨OB, 0, none⟩) 2 2, .nilIface]) (by simp [results, Tryd.results12, go_sem]) rfl ⟨OB, rfl, K9.out, HZ.out⟩
set_option maxRecDepth 4000 in
set_option maxHeartbeats 16000000 in
theorem adjusts_any (g : Nat → Addr) (w : World) (hl : Laid w g) : Calls Tryd.prog 4 #[] w fun e w' => e = .returned (.bool true) ∧ Gr w w' := by
  obtain ⟨b, hb⟩ : ∃ z, z = w.heap.size := ⟨_, rfl⟩
  have A0 := At.newRow w [.int .i64 0, .int .i64 1, .int .i64 3, .int .i64 1] 47
  have G0 := (Gr.refl w).alloc (.cells #[.int .i64 0, .int .i64 1, .int .i64 3, .int .i64 1] 47)
  have hS : SeL 32 (w.alloc (.cells #[.int .i64 0, .int .i64 1, .int .i64 3, .int .i64 1] 47)) (some ⟨b, 0, none⟩) b 0 1 [x1s] := by
    rw [hb]
    refine ⟨fun k hk => ?_, fun k hk w => seindex _ 1 1 k hk w⟩
    obtain rfl : k = 0 := by simpa using hk
    obtain ⟨c0, c1, c2, c3⟩ := A0.c4
    exact ⟨⟨c0, c1, c2, c3⟩, A0.lt⟩
  have HA := hidb (sadjust_two g _ hS (hl.below G0.out))
  have HG0 := hidb G0
  rw [hb] at HA
  unfold svV at HA
  clear hb A0 G0 hS hl
  go_enter Tryd.func4, Tryd.ntmps4
  go_wp2_with fail
  refine HA.out.mono ?_
  rintro e w2 ⟨OB, rfl, k1, k2⟩
  have HG := hidb (Gr.step HG0.out k2)
  have ix := frindex OB 2 2 1 (by decide)
  push_cast at ix
  (try simp only [Nat.one_mul] at ix)
  clear k2 HA HG0
  go_wp2
  go_ret
  exact ⟨rfl, HG.out⟩
end Go.Proofs.YtecmkjefoppbiaaDoor
