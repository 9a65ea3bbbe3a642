/-
  survey.Survey's between.
-/
import Derived.Test.YtecmkjefoppbiaaDoorQJ23
namespace Go.Proofs.YtecmkjefoppbiaaDoor
open Go.RowKit
attribute [local go_sem ↓] Go.wp_at_zero Go.wp_at_succ

/-- A way there, and another one back. -/
def btL (P Q : List Int) : List Int := P ++ Q.reverse.map (fun z => -z)
/-- So many are in a slice. -/
def slN : Value → Nat
  | .slice _ n _ => n
  | _ => 0
section
variable {l : List Sn} {M : Nat} {ad : Option Addr} {b o cap : Nat}
set_option maxRecDepth 4000 in
set_option maxHeartbeats 8000000 in
theorem sbetween_any (w : World) (h : SeL 32 w ad b o cap l) {WB : Nat} {s : BS} (hT : TR w WB M l s) (B : Int) {x y : Nat} (hx : x ∈ s.ord) (hy : y ∈ s.ord) : Calls Tryd.prog 15 #[svV M B (.slice ad l.length cap), .slice (some ⟨WB, 0, none⟩) M M, .int .i64 (x : Int), .int .i64 (y : Int)] w fun e w' => ∃ v base P Q C, hoL (edL l) s x = P ++ C ∧ hoL (edL l) s y = Q ++ C ∧ (P = [] ∨ Q = [] ∨ ¬ P.getLast? = Q.getLast?) ∧ e = .returned v ∧ w'.ownsRow base 3 1 v (btL P Q).length (ir (btL P Q)) ∧ w.heap.size ≤ base ∧ base ≤ w'.heap.size ∧ Gr w w' := by
  have HHo := hidb (fun (W : World) (hG : Gr w W) (z : Nat) (hz : z ∈ s.ord) => shome_any W (h.below hG.out) (hT.below hG.out) B hz)
  have HL : Hid ((hoL (edL l) s x).length ≤ 12 ∧ (hoL (edL l) s y).length ≤ 12) := ⟨Nat.le_trans (ho_len hT.i hx) hT.m.2, Nat.le_trans (ho_len hT.i hy) hT.m.2⟩
  have HWy : Hid (∀ z ∈ hoL (edL l) s y, -60 ≤ z ∧ z ≤ 60) := fun z hz => by
    unfold hoL at hz
    obtain ⟨v, hv, rfl⟩ := List.mem_map.1 hz
    obtain ⟨j, hj, rfl⟩ := ord_at hy
    obtain ⟨P, Q, e⟩ := List.append_of_mem hv
    obtain ⟨-, p2, p3⟩ := ph_tail hT.i (Nat.le_refl _) j hj P v Q e
    have := (ho_step hT.i p2 p3).2.2.2
    rw [ed_len] at this
    have := hT.n
    omega
  have HX := hidb hx
  have HY := hidb hy
  unfold svV at HHo ⊢
  generalize hH1 : hoL (edL l) s x = H1 at HL
  generalize hH2 : hoL (edL l) s y = H2 at HL HWy
  have HH : Hid (hoL (edL l) s x = H1 ∧ hoL (edL l) s y = H2) := ⟨hH1, hH2⟩
  generalize l.length = n at *
  clear h hT hx hy hH1 hH2
  have PX : Hid (At (w.alloc (.cells #[.int .i64 (M : Int), .int .i64 B, .slice ad n cap] 34)) w.heap.size [.int .i64 (M : Int), .int .i64 B, .slice ad n cap] ∧ Gr w (w.alloc (.cells #[.int .i64 (M : Int), .int .i64 B, .slice ad n cap] 34))) := ⟨At.new3 _ _ _ _ _, (Gr.refl w).alloc _⟩
  go_enter Tryd.func15, Tryd.ntmps15
  go_upto_region 1 with fail
  generalize w.alloc (.cells #[.int .i64 (M : Int), .int .i64 B, .slice ad n cap] 34) = w1 at *
  obtain ⟨SB, hSB⟩ : ∃ z, z = w.heap.size := ⟨_, rfl⟩
  rw [← hSB] at PX ⊢
  have HCx : Hid (∀ W', Gr w1 W' → (fun w' => w'.cell? ⟨SB, 0, none⟩ = some (.int .i64 (M : Int)) ∧ w'.cell? ⟨SB, 1, none⟩ = some (.int .i64 B) ∧ w'.cell? ⟨SB, 2, none⟩ = some (.slice ad n cap)) W') := fun W' hG => (At.below hG.out PX.out.1).c3
  have GG : Hid (Gr w w1 ∧ Gr w1 w1) := ⟨PX.out.2, Gr.refl _⟩
  clear hSB PX
  refine wp_region_held_drew (S := (fun w' => w'.cell? ⟨SB, 0, none⟩ = some (.int .i64 (M : Int)) ∧ w'.cell? ⟨SB, 1, none⟩ = some (.int .i64 B) ∧ w'.cell? ⟨SB, 2, none⟩ = some (.slice ad n cap))) (by kernel_rfl) ?_ (fun hHeld => ?_)
  · (try dsimp only); exact HCx.out _ GG.out.2.drew
  replace GG := hidb (show Gr w w1.drew ∧ Gr w1 w1.drew from ⟨GG.out.1.drew, GG.out.2.drew⟩)
  have HD0 : Hid (Gr w w1.drew ∧ Gr w1 w1.drew) := GG
  generalize w1.drew = V0 at *
  refine wpAnyH_take (i := 0) (v := ?vb1q0x5) rfl (by kernel_rfl) (by kernel_rfl) (by kernel_rfl) (fun _ _ _ h => h) (Or.inl ⟨by kernel_rfl, ?hb1q0x5⟩) (by assumption) ?rb1q0x5
  case hb1q0x5 => (intro w hSw; (try dsimp only at hSw); obtain ⟨z0, z1, z2⟩ := hSw; go_simp; try with_reducible rfl)
  (try simp only [Act.put, List.getElem_toArray, List.getElem_cons_zero, List.setIfInBounds_toArray, List.set_cons_zero, List.set_cons_succ])
  refine wpAnyH_take (i := 1) (v := ?vb1q1x8) rfl (by kernel_rfl) (by kernel_rfl) (by kernel_rfl) (fun _ _ _ h => h) (Or.inl ⟨by kernel_rfl, ?hb1q1x8⟩) (by assumption) ?rb1q1x8
  case hb1q1x8 => (intro w hSw; (try dsimp only at hSw); obtain ⟨z0, z1, z2⟩ := hSw; go_simp; try with_reducible rfl)
  (try simp only [Act.put, List.getElem_toArray, List.getElem_cons_zero, List.getElem_cons_succ, List.setIfInBounds_toArray, List.set_cons_zero, List.set_cons_succ])
  refine wpAnyH_take (i := 2) (v := ?vb1q2x11) rfl (by kernel_rfl) (by kernel_rfl) (by kernel_rfl) (fun _ _ _ h => h) (Or.inl ⟨by kernel_rfl, ?hb1q2x11⟩) (by assumption) ?rb1q2x11
  case hb1q2x11 => (intro w hSw; (try dsimp only at hSw); obtain ⟨z0, z1, z2⟩ := hSw; go_simp; try with_reducible rfl)
  (try simp only [Act.put, List.getElem_toArray, List.getElem_cons_zero, List.getElem_cons_succ, List.setIfInBounds_toArray, List.set_cons_zero, List.set_cons_succ])
  refine wpAnyH_take (i := 4) (v := ?vb1q4x14) rfl (by kernel_rfl) (by kernel_rfl) (by kernel_rfl) (fun _ _ _ h => h) (Or.inl ⟨by kernel_rfl, ?hb1q4x14⟩) (by assumption) ?rb1q4x14
  case hb1q4x14 => (intro w hSw; (try dsimp only at hSw); obtain ⟨z0, z1, z2⟩ := hSw; go_simp; try with_reducible rfl)
  (try simp only [Act.put, List.getElem_toArray, List.getElem_cons_zero, List.getElem_cons_succ, List.setIfInBounds_toArray, List.set_cons_zero, List.set_cons_succ])
  refine wpAnyH_take (i := 5) (v := ?vb1q5x17) rfl (by kernel_rfl) (by kernel_rfl) (by kernel_rfl) (fun _ _ _ h => h) (Or.inl ⟨by kernel_rfl, ?hb1q5x17⟩) (by assumption) ?rb1q5x17
  case hb1q5x17 => (intro w hSw; (try dsimp only at hSw); obtain ⟨z0, z1, z2⟩ := hSw; go_simp; try with_reducible rfl)
  (try simp only [Act.put, List.getElem_toArray, List.getElem_cons_zero, List.getElem_cons_succ, List.setIfInBounds_toArray, List.set_cons_zero, List.set_cons_succ])
  refine wpAnyH_take (i := 6) (v := ?vb1q6x20) rfl (by kernel_rfl) (by kernel_rfl) (by kernel_rfl) (fun _ _ _ h => h) (Or.inl ⟨by kernel_rfl, ?hb1q6x20⟩) (by assumption) ?rb1q6x20
  case hb1q6x20 => (intro w hSw; (try dsimp only at hSw); obtain ⟨z0, z1, z2⟩ := hSw; go_simp; try with_reducible rfl)
  (try simp only [Act.put, List.getElem_toArray, List.getElem_cons_zero, List.getElem_cons_succ, List.setIfInBounds_toArray, List.set_cons_zero, List.set_cons_succ])
  refine wpAnyH_ready (rs := [3]) (by kernel_rfl) (by simp) ?_
  refine AllReadyH.cons rfl (fun K hK => ?_) AllReadyH.nil
  go_simp
  go_wp2_with (go_at_call 25; refine (HHo.out _ GG.out.1 x HX.out).mono ?_; rintro e V1 ⟨v1, bv1, rfl, k1, k2, k3, k4⟩)
  refine hK.out _ _ ?_ (fun hHeld => ?_)
  · (try dsimp only); exact HCx.out _ (Gr.step GG.out.2 k4.out)
  clear hK K
  rw [HH.out.1] at k1
  have R1 := hidb (show V1.ownsRow bv1 3 1 v1 H1.length (ir H1) ∧ w.heap.size ≤ bv1 ∧ bv1 ≤ V1.heap.size from ⟨k1, Nat.le_trans GG.out.1.out.size k2, k3⟩)
  replace GG := hidb (show Gr w V1 ∧ Gr w1 V1 from ⟨Gr.step GG.out.1 k4.out, Gr.step GG.out.2 k4.out⟩)
  clear k1 k2 k3 k4
  refine wpAnyH_ready (rs := [7]) (by kernel_rfl) (by simp) ?_
  refine AllReadyH.cons rfl (fun K hK => ?_) AllReadyH.nil
  go_simp
  go_wp2_with (go_at_call 25; refine (HHo.out _ GG.out.1 y HY.out).mono ?_; rintro e V2 ⟨v2, bv2, rfl, k1, k2, k3, k4⟩)
  refine hK.out _ _ ?_ (fun hHeld => ?_)
  · (try dsimp only); exact HCx.out _ (Gr.step GG.out.2 k4.out)
  clear hK K
  rw [HH.out.2] at k1
  replace R1 := hidb (show V2.ownsRow bv1 3 1 v1 H1.length (ir H1) ∧ w.heap.size ≤ bv1 ∧ bv1 ≤ V2.heap.size ∧ (∀ g, v1.ownBlock = some g → g < bv2) from ⟨own_kept R1.out.1 k4, R1.out.2.1, Nat.le_trans R1.out.2.2 k4.out.size, fun g e => Nat.lt_of_lt_of_le (R1.out.1.lt g e).2 k2⟩)
  have R2 := hidb (show V2.ownsRow bv2 3 1 v2 H2.length (ir H2) ∧ w.heap.size ≤ bv2 from ⟨k1, Nat.le_trans GG.out.1.out.size k2⟩)
  replace GG := hidb (show Gr w V2 ∧ Gr w1 V2 from ⟨Gr.step GG.out.1 k4.out, Gr.step GG.out.2 k4.out⟩)
  clear k1 k2 k3 k4
  refine wpAnyH_take (i := 8) (v := ?vb1q8x46) rfl (by kernel_rfl) (by kernel_rfl) (by kernel_rfl) (fun _ _ _ h => h) (Or.inl ⟨by kernel_rfl, ?hb1q8x46⟩) (by assumption) ?rb1q8x46
  case hb1q8x46 => (intro w hSw; (try dsimp only at hSw); obtain ⟨z0, z1, z2⟩ := hSw; go_simp; try with_reducible rfl)
  (try simp only [Act.put, List.getElem_toArray, List.getElem_cons_zero, List.getElem_cons_succ, List.setIfInBounds_toArray, List.set_cons_zero, List.set_cons_succ])
  refine wpAnyH_take (i := 9) (v := ?vb1q9x49) rfl (by kernel_rfl) (by kernel_rfl) (by kernel_rfl) (fun _ _ _ h => h) (Or.inl ⟨by kernel_rfl, ?hb1q9x49⟩) (by assumption) ?rb1q9x49
  case hb1q9x49 => (intro w hSw; (try dsimp only at hSw); obtain ⟨z0, z1, z2⟩ := hSw; go_simp; try with_reducible rfl)
  (try simp only [Act.put, List.getElem_toArray, List.getElem_cons_zero, List.getElem_cons_succ, List.setIfInBounds_toArray, List.set_cons_zero, List.set_cons_succ])
  refine wpAnyH_done (by kernel_rfl) ?_ _
  have HD : Hid (∀ g, v1.ownBlock = some g → v2.ownBlock ≠ some g) := fun g e1 e2 => by
    have h1 := R1.out.2.2.2 g e1
    have h2 := (R2.out.1.lt g e2).1
    omega
  obtain ⟨ad1, cap1, rfl⟩ := own_sh R1.out.1
  obtain ⟨ad2, cap2, rfl⟩ := own_sh R2.out.1
  replace GG := hidb GG.out.1
  clear HD0 HCx HHo
  generalize hn1 : H1.length = n1 at *
  generalize hn2 : H2.length = n2 at *
  have HN : Hid (H1.length = n1 ∧ H2.length = n2) := ⟨hn1, hn2⟩
  clear hn1 hn2
  go_wp2
  go_loopw [9, 10] (fun a c wr => ∃ (P Q C : List Int) (q1 q2 : Nat), H1 = P ++ C ∧ H2 = Q ++ C ∧ q1 = P.length ∧ q2 = Q.length ∧ a = .slice ad1 q1 cap1 ∧ c = .slice ad2 q2 cap2 ∧ Hid (Gr V2 wr)) (fun a _ _ => slN a)
  case atStart => exact ⟨H1, H2, [], n1, n2, (List.append_nil _).symm, (List.append_nil _).symm, HN.out.1.symm, HN.out.2.symm, rfl, rfl, hidb (Gr.refl _)⟩
  case round =>
    obtain ⟨P, Q, C, q1, q2, e1, e2, hq1, hq2, rfl, rfl, E⟩ := hrel
    have HE := hidb (show H1 = P ++ C ∧ H2 = Q ++ C from ⟨e1, e2⟩)
    have HQ := hidb (show q1 = P.length ∧ q2 = Q.length from ⟨hq1, hq2⟩)
    have HT1 : Hid (∀ W', Gr V2 W' → W'.ownsRow bv1 3 1 (.slice ad1 q1 cap1) q1 (ir P) ∧ W'.ownsRow bv2 3 1 (.slice ad2 q2 cap2) q2 (ir Q)) := fun W' hG => by
      have h1 := own_kept R1.out.1 hG.out
      have h2 := own_kept R2.out.1 hG.out
      rw [e1] at h1
      rw [e2] at h2
      rw [hq1, hq2]
      exact ⟨own_first h1, own_first h2⟩
    have HDq : Hid (∀ g, Value.ownBlock (.slice ad1 q1 cap1) = some g → Value.ownBlock (.slice ad2 q2 cap2) ≠ some g) := by
      show ∀ g, _
      intro g e1 e2
      refine HD.out g ?_ ?_
      · cases ad1 <;> exact e1
      · cases ad2 <;> exact e2
    have HBd : Hid (q1 ≤ 12 ∧ q2 ≤ 12) := by
      have h1 := HL.out
      have h2 := HN.out
      rw [e1, e2, List.length_append, List.length_append] at h2
      show _ ∧ _
      omega
    clear e1 e2 hq1 hq2
    by_cases c1 : q1 = 0
    · have HS : Hid (P = [] ∨ Q = [] ∨ ¬ P.getLast? = Q.getLast?) := .inl (List.eq_nil_of_length_eq_zero (by rw [← HQ.out.1]; exact c1))
      have d1 : ¬ 0 < q1 := by omega
      clear c1
      go_upto_region 2 with fail
      refine wp_region_held_drew (S := (fun _ => True)) (by kernel_rfl) ?_ (fun hHeld => ?_)
      · (try dsimp only); (try exact trivial)
      replace E := hidb (E.out.drew)
      generalize World.drew _ = V3 at *
      refine wpAnyH_take (i := 0) (v := ?vs0q0x4) rfl (by kernel_rfl) (by kernel_rfl) (by kernel_rfl) (fun _ _ _ h => h) (Or.inl ⟨by kernel_rfl, ?hs0q0x4⟩) (by assumption) ?rs0q0x4
      case hs0q0x4 => (intro w hSw; (try dsimp only at hSw); go_simp; try with_reducible rfl)
      (try simp only [Act.put, List.getElem_toArray, List.getElem_cons_zero, List.setIfInBounds_toArray, List.set_cons_zero, List.set_cons_succ])
      refine wpAnyH_take (i := 1) (v := ?vs0q1x7) rfl (by kernel_rfl) (by kernel_rfl) (by kernel_rfl) (fun _ _ _ h => h) (Or.inl ⟨by kernel_rfl, ?hs0q1x7⟩) (by assumption) ?rs0q1x7
      case hs0q1x7 => (intro w hSw; (try dsimp only at hSw); go_simp; try with_reducible rfl)
      (try simp only [Act.put, List.getElem_toArray, List.getElem_cons_zero, List.getElem_cons_succ, List.setIfInBounds_toArray, List.set_cons_zero, List.set_cons_succ])
      refine wpAnyH_take (i := 2) (v := ?vs0q2x10) rfl (by kernel_rfl) (by kernel_rfl) (by kernel_rfl) (fun _ _ _ h => h) (Or.inl ⟨by kernel_rfl, ?hs0q2x10⟩) (by assumption) ?rs0q2x10
      case hs0q2x10 => (intro w hSw; (try dsimp only at hSw); go_simp; try with_reducible rfl)
      (try simp only [Act.put, List.getElem_toArray, List.getElem_cons_zero, List.getElem_cons_succ, List.setIfInBounds_toArray, List.set_cons_zero, List.set_cons_succ])
      refine wpAnyH_take (i := 3) (v := ?vs0q3x13) rfl (by kernel_rfl) (by kernel_rfl) (by kernel_rfl) (fun _ _ _ h => h) (Or.inl ⟨by kernel_rfl, ?hs0q3x13⟩) (by assumption) ?rs0q3x13
      case hs0q3x13 => (intro w hSw; (try dsimp only at hSw); go_simp; try with_reducible rfl)
      (try simp only [Act.put, List.getElem_toArray, List.getElem_cons_zero, List.getElem_cons_succ, List.setIfInBounds_toArray, List.set_cons_zero, List.set_cons_succ])
      refine wpAnyH_take (i := 4) (v := undef) rfl (by kernel_rfl) (by kernel_rfl) (by kernel_rfl) (fun _ _ _ h => h) (Or.inr ⟨by kernel_rfl, rfl⟩) (by assumption) ?_
      (try simp only [Act.put, List.getElem_toArray, List.getElem_cons_zero, List.getElem_cons_succ, List.setIfInBounds_toArray, List.set_cons_zero, List.set_cons_succ])
      refine wpAnyH_take (i := 5) (v := undef) rfl (by kernel_rfl) (by kernel_rfl) (by kernel_rfl) (fun _ _ _ h => h) (Or.inr ⟨by kernel_rfl, rfl⟩) (by assumption) ?_
      (try simp only [Act.put, List.getElem_toArray, List.getElem_cons_zero, List.getElem_cons_succ, List.setIfInBounds_toArray, List.set_cons_zero, List.set_cons_succ])
      refine wpAnyH_take (i := 6) (v := undef) rfl (by kernel_rfl) (by kernel_rfl) (by kernel_rfl) (fun _ _ _ h => h) (Or.inr ⟨by kernel_rfl, rfl⟩) (by assumption) ?_
      (try simp only [Act.put, List.getElem_toArray, List.getElem_cons_zero, List.getElem_cons_succ, List.setIfInBounds_toArray, List.set_cons_zero, List.set_cons_succ])
      refine wpAnyH_take (i := 7) (v := ?vs0q7x22) rfl (by kernel_rfl) (by kernel_rfl) (by kernel_rfl) (fun _ _ _ h => h) (Or.inl ⟨by kernel_rfl, ?hs0q7x22⟩) (by assumption) ?rs0q7x22
      case hs0q7x22 => (intro w hSw; (try dsimp only at hSw); go_simp; try with_reducible rfl)
      (try simp only [Act.put, List.getElem_toArray, List.getElem_cons_zero, List.getElem_cons_succ, List.setIfInBounds_toArray, List.set_cons_zero, List.set_cons_succ])
      refine wpAnyH_take (i := 8) (v := ?vs0q8x25) rfl (by kernel_rfl) (by kernel_rfl) (by kernel_rfl) (fun _ _ _ h => h) (Or.inl ⟨by kernel_rfl, ?hs0q8x25⟩) (by assumption) ?rs0q8x25
      case hs0q8x25 => (intro w hSw; (try dsimp only at hSw); go_simp; try with_reducible rfl)
      (try simp only [Act.put, List.getElem_toArray, List.getElem_cons_zero, List.getElem_cons_succ, List.setIfInBounds_toArray, List.set_cons_zero, List.set_cons_succ])
      refine wpAnyH_take (i := 9) (v := undef) rfl (by kernel_rfl) (by kernel_rfl) (by kernel_rfl) (fun _ _ _ h => h) (Or.inr ⟨by kernel_rfl, rfl⟩) (by assumption) ?_
      (try simp only [Act.put, List.getElem_toArray, List.getElem_cons_zero, List.getElem_cons_succ, List.setIfInBounds_toArray, List.set_cons_zero, List.set_cons_succ])
      refine wpAnyH_take (i := 10) (v := undef) rfl (by kernel_rfl) (by kernel_rfl) (by kernel_rfl) (fun _ _ _ h => h) (Or.inr ⟨by kernel_rfl, rfl⟩) (by assumption) ?_
      (try simp only [Act.put, List.getElem_toArray, List.getElem_cons_zero, List.getElem_cons_succ, List.setIfInBounds_toArray, List.set_cons_zero, List.set_cons_succ])
      refine wpAnyH_take (i := 11) (v := undef) rfl (by kernel_rfl) (by kernel_rfl) (by kernel_rfl) (fun _ _ _ h => h) (Or.inr ⟨by kernel_rfl, rfl⟩) (by assumption) ?_
      (try simp only [Act.put, List.getElem_toArray, List.getElem_cons_zero, List.getElem_cons_succ, List.setIfInBounds_toArray, List.set_cons_zero, List.set_cons_succ])
      refine wpAnyH_take (i := 12) (v := undef) rfl (by kernel_rfl) (by kernel_rfl) (by kernel_rfl) (fun _ _ _ h => h) (Or.inr ⟨by kernel_rfl, rfl⟩) (by assumption) ?_
      (try simp only [Act.put, List.getElem_toArray, List.getElem_cons_zero, List.getElem_cons_succ, List.setIfInBounds_toArray, List.set_cons_zero, List.set_cons_succ])
      refine wpAnyH_take (i := 13) (v := undef) rfl (by kernel_rfl) (by kernel_rfl) (by kernel_rfl) (fun _ _ _ h => h) (Or.inr ⟨by kernel_rfl, rfl⟩) (by assumption) ?_
      (try simp only [Act.put, List.getElem_toArray, List.getElem_cons_zero, List.getElem_cons_succ, List.setIfInBounds_toArray, List.set_cons_zero, List.set_cons_succ])
      refine wpAnyH_take (i := 14) (v := undef) rfl (by kernel_rfl) (by kernel_rfl) (by kernel_rfl) (fun _ _ _ h => h) (Or.inr ⟨by kernel_rfl, rfl⟩) (by assumption) ?_
      (try simp only [Act.put, List.getElem_toArray, List.getElem_cons_zero, List.getElem_cons_succ, List.setIfInBounds_toArray, List.set_cons_zero, List.set_cons_succ])
      refine wpAnyH_take (i := 15) (v := undef) rfl (by kernel_rfl) (by kernel_rfl) (by kernel_rfl) (fun _ _ _ h => h) (Or.inr ⟨by kernel_rfl, rfl⟩) (by assumption) ?_
      (try simp only [Act.put, List.getElem_toArray, List.getElem_cons_zero, List.getElem_cons_succ, List.setIfInBounds_toArray, List.set_cons_zero, List.set_cons_succ])
      refine wpAnyH_take (i := 16) (v := undef) rfl (by kernel_rfl) (by kernel_rfl) (by kernel_rfl) (fun _ _ _ h => h) (Or.inr ⟨by kernel_rfl, rfl⟩) (by assumption) ?_
      (try simp only [Act.put, List.getElem_toArray, List.getElem_cons_zero, List.getElem_cons_succ, List.setIfInBounds_toArray, List.set_cons_zero, List.set_cons_succ])
      refine wpAnyH_take (i := 17) (v := undef) rfl (by kernel_rfl) (by kernel_rfl) (by kernel_rfl) (fun _ _ _ h => h) (Or.inr ⟨by kernel_rfl, rfl⟩) (by assumption) ?_
      (try simp only [Act.put, List.getElem_toArray, List.getElem_cons_zero, List.getElem_cons_succ, List.setIfInBounds_toArray, List.set_cons_zero, List.set_cons_succ])
      refine wpAnyH_take (i := 18) (v := undef) rfl (by kernel_rfl) (by kernel_rfl) (by kernel_rfl) (fun _ _ _ h => h) (Or.inr ⟨by kernel_rfl, rfl⟩) (by assumption) ?_
      (try simp only [Act.put, List.getElem_toArray, List.getElem_cons_zero, List.getElem_cons_succ, List.setIfInBounds_toArray, List.set_cons_zero, List.set_cons_succ])
      refine wpAnyH_take (i := 19) (v := undef) rfl (by kernel_rfl) (by kernel_rfl) (by kernel_rfl) (fun _ _ _ h => h) (Or.inr ⟨by kernel_rfl, rfl⟩) (by assumption) ?_
      (try simp only [Act.put, List.getElem_toArray, List.getElem_cons_zero, List.getElem_cons_succ, List.setIfInBounds_toArray, List.set_cons_zero, List.set_cons_succ])
      refine wpAnyH_take (i := 20) (v := undef) rfl (by kernel_rfl) (by kernel_rfl) (by kernel_rfl) (fun _ _ _ h => h) (Or.inr ⟨by kernel_rfl, rfl⟩) (by assumption) ?_
      (try simp only [Act.put, List.getElem_toArray, List.getElem_cons_zero, List.getElem_cons_succ, List.setIfInBounds_toArray, List.set_cons_zero, List.set_cons_succ])
      refine wpAnyH_take (i := 21) (v := undef) rfl (by kernel_rfl) (by kernel_rfl) (by kernel_rfl) (fun _ _ _ h => h) (Or.inr ⟨by kernel_rfl, rfl⟩) (by assumption) ?_
      (try simp only [Act.put, List.getElem_toArray, List.getElem_cons_zero, List.getElem_cons_succ, List.setIfInBounds_toArray, List.set_cons_zero, List.set_cons_succ])
      refine wpAnyH_take (i := 22) (v := ?vs0q22x54) rfl (by kernel_rfl) (by kernel_rfl) (by kernel_rfl) (fun _ _ _ h => h) (Or.inl ⟨by kernel_rfl, ?hs0q22x54⟩) (by assumption) ?rs0q22x54
      case hs0q22x54 => (intro w hSw; (try dsimp only at hSw); go_simp; try with_reducible rfl)
      (try simp only [Act.put, List.getElem_toArray, List.getElem_cons_zero, List.getElem_cons_succ, List.setIfInBounds_toArray, List.set_cons_zero, List.set_cons_succ])
      refine wpAnyH_done (by kernel_rfl) ?_ _
      have K1 := HT1.out _ E.out
      have HRv := hidb (rev_two (w := w) K1.1 K1.2 HDq.out (Gr.step GG.out E.out.out) ⟨R1.out.2.1, Nat.le_trans R1.out.2.2.1 E.out.out.size⟩ R2.out.2 (by have := HBd.out; omega))
      clear K1 HT1
      go_wp2_with fail
      refine HRv.out.mono ?_
      rintro e w4 ⟨rfl, g3, kB, kA⟩
      have E0 := hidb kB
      have HA3 := hidb kA
      clear kB kA HRv E
      go_wp2
      go_loopw [9, 58] (fun v t wr => ∃ (k q : Nat) (L : List Int), k ≤ q2 ∧ q = L.length ∧ t = .int .i64 (k : Int) ∧ Hid (BT w wr bv1 g3 v L Q.reverse ∧ L = P ++ (Q.reverse.take k).map (fun z => -z))) (fun _ t _ => q2 - (intOf t).toNat)
      case atStart => exact ⟨0, q1, P, Nat.zero_le _, HQ.out.1, rfl, hidb ⟨E0.out, by simp⟩⟩
      case round =>
        clear E0
        obtain ⟨k, q, L, hk, hq, rfl, E⟩ := hrel
        by_cases h1 : ¬ k < q2
        · have h1' : ¬ (k : Int) < (q2 : Int) := by omega
          have HL2 : Hid (L = btL P Q) := by
            show _ = P ++ Q.reverse.map (fun z => -z)
            rw [E.out.2, List.take_of_length_le (by rw [List.length_reverse, ← HQ.out.2]; omega)]
          have HZ : Hid (H1 = P ++ C ∧ H2 = Q ++ C ∧ wr.ownsRow bv1 3 1 u9 (btL P Q).length (ir (btL P Q)) ∧ w.heap.size ≤ bv1 ∧ bv1 ≤ wr.heap.size ∧ Gr w wr) := ⟨HE.out.1, HE.out.2, by rw [← HL2.out]; exact E.out.1.r, E.out.1.b.1, E.out.1.b.2, E.out.1.gr⟩
          clear h1 hk hq E
          go_wp2
          go_ret
          exact ⟨u9, bv1, P, Q, C, HZ.out.1, HZ.out.2.1, HS.out, rfl, HZ.out.2.2⟩
        · have h1' : (k : Int) < (q2 : Int) := by omega
          have H1k := hidb (show k < q2 by omega)
          obtain ⟨ad3, cap3, rfl⟩ := own_sh E.out.1.r
          have ix : ∀ w, (Instr.indexAt 28 (.slice ad2 q2 cap2) (.int .i64 (k : Int))).run Tryd.prog w = .ok (.pointer (some ⟨g3, k, none⟩)) w := fun w => by rw [HA3.out (by have := H1k.out; omega)]; exact indexI g3 q2 cap2 k H1k.out w
          have hkr : k < Q.reverse.length := by rw [List.length_reverse, ← HQ.out.2]; exact H1k.out
          have hcl := (E.out.1.y.resolve_left (fun e => by rw [e] at hkr; simp at hkr)).1.1 k (by simpa [ir] using hkr)
          have ck : wr.cell? ⟨g3, k, none⟩ = some (.int .i64 Q.reverse[k]) := by simpa [ir] using hcl.1
          have hz := HWy.out Q.reverse[k] (by rw [HE.out.2]; exact List.mem_append.2 (.inl (List.mem_reverse.1 (List.getElem_mem hkr))))
          have HL2 : Hid (P ++ (Q.reverse.take (k + 1)).map (fun z => -z) = L ++ [-Q.reverse[k]]) := by
            show _ = _
            rw [E.out.2, List.take_succ_eq_append_getElem hkr, List.map_append, List.append_assoc]
            rfl
          have e7 : IntKind.i64.wrap (-Q.reverse[k]) = -Q.reverse[k] := wr_in (by omega) (by omega)
          have e8 : IntKind.i64.wrap ((k : Int) + 1) = ((k + 1 : Nat) : Int) := by rw [show (k : Int) + 1 = ((k + 1 : Nat) : Int) by omega]; exact wr_in (by omega) (by have := HBd.out; have := H1k.out; omega)
          generalize Q.reverse[k] = z at *
          have HQ2 := hidb hq
          rw [← hq] at E ⊢
          have HR : Hid (wr.ownsRow bv1 3 1 (.slice ad3 q cap3) q (ir L) ∧ bv1 ≤ wr.heap.size) := ⟨by have := E.out.1.r; rw [← HQ2.out] at this; exact this, E.out.1.b.2⟩
          have HQl : Hid (q ≤ 20000) := by
            show _ ≤ _
            rw [HQ2.out, E.out.2, List.length_append, List.length_map, List.length_take]
            have h1 := HBd.out
            have h2 := HQ.out
            omega
          clear hz hkr hcl h1 hk hq
          go_upto_region 9 with (at_builtin; refine wpList_io _ bv1 (.slice ad3 q cap3) L (-z) q wr.heap.size _ _ rfl rfl rfl rfl HQl.out (own_kept HR.out.1 ((Below.refl _ _).alloc (Nat.le_refl _) _)) (At.at1 rfl _ _) (by have := HR.out.2; simp; omega) (wr.heap.size + 1) (by simp) ?_; intro g5 cap5 w5 hown hgrow hat)
          have E5 := hidb (BT.app E.out.1 HQ2.out hown.out hgrow.out hat.out)
          clear hown hgrow hat HR E ix ck
          go_wp2
          go_roundw
          case rel => exact ⟨k + 1, q + 1, L ++ [-z], H1k.out, by rw [List.length_append, HQ2.out]; rfl, by go_num, hidb ⟨E5.out, HL2.out.symm⟩⟩
          case measure => have := H1k.out; simp [intOf]; omega
    · have d1 : 0 < q1 := by omega
      by_cases c2 : q2 = 0
      · have HS : Hid (P = [] ∨ Q = [] ∨ ¬ P.getLast? = Q.getLast?) := .inr (.inl (List.eq_nil_of_length_eq_zero (by rw [← HQ.out.2]; exact c2)))
        have d2 : ¬ 0 < q2 := by omega
        clear c1 c2
        go_upto_region 2 with fail
        refine wp_region_held_drew (S := (fun _ => True)) (by kernel_rfl) ?_ (fun hHeld => ?_)
        · (try dsimp only); (try exact trivial)
        replace E := hidb (E.out.drew)
        generalize World.drew _ = V3 at *
        refine wpAnyH_take (i := 0) (v := ?vs1q0x4) rfl (by kernel_rfl) (by kernel_rfl) (by kernel_rfl) (fun _ _ _ h => h) (Or.inl ⟨by kernel_rfl, ?hs1q0x4⟩) (by assumption) ?rs1q0x4
        case hs1q0x4 => (intro w hSw; (try dsimp only at hSw); go_simp; try with_reducible rfl)
        (try simp only [Act.put, List.getElem_toArray, List.getElem_cons_zero, List.setIfInBounds_toArray, List.set_cons_zero, List.set_cons_succ])
        refine wpAnyH_take (i := 1) (v := ?vs1q1x7) rfl (by kernel_rfl) (by kernel_rfl) (by kernel_rfl) (fun _ _ _ h => h) (Or.inl ⟨by kernel_rfl, ?hs1q1x7⟩) (by assumption) ?rs1q1x7
        case hs1q1x7 => (intro w hSw; (try dsimp only at hSw); go_simp; try with_reducible rfl)
        (try simp only [Act.put, List.getElem_toArray, List.getElem_cons_zero, List.getElem_cons_succ, List.setIfInBounds_toArray, List.set_cons_zero, List.set_cons_succ])
        refine wpAnyH_take (i := 2) (v := ?vs1q2x10) rfl (by kernel_rfl) (by kernel_rfl) (by kernel_rfl) (fun _ _ _ h => h) (Or.inl ⟨by kernel_rfl, ?hs1q2x10⟩) (by assumption) ?rs1q2x10
        case hs1q2x10 => (intro w hSw; (try dsimp only at hSw); go_simp; try with_reducible rfl)
        (try simp only [Act.put, List.getElem_toArray, List.getElem_cons_zero, List.getElem_cons_succ, List.setIfInBounds_toArray, List.set_cons_zero, List.set_cons_succ])
        refine wpAnyH_take (i := 3) (v := ?vs1q3x13) rfl (by kernel_rfl) (by kernel_rfl) (by kernel_rfl) (fun _ _ _ h => h) (Or.inl ⟨by kernel_rfl, ?hs1q3x13⟩) (by assumption) ?rs1q3x13
        case hs1q3x13 => (intro w hSw; (try dsimp only at hSw); go_simp; try with_reducible rfl)
        (try simp only [Act.put, List.getElem_toArray, List.getElem_cons_zero, List.getElem_cons_succ, List.setIfInBounds_toArray, List.set_cons_zero, List.set_cons_succ])
        refine wpAnyH_take (i := 4) (v := ?vs1q4x16) rfl (by kernel_rfl) (by kernel_rfl) (by kernel_rfl) (fun _ _ _ h => h) (Or.inl ⟨by kernel_rfl, ?hs1q4x16⟩) (by assumption) ?rs1q4x16
        case hs1q4x16 => (intro w hSw; (try dsimp only at hSw); go_simp; try with_reducible rfl)
        (try simp only [Act.put, List.getElem_toArray, List.getElem_cons_zero, List.getElem_cons_succ, List.setIfInBounds_toArray, List.set_cons_zero, List.set_cons_succ])
        refine wpAnyH_take (i := 5) (v := ?vs1q5x19) rfl (by kernel_rfl) (by kernel_rfl) (by kernel_rfl) (fun _ _ _ h => h) (Or.inl ⟨by kernel_rfl, ?hs1q5x19⟩) (by assumption) ?rs1q5x19
        case hs1q5x19 => (intro w hSw; (try dsimp only at hSw); go_simp; try with_reducible rfl)
        (try simp only [Act.put, List.getElem_toArray, List.getElem_cons_zero, List.getElem_cons_succ, List.setIfInBounds_toArray, List.set_cons_zero, List.set_cons_succ])
        refine wpAnyH_take (i := 6) (v := ?vs1q6x22) rfl (by kernel_rfl) (by kernel_rfl) (by kernel_rfl) (fun _ _ _ h => h) (Or.inl ⟨by kernel_rfl, ?hs1q6x22⟩) (by assumption) ?rs1q6x22
        case hs1q6x22 => (intro w hSw; (try dsimp only at hSw); go_simp; try with_reducible rfl)
        (try simp only [Act.put, List.getElem_toArray, List.getElem_cons_zero, List.getElem_cons_succ, List.setIfInBounds_toArray, List.set_cons_zero, List.set_cons_succ])
        refine wpAnyH_take (i := 7) (v := ?vs1q7x25) rfl (by kernel_rfl) (by kernel_rfl) (by kernel_rfl) (fun _ _ _ h => h) (Or.inl ⟨by kernel_rfl, ?hs1q7x25⟩) (by assumption) ?rs1q7x25
        case hs1q7x25 => (intro w hSw; (try dsimp only at hSw); go_simp; try with_reducible rfl)
        (try simp only [Act.put, List.getElem_toArray, List.getElem_cons_zero, List.getElem_cons_succ, List.setIfInBounds_toArray, List.set_cons_zero, List.set_cons_succ])
        refine wpAnyH_take (i := 8) (v := ?vs1q8x28) rfl (by kernel_rfl) (by kernel_rfl) (by kernel_rfl) (fun _ _ _ h => h) (Or.inl ⟨by kernel_rfl, ?hs1q8x28⟩) (by assumption) ?rs1q8x28
        case hs1q8x28 => (intro w hSw; (try dsimp only at hSw); go_simp; try with_reducible rfl)
        (try simp only [Act.put, List.getElem_toArray, List.getElem_cons_zero, List.getElem_cons_succ, List.setIfInBounds_toArray, List.set_cons_zero, List.set_cons_succ])
        refine wpAnyH_take (i := 9) (v := undef) rfl (by kernel_rfl) (by kernel_rfl) (by kernel_rfl) (fun _ _ _ h => h) (Or.inr ⟨by kernel_rfl, rfl⟩) (by assumption) ?_
        (try simp only [Act.put, List.getElem_toArray, List.getElem_cons_zero, List.getElem_cons_succ, List.setIfInBounds_toArray, List.set_cons_zero, List.set_cons_succ])
        refine wpAnyH_take (i := 10) (v := undef) rfl (by kernel_rfl) (by kernel_rfl) (by kernel_rfl) (fun _ _ _ h => h) (Or.inr ⟨by kernel_rfl, rfl⟩) (by assumption) ?_
        (try simp only [Act.put, List.getElem_toArray, List.getElem_cons_zero, List.getElem_cons_succ, List.setIfInBounds_toArray, List.set_cons_zero, List.set_cons_succ])
        refine wpAnyH_take (i := 11) (v := undef) rfl (by kernel_rfl) (by kernel_rfl) (by kernel_rfl) (fun _ _ _ h => h) (Or.inr ⟨by kernel_rfl, rfl⟩) (by assumption) ?_
        (try simp only [Act.put, List.getElem_toArray, List.getElem_cons_zero, List.getElem_cons_succ, List.setIfInBounds_toArray, List.set_cons_zero, List.set_cons_succ])
        refine wpAnyH_take (i := 12) (v := undef) rfl (by kernel_rfl) (by kernel_rfl) (by kernel_rfl) (fun _ _ _ h => h) (Or.inr ⟨by kernel_rfl, rfl⟩) (by assumption) ?_
        (try simp only [Act.put, List.getElem_toArray, List.getElem_cons_zero, List.getElem_cons_succ, List.setIfInBounds_toArray, List.set_cons_zero, List.set_cons_succ])
        refine wpAnyH_take (i := 13) (v := undef) rfl (by kernel_rfl) (by kernel_rfl) (by kernel_rfl) (fun _ _ _ h => h) (Or.inr ⟨by kernel_rfl, rfl⟩) (by assumption) ?_
        (try simp only [Act.put, List.getElem_toArray, List.getElem_cons_zero, List.getElem_cons_succ, List.setIfInBounds_toArray, List.set_cons_zero, List.set_cons_succ])
        refine wpAnyH_take (i := 14) (v := undef) rfl (by kernel_rfl) (by kernel_rfl) (by kernel_rfl) (fun _ _ _ h => h) (Or.inr ⟨by kernel_rfl, rfl⟩) (by assumption) ?_
        (try simp only [Act.put, List.getElem_toArray, List.getElem_cons_zero, List.getElem_cons_succ, List.setIfInBounds_toArray, List.set_cons_zero, List.set_cons_succ])
        refine wpAnyH_take (i := 15) (v := undef) rfl (by kernel_rfl) (by kernel_rfl) (by kernel_rfl) (fun _ _ _ h => h) (Or.inr ⟨by kernel_rfl, rfl⟩) (by assumption) ?_
        (try simp only [Act.put, List.getElem_toArray, List.getElem_cons_zero, List.getElem_cons_succ, List.setIfInBounds_toArray, List.set_cons_zero, List.set_cons_succ])
        refine wpAnyH_take (i := 16) (v := undef) rfl (by kernel_rfl) (by kernel_rfl) (by kernel_rfl) (fun _ _ _ h => h) (Or.inr ⟨by kernel_rfl, rfl⟩) (by assumption) ?_
        (try simp only [Act.put, List.getElem_toArray, List.getElem_cons_zero, List.getElem_cons_succ, List.setIfInBounds_toArray, List.set_cons_zero, List.set_cons_succ])
        refine wpAnyH_take (i := 17) (v := undef) rfl (by kernel_rfl) (by kernel_rfl) (by kernel_rfl) (fun _ _ _ h => h) (Or.inr ⟨by kernel_rfl, rfl⟩) (by assumption) ?_
        (try simp only [Act.put, List.getElem_toArray, List.getElem_cons_zero, List.getElem_cons_succ, List.setIfInBounds_toArray, List.set_cons_zero, List.set_cons_succ])
        refine wpAnyH_take (i := 18) (v := undef) rfl (by kernel_rfl) (by kernel_rfl) (by kernel_rfl) (fun _ _ _ h => h) (Or.inr ⟨by kernel_rfl, rfl⟩) (by assumption) ?_
        (try simp only [Act.put, List.getElem_toArray, List.getElem_cons_zero, List.getElem_cons_succ, List.setIfInBounds_toArray, List.set_cons_zero, List.set_cons_succ])
        refine wpAnyH_take (i := 19) (v := undef) rfl (by kernel_rfl) (by kernel_rfl) (by kernel_rfl) (fun _ _ _ h => h) (Or.inr ⟨by kernel_rfl, rfl⟩) (by assumption) ?_
        (try simp only [Act.put, List.getElem_toArray, List.getElem_cons_zero, List.getElem_cons_succ, List.setIfInBounds_toArray, List.set_cons_zero, List.set_cons_succ])
        refine wpAnyH_take (i := 20) (v := undef) rfl (by kernel_rfl) (by kernel_rfl) (by kernel_rfl) (fun _ _ _ h => h) (Or.inr ⟨by kernel_rfl, rfl⟩) (by assumption) ?_
        (try simp only [Act.put, List.getElem_toArray, List.getElem_cons_zero, List.getElem_cons_succ, List.setIfInBounds_toArray, List.set_cons_zero, List.set_cons_succ])
        refine wpAnyH_take (i := 21) (v := undef) rfl (by kernel_rfl) (by kernel_rfl) (by kernel_rfl) (fun _ _ _ h => h) (Or.inr ⟨by kernel_rfl, rfl⟩) (by assumption) ?_
        (try simp only [Act.put, List.getElem_toArray, List.getElem_cons_zero, List.getElem_cons_succ, List.setIfInBounds_toArray, List.set_cons_zero, List.set_cons_succ])
        refine wpAnyH_take (i := 22) (v := ?vs1q22x57) rfl (by kernel_rfl) (by kernel_rfl) (by kernel_rfl) (fun _ _ _ h => h) (Or.inl ⟨by kernel_rfl, ?hs1q22x57⟩) (by assumption) ?rs1q22x57
        case hs1q22x57 => (intro w hSw; (try dsimp only at hSw); go_simp; try with_reducible rfl)
        (try simp only [Act.put, List.getElem_toArray, List.getElem_cons_zero, List.getElem_cons_succ, List.setIfInBounds_toArray, List.set_cons_zero, List.set_cons_succ])
        refine wpAnyH_done (by kernel_rfl) ?_ _
        clear d2
        have K1 := HT1.out _ E.out
        have HRv := hidb (rev_two (w := w) K1.1 K1.2 HDq.out (Gr.step GG.out E.out.out) ⟨R1.out.2.1, Nat.le_trans R1.out.2.2.1 E.out.out.size⟩ R2.out.2 (by have := HBd.out; omega))
        clear K1 HT1
        go_wp2_with fail
        refine HRv.out.mono ?_
        rintro e w4 ⟨rfl, g3, kB, kA⟩
        have E0 := hidb kB
        have HA3 := hidb kA
        clear kB kA HRv E
        go_wp2
        go_loopw [9, 58] (fun v t wr => ∃ (k q : Nat) (L : List Int), k ≤ q2 ∧ q = L.length ∧ t = .int .i64 (k : Int) ∧ Hid (BT w wr bv1 g3 v L Q.reverse ∧ L = P ++ (Q.reverse.take k).map (fun z => -z))) (fun _ t _ => q2 - (intOf t).toNat)
        case atStart => exact ⟨0, q1, P, Nat.zero_le _, HQ.out.1, rfl, hidb ⟨E0.out, by simp⟩⟩
        case round =>
          clear E0
          obtain ⟨k, q, L, hk, hq, rfl, E⟩ := hrel
          by_cases h1 : ¬ k < q2
          · have h1' : ¬ (k : Int) < (q2 : Int) := by omega
            have HL2 : Hid (L = btL P Q) := by
              show _ = P ++ Q.reverse.map (fun z => -z)
              rw [E.out.2, List.take_of_length_le (by rw [List.length_reverse, ← HQ.out.2]; omega)]
            have HZ : Hid (H1 = P ++ C ∧ H2 = Q ++ C ∧ wr.ownsRow bv1 3 1 u9 (btL P Q).length (ir (btL P Q)) ∧ w.heap.size ≤ bv1 ∧ bv1 ≤ wr.heap.size ∧ Gr w wr) := ⟨HE.out.1, HE.out.2, by rw [← HL2.out]; exact E.out.1.r, E.out.1.b.1, E.out.1.b.2, E.out.1.gr⟩
            clear h1 hk hq E
            go_wp2
            go_ret
            exact ⟨u9, bv1, P, Q, C, HZ.out.1, HZ.out.2.1, HS.out, rfl, HZ.out.2.2⟩
          · have h1' : (k : Int) < (q2 : Int) := by omega
            have H1k := hidb (show k < q2 by omega)
            obtain ⟨ad3, cap3, rfl⟩ := own_sh E.out.1.r
            have ix : ∀ w, (Instr.indexAt 28 (.slice ad2 q2 cap2) (.int .i64 (k : Int))).run Tryd.prog w = .ok (.pointer (some ⟨g3, k, none⟩)) w := fun w => by rw [HA3.out (by have := H1k.out; omega)]; exact indexI g3 q2 cap2 k H1k.out w
            have hkr : k < Q.reverse.length := by rw [List.length_reverse, ← HQ.out.2]; exact H1k.out
            have hcl := (E.out.1.y.resolve_left (fun e => by rw [e] at hkr; simp at hkr)).1.1 k (by simpa [ir] using hkr)
            have ck : wr.cell? ⟨g3, k, none⟩ = some (.int .i64 Q.reverse[k]) := by simpa [ir] using hcl.1
            have hz := HWy.out Q.reverse[k] (by rw [HE.out.2]; exact List.mem_append.2 (.inl (List.mem_reverse.1 (List.getElem_mem hkr))))
            have HL2 : Hid (P ++ (Q.reverse.take (k + 1)).map (fun z => -z) = L ++ [-Q.reverse[k]]) := by
              show _ = _
              rw [E.out.2, List.take_succ_eq_append_getElem hkr, List.map_append, List.append_assoc]
              rfl
            have e7 : IntKind.i64.wrap (-Q.reverse[k]) = -Q.reverse[k] := wr_in (by omega) (by omega)
            have e8 : IntKind.i64.wrap ((k : Int) + 1) = ((k + 1 : Nat) : Int) := by rw [show (k : Int) + 1 = ((k + 1 : Nat) : Int) by omega]; exact wr_in (by omega) (by have := HBd.out; have := H1k.out; omega)
            generalize Q.reverse[k] = z at *
            have HQ2 := hidb hq
            rw [← hq] at E ⊢
            have HR : Hid (wr.ownsRow bv1 3 1 (.slice ad3 q cap3) q (ir L) ∧ bv1 ≤ wr.heap.size) := ⟨by have := E.out.1.r; rw [← HQ2.out] at this; exact this, E.out.1.b.2⟩
            have HQl : Hid (q ≤ 20000) := by
              show _ ≤ _
              rw [HQ2.out, E.out.2, List.length_append, List.length_map, List.length_take]
              have h1 := HBd.out
              have h2 := HQ.out
              omega
            clear hz hkr hcl h1 hk hq
            go_upto_region 9 with (at_builtin; refine wpList_io _ bv1 (.slice ad3 q cap3) L (-z) q wr.heap.size _ _ rfl rfl rfl rfl HQl.out (own_kept HR.out.1 ((Below.refl _ _).alloc (Nat.le_refl _) _)) (At.at1 rfl _ _) (by have := HR.out.2; simp; omega) (wr.heap.size + 1) (by simp) ?_; intro g5 cap5 w5 hown hgrow hat)
            have E5 := hidb (BT.app E.out.1 HQ2.out hown.out hgrow.out hat.out)
            clear hown hgrow hat HR E ix ck
            go_wp2
            go_roundw
            case rel => exact ⟨k + 1, q + 1, L ++ [-z], H1k.out, by rw [List.length_append, HQ2.out]; rfl, by go_num, hidb ⟨E5.out, HL2.out.symm⟩⟩
            case measure => have := H1k.out; simp [intOf]; omega
      · have d2 : 0 < q2 := by omega
        obtain ⟨g1, cp1, hv1, hc1, hb1, -⟩ := own_there (HT1.out _ E.out).1 d1
        obtain ⟨g2, cp2, hv2, hc2, hb2, -⟩ := own_there (HT1.out _ E.out).2 d2
        simp only [Value.slice.injEq, true_and] at hv1 hv2
        obtain ⟨rfl, rfl⟩ := hv1
        obtain ⟨rfl, rfl⟩ := hv2
        obtain ⟨P', a, rfl⟩ : ∃ P' a, P = P' ++ [a] := (List.eq_nil_or_concat P).elim (fun e => by have := HQ.out.1; rw [e] at this; exact absurd this c1) (fun ⟨L, x, e⟩ => ⟨L, x, by simpa using e⟩)
        obtain ⟨Q', c, rfl⟩ : ∃ Q' c, Q = Q' ++ [c] := (List.eq_nil_or_concat Q).elim (fun e => by have := HQ.out.2; rw [e] at this; exact absurd this c2) (fun ⟨L, x, e⟩ => ⟨L, x, by simpa using e⟩)
        obtain ⟨p1, hp1⟩ : ∃ z, z = P'.length := ⟨_, rfl⟩
        obtain ⟨p2, hp2⟩ : ∃ z, z = Q'.length := ⟨_, rfl⟩
        have hq := HQ.out
        rw [List.length_append, List.length_append, ← hp1, ← hp2] at hq
        have hq' : q1 = p1 + 1 ∧ q2 = p2 + 1 := hq
        have HCy : Hid (∀ W', Gr V2 W' → (fun w' => w'.cell? ⟨g1, p1, none⟩ = some (.int .i64 a) ∧ w'.cell? ⟨g2, p2, none⟩ = some (.int .i64 c)) W') := fun W' hG => by
          have k1 := own_get (HT1.out W' hG).1 (j := p1) (by omega)
          have k2 := own_get (HT1.out W' hG).2 (j := p2) (by omega)
          rw [show (P' ++ [a]).getD p1 0 = a by rw [hp1]; simp] at k1
          rw [show (Q' ++ [c]).getD p2 0 = c by rw [hp2]; simp] at k2
          exact ⟨k1, k2⟩
        have i1 := indexI g1 q1 cap1 p1 (by omega)
        have i2 := indexI g2 q2 cap2 p2 (by omega)
        have j1 := isliceh g1 q1 cap1 p1 (by omega) hc1 (by omega)
        have j2 := isliceh g2 q2 cap2 p2 (by omega) hc2 (by omega)
        have e5 : IntKind.i64.wrap ((q1 : Int) - 1) = (p1 : Int) := by rw [show (q1 : Int) - 1 = (p1 : Int) by omega]; exact wr_in (by omega) (by have := HBd.out; omega)
        have e6 : IntKind.i64.wrap ((q2 : Int) - 1) = (p2 : Int) := by rw [show (q2 : Int) - 1 = (p2 : Int) by omega]; exact wr_in (by omega) (by have := HBd.out; omega)
        have HP : Hid (p1 = P'.length ∧ p2 = Q'.length ∧ p1 < q1) := ⟨hp1, hp2, by omega⟩
        clear hq hq' hp1 hp2 hc1 hc2 hb1 hb2 c1 c2
        go_upto_region 2 with fail
        refine wp_region_held_drew (S := (fun w' => w'.cell? ⟨g1, p1, none⟩ = some (.int .i64 a) ∧ w'.cell? ⟨g2, p2, none⟩ = some (.int .i64 c))) (by kernel_rfl) ?_ (fun hHeld => ?_)
        · (try dsimp only); exact HCy.out _ E.out.drew
        replace E := hidb (E.out.drew)
        generalize World.drew _ = V3 at *
        refine wpAnyH_take (i := 0) (v := ?vs2q0x4) rfl (by kernel_rfl) (by kernel_rfl) (by kernel_rfl) (fun _ _ _ h => h) (Or.inl ⟨by kernel_rfl, ?hs2q0x4⟩) (by assumption) ?rs2q0x4
        case hs2q0x4 => (intro w hSw; (try dsimp only at hSw); obtain ⟨z0, z1⟩ := hSw; go_simp; try with_reducible rfl)
        (try simp only [Act.put, List.getElem_toArray, List.getElem_cons_zero, List.setIfInBounds_toArray, List.set_cons_zero, List.set_cons_succ])
        refine wpAnyH_take (i := 1) (v := ?vs2q1x7) rfl (by kernel_rfl) (by kernel_rfl) (by kernel_rfl) (fun _ _ _ h => h) (Or.inl ⟨by kernel_rfl, ?hs2q1x7⟩) (by assumption) ?rs2q1x7
        case hs2q1x7 => (intro w hSw; (try dsimp only at hSw); obtain ⟨z0, z1⟩ := hSw; go_simp; try with_reducible rfl)
        (try simp only [Act.put, List.getElem_toArray, List.getElem_cons_zero, List.getElem_cons_succ, List.setIfInBounds_toArray, List.set_cons_zero, List.set_cons_succ])
        refine wpAnyH_take (i := 2) (v := ?vs2q2x10) rfl (by kernel_rfl) (by kernel_rfl) (by kernel_rfl) (fun _ _ _ h => h) (Or.inl ⟨by kernel_rfl, ?hs2q2x10⟩) (by assumption) ?rs2q2x10
        case hs2q2x10 => (intro w hSw; (try dsimp only at hSw); obtain ⟨z0, z1⟩ := hSw; go_simp; try with_reducible rfl)
        (try simp only [Act.put, List.getElem_toArray, List.getElem_cons_zero, List.getElem_cons_succ, List.setIfInBounds_toArray, List.set_cons_zero, List.set_cons_succ])
        refine wpAnyH_take (i := 3) (v := ?vs2q3x13) rfl (by kernel_rfl) (by kernel_rfl) (by kernel_rfl) (fun _ _ _ h => h) (Or.inl ⟨by kernel_rfl, ?hs2q3x13⟩) (by assumption) ?rs2q3x13
        case hs2q3x13 => (intro w hSw; (try dsimp only at hSw); obtain ⟨z0, z1⟩ := hSw; go_simp; try with_reducible rfl)
        (try simp only [Act.put, List.getElem_toArray, List.getElem_cons_zero, List.getElem_cons_succ, List.setIfInBounds_toArray, List.set_cons_zero, List.set_cons_succ])
        refine wpAnyH_take (i := 4) (v := ?vs2q4x16) rfl (by kernel_rfl) (by kernel_rfl) (by kernel_rfl) (fun _ _ _ h => h) (Or.inl ⟨by kernel_rfl, ?hs2q4x16⟩) (by assumption) ?rs2q4x16
        case hs2q4x16 => (intro w hSw; (try dsimp only at hSw); obtain ⟨z0, z1⟩ := hSw; go_simp; try with_reducible rfl)
        (try simp only [Act.put, List.getElem_toArray, List.getElem_cons_zero, List.getElem_cons_succ, List.setIfInBounds_toArray, List.set_cons_zero, List.set_cons_succ])
        refine wpAnyH_take (i := 5) (v := ?vs2q5x19) rfl (by kernel_rfl) (by kernel_rfl) (by kernel_rfl) (fun _ _ _ h => h) (Or.inl ⟨by kernel_rfl, ?hs2q5x19⟩) (by assumption) ?rs2q5x19
        case hs2q5x19 => (intro w hSw; (try dsimp only at hSw); obtain ⟨z0, z1⟩ := hSw; go_simp; try with_reducible rfl)
        (try simp only [Act.put, List.getElem_toArray, List.getElem_cons_zero, List.getElem_cons_succ, List.setIfInBounds_toArray, List.set_cons_zero, List.set_cons_succ])
        refine wpAnyH_take (i := 6) (v := ?vs2q6x22) rfl (by kernel_rfl) (by kernel_rfl) (by kernel_rfl) (fun _ _ _ h => h) (Or.inl ⟨by kernel_rfl, ?hs2q6x22⟩) (by assumption) ?rs2q6x22
        case hs2q6x22 => (intro w hSw; (try dsimp only at hSw); obtain ⟨z0, z1⟩ := hSw; go_simp; try with_reducible rfl)
        (try simp only [Act.put, List.getElem_toArray, List.getElem_cons_zero, List.getElem_cons_succ, List.setIfInBounds_toArray, List.set_cons_zero, List.set_cons_succ])
        refine wpAnyH_take (i := 7) (v := ?vs2q7x25) rfl (by kernel_rfl) (by kernel_rfl) (by kernel_rfl) (fun _ _ _ h => h) (Or.inl ⟨by kernel_rfl, ?hs2q7x25⟩) (by assumption) ?rs2q7x25
        case hs2q7x25 => (intro w hSw; (try dsimp only at hSw); obtain ⟨z0, z1⟩ := hSw; go_simp; try with_reducible rfl)
        (try simp only [Act.put, List.getElem_toArray, List.getElem_cons_zero, List.getElem_cons_succ, List.setIfInBounds_toArray, List.set_cons_zero, List.set_cons_succ])
        refine wpAnyH_take (i := 8) (v := ?vs2q8x28) rfl (by kernel_rfl) (by kernel_rfl) (by kernel_rfl) (fun _ _ _ h => h) (Or.inl ⟨by kernel_rfl, ?hs2q8x28⟩) (by assumption) ?rs2q8x28
        case hs2q8x28 => (intro w hSw; (try dsimp only at hSw); obtain ⟨z0, z1⟩ := hSw; go_simp; try with_reducible rfl)
        (try simp only [Act.put, List.getElem_toArray, List.getElem_cons_zero, List.getElem_cons_succ, List.setIfInBounds_toArray, List.set_cons_zero, List.set_cons_succ])
        refine wpAnyH_take (i := 9) (v := ?vs2q9x31) rfl (by kernel_rfl) (by kernel_rfl) (by kernel_rfl) (fun _ _ _ h => h) (Or.inl ⟨by kernel_rfl, ?hs2q9x31⟩) (by assumption) ?rs2q9x31
        case hs2q9x31 => (intro w hSw; (try dsimp only at hSw); obtain ⟨z0, z1⟩ := hSw; go_simp; try with_reducible rfl)
        (try simp only [Act.put, List.getElem_toArray, List.getElem_cons_zero, List.getElem_cons_succ, List.setIfInBounds_toArray, List.set_cons_zero, List.set_cons_succ])
        refine wpAnyH_take (i := 10) (v := ?vs2q10x34) rfl (by kernel_rfl) (by kernel_rfl) (by kernel_rfl) (fun _ _ _ h => h) (Or.inl ⟨by kernel_rfl, ?hs2q10x34⟩) (by assumption) ?rs2q10x34
        case hs2q10x34 => (intro w hSw; (try dsimp only at hSw); obtain ⟨z0, z1⟩ := hSw; go_simp; try with_reducible rfl)
        (try simp only [Act.put, List.getElem_toArray, List.getElem_cons_zero, List.getElem_cons_succ, List.setIfInBounds_toArray, List.set_cons_zero, List.set_cons_succ])
        refine wpAnyH_take (i := 11) (v := ?vs2q11x37) rfl (by kernel_rfl) (by kernel_rfl) (by kernel_rfl) (fun _ _ _ h => h) (Or.inl ⟨by kernel_rfl, ?hs2q11x37⟩) (by assumption) ?rs2q11x37
        case hs2q11x37 => (intro w hSw; (try dsimp only at hSw); obtain ⟨z0, z1⟩ := hSw; go_simp; try with_reducible rfl)
        (try simp only [Act.put, List.getElem_toArray, List.getElem_cons_zero, List.getElem_cons_succ, List.setIfInBounds_toArray, List.set_cons_zero, List.set_cons_succ])
        refine wpAnyH_take (i := 12) (v := ?vs2q12x40) rfl (by kernel_rfl) (by kernel_rfl) (by kernel_rfl) (fun _ _ _ h => h) (Or.inl ⟨by kernel_rfl, ?hs2q12x40⟩) (by assumption) ?rs2q12x40
        case hs2q12x40 => (intro w hSw; (try dsimp only at hSw); obtain ⟨z0, z1⟩ := hSw; go_simp; try with_reducible rfl)
        (try simp only [Act.put, List.getElem_toArray, List.getElem_cons_zero, List.getElem_cons_succ, List.setIfInBounds_toArray, List.set_cons_zero, List.set_cons_succ])
        refine wpAnyH_take (i := 13) (v := ?vs2q13x43) rfl (by kernel_rfl) (by kernel_rfl) (by kernel_rfl) (fun _ _ _ h => h) (Or.inl ⟨by kernel_rfl, ?hs2q13x43⟩) (by assumption) ?rs2q13x43
        case hs2q13x43 => (intro w hSw; (try dsimp only at hSw); obtain ⟨z0, z1⟩ := hSw; go_simp; try with_reducible rfl)
        (try simp only [Act.put, List.getElem_toArray, List.getElem_cons_zero, List.getElem_cons_succ, List.setIfInBounds_toArray, List.set_cons_zero, List.set_cons_succ])
        refine wpAnyH_take (i := 14) (v := ?vs2q14x46) rfl (by kernel_rfl) (by kernel_rfl) (by kernel_rfl) (fun _ _ _ h => h) (Or.inl ⟨by kernel_rfl, ?hs2q14x46⟩) (by assumption) ?rs2q14x46
        case hs2q14x46 => (intro w hSw; (try dsimp only at hSw); obtain ⟨z0, z1⟩ := hSw; go_simp; try with_reducible rfl)
        (try simp only [Act.put, List.getElem_toArray, List.getElem_cons_zero, List.getElem_cons_succ, List.setIfInBounds_toArray, List.set_cons_zero, List.set_cons_succ])
        refine wpAnyH_take (i := 15) (v := ?vs2q15x49) rfl (by kernel_rfl) (by kernel_rfl) (by kernel_rfl) (fun _ _ _ h => h) (Or.inl ⟨by kernel_rfl, ?hs2q15x49⟩) (by assumption) ?rs2q15x49
        case hs2q15x49 => (intro w hSw; (try dsimp only at hSw); obtain ⟨z0, z1⟩ := hSw; go_simp; try with_reducible rfl)
        (try simp only [Act.put, List.getElem_toArray, List.getElem_cons_zero, List.getElem_cons_succ, List.setIfInBounds_toArray, List.set_cons_zero, List.set_cons_succ])
        refine wpAnyH_take (i := 16) (v := ?vs2q16x52) rfl (by kernel_rfl) (by kernel_rfl) (by kernel_rfl) (fun _ _ _ h => h) (Or.inl ⟨by kernel_rfl, ?hs2q16x52⟩) (by assumption) ?rs2q16x52
        case hs2q16x52 => (intro w hSw; (try dsimp only at hSw); obtain ⟨z0, z1⟩ := hSw; go_simp; try with_reducible rfl)
        (try simp only [Act.put, List.getElem_toArray, List.getElem_cons_zero, List.getElem_cons_succ, List.setIfInBounds_toArray, List.set_cons_zero, List.set_cons_succ])
        refine wpAnyH_take (i := 17) (v := ?vs2q17x55) rfl (by kernel_rfl) (by kernel_rfl) (by kernel_rfl) (fun _ _ _ h => h) (Or.inl ⟨by kernel_rfl, ?hs2q17x55⟩) (by assumption) ?rs2q17x55
        case hs2q17x55 => (intro w hSw; (try dsimp only at hSw); obtain ⟨z0, z1⟩ := hSw; go_simp; try with_reducible rfl)
        (try simp only [Act.put, List.getElem_toArray, List.getElem_cons_zero, List.getElem_cons_succ, List.setIfInBounds_toArray, List.set_cons_zero, List.set_cons_succ])
        refine wpAnyH_take (i := 18) (v := ?vs2q18x58) rfl (by kernel_rfl) (by kernel_rfl) (by kernel_rfl) (fun _ _ _ h => h) (Or.inl ⟨by kernel_rfl, ?hs2q18x58⟩) (by assumption) ?rs2q18x58
        case hs2q18x58 => (intro w hSw; (try dsimp only at hSw); obtain ⟨z0, z1⟩ := hSw; go_simp; try with_reducible rfl)
        (try simp only [Act.put, List.getElem_toArray, List.getElem_cons_zero, List.getElem_cons_succ, List.setIfInBounds_toArray, List.set_cons_zero, List.set_cons_succ])
        refine wpAnyH_take (i := 19) (v := ?vs2q19x61) rfl (by kernel_rfl) (by kernel_rfl) (by kernel_rfl) (fun _ _ _ h => h) (Or.inl ⟨by kernel_rfl, ?hs2q19x61⟩) (by assumption) ?rs2q19x61
        case hs2q19x61 => (intro w hSw; (try dsimp only at hSw); obtain ⟨z0, z1⟩ := hSw; go_simp; try with_reducible rfl)
        (try simp only [Act.put, List.getElem_toArray, List.getElem_cons_zero, List.getElem_cons_succ, List.setIfInBounds_toArray, List.set_cons_zero, List.set_cons_succ])
        refine wpAnyH_take (i := 20) (v := ?vs2q20x64) rfl (by kernel_rfl) (by kernel_rfl) (by kernel_rfl) (fun _ _ _ h => h) (Or.inl ⟨by kernel_rfl, ?hs2q20x64⟩) (by assumption) ?rs2q20x64
        case hs2q20x64 => (intro w hSw; (try dsimp only at hSw); obtain ⟨z0, z1⟩ := hSw; go_simp; try with_reducible rfl)
        (try simp only [Act.put, List.getElem_toArray, List.getElem_cons_zero, List.getElem_cons_succ, List.setIfInBounds_toArray, List.set_cons_zero, List.set_cons_succ])
        refine wpAnyH_take (i := 21) (v := ?vs2q21x67) rfl (by kernel_rfl) (by kernel_rfl) (by kernel_rfl) (fun _ _ _ h => h) (Or.inl ⟨by kernel_rfl, ?hs2q21x67⟩) (by assumption) ?rs2q21x67
        case hs2q21x67 => (intro w hSw; (try dsimp only at hSw); obtain ⟨z0, z1⟩ := hSw; go_simp; try with_reducible rfl)
        (try simp only [Act.put, List.getElem_toArray, List.getElem_cons_zero, List.getElem_cons_succ, List.setIfInBounds_toArray, List.set_cons_zero, List.set_cons_succ])
        refine wpAnyH_take (i := 22) (v := ?vs2q22x70) rfl (by kernel_rfl) (by kernel_rfl) (by kernel_rfl) (fun _ _ _ h => h) (Or.inl ⟨by kernel_rfl, ?hs2q22x70⟩) (by assumption) ?rs2q22x70
        case hs2q22x70 => (intro w hSw; (try dsimp only at hSw); obtain ⟨z0, z1⟩ := hSw; go_simp; try with_reducible rfl)
        (try simp only [Act.put, List.getElem_toArray, List.getElem_cons_zero, List.getElem_cons_succ, List.setIfInBounds_toArray, List.set_cons_zero, List.set_cons_succ])
        refine wpAnyH_done (by kernel_rfl) ?_ _
        by_cases c5 : a = c
        · have q5 : (a == c) = true := by simpa using c5
          have HN2 : Hid (H1 = P' ++ a :: C ∧ H2 = Q' ++ a :: C) := ⟨by rw [HE.out.1, List.append_assoc]; rfl, by rw [HE.out.2, c5, List.append_assoc]; rfl⟩
          clear c5
          go_upto_region 3 with fail
          go_region
          go_wp2
          go_roundw
          case rel => exact ⟨P', Q', a :: C, p1, p2, HN2.out.1, HN2.out.2, HP.out.1, HP.out.2.1, rfl, rfl, hidb E.out.drew⟩
          case measure => have := HP.out.2.2; simpa [slN] using this
        · have q5 : (a == c) = false := by simpa using c5
          have HS : Hid (P' ++ [a] = [] ∨ Q' ++ [c] = [] ∨ ¬ (P' ++ [a]).getLast? = (Q' ++ [c]).getLast?) := .inr (.inr (fun e => c5 (by simpa using e)))
          clear c5 i1 i2 j1 j2 e5 e6 HCy HP
          generalize P' ++ [a] = P at *
          generalize Q' ++ [c] = Q at *
          generalize (some (⟨g1, 0, none⟩ : Addr)) = ad1 at *
          generalize (some (⟨g2, 0, none⟩ : Addr)) = ad2 at *
          have K1 := HT1.out _ E.out
          have HRv := hidb (rev_two (w := w) K1.1 K1.2 HDq.out (Gr.step GG.out E.out.out) ⟨R1.out.2.1, Nat.le_trans R1.out.2.2.1 E.out.out.size⟩ R2.out.2 (by have := HBd.out; omega))
          clear K1 HT1
          go_wp2_with fail
          refine HRv.out.mono ?_
          rintro e w4 ⟨rfl, g3, kB, kA⟩
          have E0 := hidb kB
          have HA3 := hidb kA
          clear kB kA HRv E
          go_wp2
          go_loopw [9, 58] (fun v t wr => ∃ (k q : Nat) (L : List Int), k ≤ q2 ∧ q = L.length ∧ t = .int .i64 (k : Int) ∧ Hid (BT w wr bv1 g3 v L Q.reverse ∧ L = P ++ (Q.reverse.take k).map (fun z => -z))) (fun _ t _ => q2 - (intOf t).toNat)
          case atStart => exact ⟨0, q1, P, Nat.zero_le _, HQ.out.1, rfl, hidb ⟨E0.out, by simp⟩⟩
          case round =>
            clear E0
            obtain ⟨k, q, L, hk, hq, rfl, E⟩ := hrel
            by_cases h1 : ¬ k < q2
            · have h1' : ¬ (k : Int) < (q2 : Int) := by omega
              have HL2 : Hid (L = btL P Q) := by
                show _ = P ++ Q.reverse.map (fun z => -z)
                rw [E.out.2, List.take_of_length_le (by rw [List.length_reverse, ← HQ.out.2]; omega)]
              have HZ : Hid (H1 = P ++ C ∧ H2 = Q ++ C ∧ wr.ownsRow bv1 3 1 u9 (btL P Q).length (ir (btL P Q)) ∧ w.heap.size ≤ bv1 ∧ bv1 ≤ wr.heap.size ∧ Gr w wr) := ⟨HE.out.1, HE.out.2, by rw [← HL2.out]; exact E.out.1.r, E.out.1.b.1, E.out.1.b.2, E.out.1.gr⟩
              clear h1 hk hq E
              go_wp2
              go_ret
              exact ⟨u9, bv1, P, Q, C, HZ.out.1, HZ.out.2.1, HS.out, rfl, HZ.out.2.2⟩
            · have h1' : (k : Int) < (q2 : Int) := by omega
              have H1k := hidb (show k < q2 by omega)
              obtain ⟨ad3, cap3, rfl⟩ := own_sh E.out.1.r
              have ix : ∀ w, (Instr.indexAt 28 (.slice ad2 q2 cap2) (.int .i64 (k : Int))).run Tryd.prog w = .ok (.pointer (some ⟨g3, k, none⟩)) w := fun w => by rw [HA3.out (by have := H1k.out; omega)]; exact indexI g3 q2 cap2 k H1k.out w
              have hkr : k < Q.reverse.length := by rw [List.length_reverse, ← HQ.out.2]; exact H1k.out
              have hcl := (E.out.1.y.resolve_left (fun e => by rw [e] at hkr; simp at hkr)).1.1 k (by simpa [ir] using hkr)
              have ck : wr.cell? ⟨g3, k, none⟩ = some (.int .i64 Q.reverse[k]) := by simpa [ir] using hcl.1
              have hz := HWy.out Q.reverse[k] (by rw [HE.out.2]; exact List.mem_append.2 (.inl (List.mem_reverse.1 (List.getElem_mem hkr))))
              have HL2 : Hid (P ++ (Q.reverse.take (k + 1)).map (fun z => -z) = L ++ [-Q.reverse[k]]) := by
                show _ = _
                rw [E.out.2, List.take_succ_eq_append_getElem hkr, List.map_append, List.append_assoc]
                rfl
              have e7 : IntKind.i64.wrap (-Q.reverse[k]) = -Q.reverse[k] := wr_in (by omega) (by omega)
              have e8 : IntKind.i64.wrap ((k : Int) + 1) = ((k + 1 : Nat) : Int) := by rw [show (k : Int) + 1 = ((k + 1 : Nat) : Int) by omega]; exact wr_in (by omega) (by have := HBd.out; have := H1k.out; omega)
              generalize Q.reverse[k] = z at *
              have HQ2 := hidb hq
              rw [← hq] at E ⊢
              have HR : Hid (wr.ownsRow bv1 3 1 (.slice ad3 q cap3) q (ir L) ∧ bv1 ≤ wr.heap.size) := ⟨by have := E.out.1.r; rw [← HQ2.out] at this; exact this, E.out.1.b.2⟩
              have HQl : Hid (q ≤ 20000) := by
                show _ ≤ _
                rw [HQ2.out, E.out.2, List.length_append, List.length_map, List.length_take]
                have h1 := HBd.out
                have h2 := HQ.out
                omega
              clear hz hkr hcl h1 hk hq
              go_upto_region 9 with (at_builtin; refine wpList_io _ bv1 (.slice ad3 q cap3) L (-z) q wr.heap.size _ _ rfl rfl rfl rfl HQl.out (own_kept HR.out.1 ((Below.refl _ _).alloc (Nat.le_refl _) _)) (At.at1 rfl _ _) (by have := HR.out.2; simp; omega) (wr.heap.size + 1) (by simp) ?_; intro g5 cap5 w5 hown hgrow hat)
              have E5 := hidb (BT.app E.out.1 HQ2.out hown.out hgrow.out hat.out)
              clear hown hgrow hat HR E ix ck
              go_wp2
              go_roundw
              case rel => exact ⟨k + 1, q + 1, L ++ [-z], H1k.out, by rw [List.length_append, HQ2.out]; rfl, by go_num, hidb ⟨E5.out, HL2.out.symm⟩⟩
              case measure => have := H1k.out; simp [intOf]; omega
end
end Go.Proofs.YtecmkjefoppbiaaDoor
