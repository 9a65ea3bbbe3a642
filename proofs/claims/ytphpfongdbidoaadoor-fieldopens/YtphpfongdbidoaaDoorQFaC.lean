/-
  field.picked (FaC.tpl, once for each way).
-/
import Derived.Test.YtphpfongdbidoaaDoorQFaB
import Derived.Test.YtphpfongdbidoaaDoorQFsH
import Derived.Deep.DrawnRows
namespace Go.Proofs.YtphpfongdbidoaaDoor
open Go.RowKit
attribute [local go_sem ↓] Go.wp_at_zero Go.wp_at_succ

/-- picked's own blocks: the raster, the answer, the new raster, what lies along the rows, the new cells. -/
structure PkF (w W : World) (C A B : Nat) (k0 kc : List Value) (LA LB : List Int) : Prop where
  a0 : At W w.heap.size k0
  a1 : At W (w.heap.size + 1) [.int .i64 0, .int .i64 0, .slice none 0 0]
  c0 : At W C kc
  aa : At W A (ir LA)
  bb : At W B (ir LB)
  nab : ¬ A = B
  nac : ¬ A = C
  nbc : ¬ B = C
  wa : w.heap.size + 1 < A
  wb : w.heap.size + 1 < B
  wc : w.heap.size + 1 < C
  gr : Gr w W
theorem PkF.below {w W w' : World} {C A B : Nat} {k0 kc : List Value} {LA LB : List Int} (h : PkF w W C A B k0 kc LA LB) (hB : Below W.heap.size W w') : PkF w w' C A B k0 kc LA LB := ⟨h.a0.below hB, h.a1.below hB, h.c0.below hB, h.aa.below hB, h.bb.below hB, h.nab, h.nac, h.nbc, h.wa, h.wb, h.wc, Gr.step h.gr hB⟩
theorem PkF.onA {w W w' : World} {C A B : Nat} {k0 kc : List Value} {LA LB M : List Int} (h : PkF w W C A B k0 kc LA LB) (k : Onl A W w') (hM : At w' A (ir M)) : PkF w w' C A B k0 kc M LB := by
  have h1 := h.wa
  exact ⟨h.a0.onl k (by omega), h.a1.onl k (by omega), h.c0.onl k (fun e => h.nac e.symm), hM, h.bb.onl k (fun e => h.nab e.symm), h.nab, h.nac, h.nbc, h.wa, h.wb, h.wc, Onl.gr h.gr k (by omega)⟩
theorem PkF.onB {w W w' : World} {C A B : Nat} {k0 kc : List Value} {LA LB M : List Int} (h : PkF w W C A B k0 kc LA LB) (k : Onl B W w') (hM : At w' B (ir M)) : PkF w w' C A B k0 kc LA M := by
  have h1 := h.wb
  exact ⟨h.a0.onl k (by omega), h.a1.onl k (by omega), h.c0.onl k (fun e => h.nbc e.symm), h.aa.onl k h.nab, hM, h.nab, h.nac, h.nbc, h.wa, h.wb, h.wc, Onl.gr h.gr k (by omega)⟩
set_option maxRecDepth 4000 in
set_option maxHeartbeats 16000000 in
theorem pickedM (g : Nat → Addr) {m n rch b o cap : Nat} {l : List Int} (w : World) (h : Rs w b o cap l) (ok : Ok l m n) (hl : Lai w g) (hc : hcode m n l rch = 0) (hr : rch ≤ 128) : Calls Tryd.prog 27 #[raV m n (.slice (some ⟨b, o, none⟩) l.length cap), .int .i64 (rch : Int), .func (.func 28) #[] #[]] w fun e w' => ∃ B, e = .returned (.tuple #[raV m n (.slice (some ⟨B, 0, none⟩) l.length l.length), .nilIface]) ∧ At w' B (ir (mpL true l m n rch)) ∧ w.heap.size ≤ B ∧ Gr w w' := by
  have ll := ok.len_le
  have C1 := hidb (fun w1 (hB : Gr w w1) => reached_any g (W := m) (H := n) rch w1 (h.isl.below hB.out) (by omega) (hl.below hB.out))
  rw [hc, show evc g 0 = .nilIface from rfl] at C1
  have P0 : Hid (PrF w ((w.alloc (.cells #[.int .i64 m, .int .i64 n, .slice (some ⟨b, o, none⟩) l.length cap] 27)).alloc (.cells #[.int .i64 0, .int .i64 0, .slice none 0 0] 27)) [.int .i64 m, .int .i64 n, .slice (some ⟨b, o, none⟩) l.length cap]) := ⟨(At.new3 w (.int .i64 m) (.int .i64 n) (.slice (some ⟨b, o, none⟩) l.length cap) 27).alloc (.cells #[.int .i64 0, .int .i64 0, .slice none 0 0] 27), At.nx3 (W := w) (.cells #[.int .i64 m, .int .i64 n, .slice (some ⟨b, o, none⟩) l.length cap] 27) (.int .i64 0) (.int .i64 0) (.slice none 0 0) 27, ((Gr.refl w).alloc (.cells #[.int .i64 m, .int .i64 n, .slice (some ⟨b, o, none⟩) l.length cap] 27)).alloc (.cells #[.int .i64 0, .int .i64 0, .slice none 0 0] 27)⟩
  have HRs := hidb h
  have HOk := hidb ok
  obtain ⟨K, hK⟩ : ∃ K, K = l.length := ⟨_, rfl⟩
  have HK : Hid (K = m * n ∧ K = l.length) := ⟨by rw [hK]; exact ok.len, hK⟩
  have CB := hidb (fun w => blank_any (m : Int) (n : Int) K (by rw [HK.out.1]; exact Int.natCast_mul _ _) (by omega) w)
  obtain ⟨CS, hCS, mk⟩ := made_run K (by omega)
  rw [← hK] at C1 P0 ⊢
  have HCS := hidb hCS
  have HB := hidb (show 1 ≤ m ∧ m ≤ 128 ∧ 1 ≤ n ∧ n ≤ 128 ∧ rch ≤ 128 ∧ K ≤ 16384 from ⟨ok.m1, ok.m2, ok.n1, ok.n2, hr, by omega⟩)
  obtain ⟨rI, hrI⟩ : ∃ q : Int, q = (rch : Int) := ⟨_, rfl⟩
  have HrI := hidb hrI
  rw [← hrI] at C1 ⊢
  clear h ok hl hc hr ll hK hCS hrI
  go_enter Tryd.func27, Tryd.ntmps27
  go_wp2_with fail
  refine (C1.out _ P0.out.gr).mono ?_
  rintro e w1 ⟨rfl, hB⟩
  replace P0 := hidb (P0.out.below hB.out)
  clear hB C1
  go_upto_region 4 with fail
  go_cut [9, 10] from 20 to 28 (fun s9 s10 wx => ∃ C A B, s9 = .slice (some ⟨A, 0, none⟩) K K ∧ s10 = .pointer (some ⟨C, 0, none⟩) ∧ Hid (PkF w wx C A B [.int .i64 m, .int .i64 n, .slice (some ⟨b, o, none⟩) K cap] [.int .i64 m, .int .i64 n, .slice (some ⟨B, 0, none⟩) K K] (List.replicate K 0) (List.replicate K 0)))
  case first =>
    have PX := P0.out
    have q1 := PX.a1.lt
    go_region_held (fun w' => w'.cell? ⟨w.heap.size, 0, none⟩ = some (.int .i64 m) ∧ w'.cell? ⟨w.heap.size, 1, none⟩ = some (.int .i64 n) ∧ w'.cell? ⟨w.heap.size, 2, none⟩ = some (.slice (some ⟨b, o, none⟩) K cap))
      (with_reducible first | exact PX.a0.c3 | exact PX.drew.a0.c3 | (refine At.c3 ?_; repeat (first | exact PX.a0 | refine At.drew ?_ | refine At.alloc ?_ _ | refine At.skip ?_ (by omega) _ _)))
      ((go_at_call 24; with_reducible refine (CB.out _).mono ?_; rintro e w9 ⟨B, rfl, hAB, hBw, hB9⟩; (try simp at hBw); (with_reducible first | replace PX := PX.below hB9.out | replace PX := PX.drew.below hB9.out | replace PX := (PX.alloc _).below hB9.out | replace PX := (PX.alloc _).drew.below hB9.out | replace PX := ((PX.alloc _).alloc _).below hB9.out | replace PX := ((PX.alloc _).alloc _).drew.below hB9.out); have q9 := PX.a1.lt; have s9 := hB9.out.size; (try simp at s9); have HB9 := hB9.out; (with_reducible first | have A7 := At.below hB9.out (At.nxArr _ _ CS _) | have A7 := At.below hB9.out (At.nxArr _ _ CS _).drew | have A7 := At.below hB9.out (At.newArr _ CS _) | have A7 := At.below hB9.out (At.newArr _ CS _).drew | have A7 := At.below hB9.out ((At.newArr _ CS _).alloc _) | have A7 := At.below hB9.out ((At.newArr _ CS _).alloc _).drew | skip); (with_reducible first | have A8 := At.below hB9.out (At.nx3 _ _ _ _ _) | have A8 := At.below hB9.out (At.nx3 _ _ _ _ _).drew | have A8 := At.below hB9.out (At.new3 _ _ _ _ _) | have A8 := At.below hB9.out (At.new3 _ _ _ _ _).drew | have A8 := At.below hB9.out ((At.new3 _ _ _ _ _).alloc _) | have A8 := At.below hB9.out ((At.new3 _ _ _ _ _).alloc _).drew | skip); (try (have l7 := A7.lt; have n7 : ¬ _ = _ := Nat.ne_of_lt A7.lt; have m7 : ¬ _ = _ := Nat.ne_of_gt A7.lt)); (try (obtain ⟨f80, f81, f82⟩ := A8.f3; obtain ⟨c80, c81, c82⟩ := A8.c3; have H8 := A8.has (n := 3) rfl; have l8 := A8.lt; have n8 : ¬ _ = _ := Nat.ne_of_lt A8.lt; have m8 : ¬ _ = _ := Nat.ne_of_gt A8.lt))))
    all_goals
      go_wp2_with fail
      go_meet
      obtain ⟨pa0, pa1, pgr⟩ := PX
      have hBl := hAB.lt
      refine ⟨_, _, B, rfl, rfl, ⟨?_, ?_, ?_, ?_, ?_, ?_, ?_, ?_, ?_, ?_, ?_, ?_⟩⟩
      · ((with_reducible repeat' (first | assumption | exact At.new1 _ _ _ | exact At.new2 _ _ _ _ | exact At.new3 _ _ _ _ _ | exact At.nx1 _ _ _ | exact At.nx2 _ _ _ _ | exact At.nx3 _ _ _ _ _ | exact At.ny1 _ _ _ _ | exact At.ny2 _ _ _ _ _ | exact At.ny3 _ _ _ _ _ _ | exact At.nz1 _ _ _ _ _ | exact At.nz2 _ _ _ _ _ _ | exact At.nz3 _ _ _ _ _ _ _ | exact Has.new1 _ _ _ | exact Has.new2 _ _ _ _ | exact Has.new3 _ _ _ _ _ | exact Has.nx1 _ _ _ | exact Has.nx2 _ _ _ _ | exact Has.nx3 _ _ _ _ _ | exact Has.ny1 _ _ _ _ | exact Has.ny2 _ _ _ _ _ | exact Has.ny3 _ _ _ _ _ _ | exact Has.nz1 _ _ _ _ _ | exact Has.nz2 _ _ _ _ _ _ | exact Has.nz3 _ _ _ _ _ _ _ | refine At.fill1 ?_ _ | refine At.fill2 ?_ _ _ | refine At.fill3 ?_ _ _ _ | refine At.swap ?_ (by first | omega | (simp; omega)) _ _ | refine At.alloc ?_ _ | refine At.drew ?_ | refine At.skip ?_ (by first | omega | (simp; omega)) _ _ | refine At.below (by assumption) ?_ | refine Has.alloc ?_ _ | refine Has.drew ?_ | refine Has.set ?_ _ _ _ | refine Has.below (by assumption) ?_)); done)
      · ((with_reducible repeat' (first | assumption | exact At.new1 _ _ _ | exact At.new2 _ _ _ _ | exact At.new3 _ _ _ _ _ | exact At.nx1 _ _ _ | exact At.nx2 _ _ _ _ | exact At.nx3 _ _ _ _ _ | exact At.ny1 _ _ _ _ | exact At.ny2 _ _ _ _ _ | exact At.ny3 _ _ _ _ _ _ | exact At.nz1 _ _ _ _ _ | exact At.nz2 _ _ _ _ _ _ | exact At.nz3 _ _ _ _ _ _ _ | exact Has.new1 _ _ _ | exact Has.new2 _ _ _ _ | exact Has.new3 _ _ _ _ _ | exact Has.nx1 _ _ _ | exact Has.nx2 _ _ _ _ | exact Has.nx3 _ _ _ _ _ | exact Has.ny1 _ _ _ _ | exact Has.ny2 _ _ _ _ _ | exact Has.ny3 _ _ _ _ _ _ | exact Has.nz1 _ _ _ _ _ | exact Has.nz2 _ _ _ _ _ _ | exact Has.nz3 _ _ _ _ _ _ _ | refine At.fill1 ?_ _ | refine At.fill2 ?_ _ _ | refine At.fill3 ?_ _ _ _ | refine At.swap ?_ (by first | omega | (simp; omega)) _ _ | refine At.alloc ?_ _ | refine At.drew ?_ | refine At.skip ?_ (by first | omega | (simp; omega)) _ _ | refine At.below (by assumption) ?_ | refine Has.alloc ?_ _ | refine Has.drew ?_ | refine Has.set ?_ _ _ _ | refine Has.below (by assumption) ?_)); done)
      · ((with_reducible repeat' (first | assumption | exact At.new1 _ _ _ | exact At.new2 _ _ _ _ | exact At.new3 _ _ _ _ _ | exact At.nx1 _ _ _ | exact At.nx2 _ _ _ _ | exact At.nx3 _ _ _ _ _ | exact At.ny1 _ _ _ _ | exact At.ny2 _ _ _ _ _ | exact At.ny3 _ _ _ _ _ _ | exact At.nz1 _ _ _ _ _ | exact At.nz2 _ _ _ _ _ _ | exact At.nz3 _ _ _ _ _ _ _ | exact Has.new1 _ _ _ | exact Has.new2 _ _ _ _ | exact Has.new3 _ _ _ _ _ | exact Has.nx1 _ _ _ | exact Has.nx2 _ _ _ _ | exact Has.nx3 _ _ _ _ _ | exact Has.ny1 _ _ _ _ | exact Has.ny2 _ _ _ _ _ | exact Has.ny3 _ _ _ _ _ _ | exact Has.nz1 _ _ _ _ _ | exact Has.nz2 _ _ _ _ _ _ | exact Has.nz3 _ _ _ _ _ _ _ | refine At.fill1 ?_ _ | refine At.fill2 ?_ _ _ | refine At.fill3 ?_ _ _ _ | refine At.swap ?_ (by first | omega | (simp; omega)) _ _ | refine At.alloc ?_ _ | refine At.drew ?_ | refine At.skip ?_ (by first | omega | (simp; omega)) _ _ | refine At.below (by assumption) ?_ | refine Has.alloc ?_ _ | refine Has.drew ?_ | refine Has.set ?_ _ _ _ | refine Has.below (by assumption) ?_)); done)
      · rw [← HCS.out]; ((with_reducible repeat' (first | assumption | exact At.nxArr _ _ CS _ | exact At.newArr _ CS _ | exact At.new1 _ _ _ | exact At.new2 _ _ _ _ | exact At.new3 _ _ _ _ _ | exact At.nx1 _ _ _ | exact At.nx2 _ _ _ _ | exact At.nx3 _ _ _ _ _ | exact At.ny1 _ _ _ _ | exact At.ny2 _ _ _ _ _ | exact At.ny3 _ _ _ _ _ _ | exact At.nz1 _ _ _ _ _ | exact At.nz2 _ _ _ _ _ _ | exact At.nz3 _ _ _ _ _ _ _ | exact Has.new1 _ _ _ | exact Has.new2 _ _ _ _ | exact Has.new3 _ _ _ _ _ | exact Has.nx1 _ _ _ | exact Has.nx2 _ _ _ _ | exact Has.nx3 _ _ _ _ _ | exact Has.ny1 _ _ _ _ | exact Has.ny2 _ _ _ _ _ | exact Has.ny3 _ _ _ _ _ _ | exact Has.nz1 _ _ _ _ _ | exact Has.nz2 _ _ _ _ _ _ | exact Has.nz3 _ _ _ _ _ _ _ | refine At.fill1 ?_ _ | refine At.fill2 ?_ _ _ | refine At.fill3 ?_ _ _ _ | refine At.swap ?_ (by first | omega | (simp; omega)) _ _ | refine At.alloc ?_ _ | refine At.drew ?_ | refine At.skip ?_ (by first | omega | (simp; omega)) _ _ | refine At.below (by assumption) ?_ | refine Has.alloc ?_ _ | refine Has.drew ?_ | refine Has.set ?_ _ _ _ | refine Has.below (by assumption) ?_)); done)
      · ((with_reducible repeat' (first | assumption | exact At.new1 _ _ _ | exact At.new2 _ _ _ _ | exact At.new3 _ _ _ _ _ | exact At.nx1 _ _ _ | exact At.nx2 _ _ _ _ | exact At.nx3 _ _ _ _ _ | exact At.ny1 _ _ _ _ | exact At.ny2 _ _ _ _ _ | exact At.ny3 _ _ _ _ _ _ | exact At.nz1 _ _ _ _ _ | exact At.nz2 _ _ _ _ _ _ | exact At.nz3 _ _ _ _ _ _ _ | exact Has.new1 _ _ _ | exact Has.new2 _ _ _ _ | exact Has.new3 _ _ _ _ _ | exact Has.nx1 _ _ _ | exact Has.nx2 _ _ _ _ | exact Has.nx3 _ _ _ _ _ | exact Has.ny1 _ _ _ _ | exact Has.ny2 _ _ _ _ _ | exact Has.ny3 _ _ _ _ _ _ | exact Has.nz1 _ _ _ _ _ | exact Has.nz2 _ _ _ _ _ _ | exact Has.nz3 _ _ _ _ _ _ _ | refine At.fill1 ?_ _ | refine At.fill2 ?_ _ _ | refine At.fill3 ?_ _ _ _ | refine At.swap ?_ (by first | omega | (simp; omega)) _ _ | refine At.alloc ?_ _ | refine At.drew ?_ | refine At.skip ?_ (by first | omega | (simp; omega)) _ _ | refine At.below (by assumption) ?_ | refine Has.alloc ?_ _ | refine Has.drew ?_ | refine Has.set ?_ _ _ _ | refine Has.below (by assumption) ?_)); done)
      · first | omega | (simp; omega)
      · first | omega | (simp; omega)
      · first | omega | (simp; omega)
      · first | omega | (simp; omega)
      · first | omega | (simp; omega)
      · first | omega | (simp; omega)
      · ((with_reducible repeat' (first | assumption | refine Gr.drew ?_ | refine Gr.alloc ?_ _ | refine Gr.set ?_ (by first | omega | (simp; omega)) _ _ | exact Gr.refl _)); done)
  case rest =>
    clear P0 CB mk HCS
    obtain ⟨C, A, B, rfl, rfl, E⟩ := hcut
    obtain ⟨q0, q1, q2⟩ := E.out.a0.c3
    go_wp2
    clear q0 q1 q2
    go_loopw [31] (fun t wr => ∃ (k : Nat) (LA : List Int), k ≤ n ∧ t = .int .i64 (k : Int) ∧ Hid (PkF w wr C A B [.int .i64 m, .int .i64 n, .slice (some ⟨b, o, none⟩) K cap] [.int .i64 m, .int .i64 n, .slice (some ⟨B, 0, none⟩) K K] LA (List.replicate K 0)) ∧ Hid (LA.length = K ∧ ∀ r c, r < k → c < m → gl LA (r * m + c) = lnB true (fun x => gl l (r * m + x)) m rch c)) (fun t _ => n - (intOf t).toNat)
    case atStart => exact ⟨0, _, Nat.zero_le _, rfl, E, hidb ⟨by simp, fun r c h => absurd h (Nat.not_lt_zero _)⟩⟩
    case round =>
      clear E
      obtain ⟨k, LA, hk, rfl, E, HI⟩ := hrel
      obtain ⟨q0, q1, q2⟩ := E.out.a0.c3
      by_cases h1 : k < n
      · have h1' : (k : Int) < (n : Int) := by omega
        have bb := HB.out
        have e1 : IntKind.i64.wrap ((k : Int) + 1) = ((k + 1 : Nat) : Int) := wrap_in (by omega) (by omega)
        have pk1 : k * m ≤ 128 * 128 := Nat.mul_le_mul (by omega) (by omega)
        have hx : ∀ i, i < m → k * m + i * 1 < l.length ∧ k * m + i * 1 < LA.length := fun i hi => by
          rw [Nat.mul_one, HI.out.1, HK.out.2]
          exact ⟨HOk.out.cell hi h1, HOk.out.cell hi h1⟩
        have KP : Hid (∀ W, PkF w W C A B [.int .i64 m, .int .i64 n, .slice (some ⟨b, o, none⟩) K cap] [.int .i64 m, .int .i64 n, .slice (some ⟨B, 0, none⟩) K K] LA (List.replicate K 0) → Calls Tryd.prog 41 #[.agg #[.int .i64 ((k * m : Nat) : Int), .int .i64 1, .int .i64 (m : Int)], .slice (some ⟨b, o, none⟩) K cap, .slice (some ⟨A, 0, none⟩) K K, .int .i64 rI, .func (.func 28) #[] #[]] W fun e w' => e = .returned (.tuple #[]) ∧ ∃ L', PkF w w' C A B [.int .i64 m, .int .i64 n, .slice (some ⟨b, o, none⟩) K cap] [.int .i64 m, .int .i64 n, .slice (some ⟨B, 0, none⟩) K K] L' (List.replicate K 0) ∧ (L'.length = K ∧ ∀ r c, r < k + 1 → c < m → gl L' (r * m + c) = lnB true (fun x => gl l (r * m + x)) m rch c)) := fun W hE => by
          have hne : ¬ b = A := by have := HRs.out.lt; have := hE.wa; omega
          have := pickM (k * m) 1 m rch (F := l) (L := LA) W (HRs.out.isl.below hE.gr.out) hE.aa hne (by omega) (by omega) (by omega) (by omega) (by omega) hx
          rw [HI.out.1, ← HK.out.2, ← HrI.out] at this
          refine this.mono ?_
          rintro e w' ⟨rfl, L', g1, g2, g3, g4, g5⟩
          refine ⟨rfl, L', hE.onA g5 g2, g1, fun r c hr hc => ?_⟩
          by_cases er : r = k
          · subst er
            have := g3 c hc
            simpa only [Nat.mul_one] using this
          · rw [g4 _ (fun i hi e => ?_)]
            · exact HI.out.2 r c (by omega) hc
            · rw [Nat.mul_one] at e
              have := (div_two hc hi e).1
              exact er this
        obtain ⟨z, hz⟩ : ∃ z : Int, z = ((k * m : Nat) : Int) := ⟨_, rfl⟩
        have e2 : IntKind.i64.wrap ((k : Int) * (m : Int)) = z := by rw [hz, ← Int.natCast_mul]; exact wrap_in (by omega) (by omega)
        rw [← hz] at KP
        clear bb pk1 hx hz
        go_wp2_with fail
        refine (KP.out _ E.out).mono ?_
        rintro e w2 ⟨rfl, L', hE, hI⟩
        have HE := hidb hE
        have HI2 := hidb hI
        clear q0 q1 q2 hE hI
        go_wp2
        go_roundw
        case rel => exact ⟨k + 1, L', by omega, rfl, HE, HI2⟩
        case measure => simp [intOf]; omega
      · have h1' : ¬ (k : Int) < (n : Int) := by omega
        have hkn : k = n := by omega
        rw [hkn] at HI
        clear hkn hk
        go_wp2
        clear q0 q1 q2
        go_loopw [50] (fun t wr => ∃ (c : Nat) (LB : List Int), c ≤ m ∧ t = .int .i64 (c : Int) ∧ Hid (PkF w wr C A B [.int .i64 m, .int .i64 n, .slice (some ⟨b, o, none⟩) K cap] [.int .i64 m, .int .i64 n, .slice (some ⟨B, 0, none⟩) K K] LA LB) ∧ Hid (LB.length = K ∧ ∀ y x, y < n → x < c → gl LB (y * m + x) = blB true l m n rch y x)) (fun t _ => m - (intOf t).toNat)
        case atStart => exact ⟨0, _, Nat.zero_le _, rfl, E, hidb ⟨by simp, fun y x _ h => absurd h (Nat.not_lt_zero _)⟩⟩
        case round =>
          clear E
          obtain ⟨c, LB, hcm, rfl, E, HJ⟩ := hrel
          obtain ⟨q0, q1, q2⟩ := E.out.a0.c3
          obtain ⟨d0, d1, d2⟩ := E.out.c0.c3
          by_cases h2 : c < m
          · have h2' : (c : Int) < (m : Int) := by omega
            have bb := HB.out
            have e1 : IntKind.i64.wrap ((c : Int) + 1) = ((c + 1 : Nat) : Int) := wrap_in (by omega) (by omega)
            have hx : ∀ i, i < n → c + i * m < LA.length ∧ c + i * m < LB.length := fun i hi => by
              rw [HI.out.1, HJ.out.1, HK.out.2, Nat.add_comm]
              exact ⟨HOk.out.cell h2 hi, HOk.out.cell h2 hi⟩
            have KP : Hid (∀ W, PkF w W C A B [.int .i64 m, .int .i64 n, .slice (some ⟨b, o, none⟩) K cap] [.int .i64 m, .int .i64 n, .slice (some ⟨B, 0, none⟩) K K] LA LB → Calls Tryd.prog 41 #[.agg #[.int .i64 (c : Int), .int .i64 (m : Int), .int .i64 (n : Int)], .slice (some ⟨A, 0, none⟩) K K, .slice (some ⟨B, 0, none⟩) K K, .int .i64 rI, .func (.func 28) #[] #[]] W fun e w' => e = .returned (.tuple #[]) ∧ ∃ L', PkF w w' C A B [.int .i64 m, .int .i64 n, .slice (some ⟨b, o, none⟩) K cap] [.int .i64 m, .int .i64 n, .slice (some ⟨B, 0, none⟩) K K] LA L' ∧ (L'.length = K ∧ ∀ y x, y < n → x < c + 1 → gl L' (y * m + x) = blB true l m n rch y x)) := fun W hE => by
              have := pickM c m n rch (F := LA) (L := LB) W (hE.aa.isl K) hE.bb hE.nab (by omega) (by omega) (by omega) (by omega) (by omega) hx
              rw [HI.out.1, HJ.out.1, ← HrI.out] at this
              refine this.mono ?_
              rintro e w' ⟨rfl, L', g1, g2, g3, g4, g5⟩
              refine ⟨rfl, L', hE.onB g5 g2, g1, fun y x hy hx2 => ?_⟩
              by_cases ex : x = c
              · subst ex
                have := g3 y hy
                rw [Nat.add_comm] at this
                rw [this]
                unfold blB
                refine lnB_congr hy (fun i hi => ?_)
                rw [Nat.add_comm]
                exact HI.out.2 i x hi h2
              · rw [g4 _ (fun i hi e => ?_)]
                · exact HJ.out.2 y x hy (by omega)
                · rw [Nat.add_comm c] at e
                  have := (div_two (show x < m by omega) h2 e).2
                  exact ex this
            clear bb hx
            go_wp2_with fail
            refine (KP.out _ E.out).mono ?_
            rintro e w2 ⟨rfl, L', hE, hI⟩
            have HE := hidb hE
            have HI2 := hidb hI
            clear q0 q1 q2 d0 d1 d2 hE hI
            go_wp2
            go_roundw
            case rel => exact ⟨c + 1, L', by omega, rfl, HE, HI2⟩
            case measure => simp [intOf]; omega
          · have h2' : ¬ (c : Int) < (m : Int) := by omega
            have hcm2 : c = m := by omega
            rw [hcm2] at HJ
            have HM : Hid (LB = mpL true l m n rch) := by
              have hm := HK.out.1
              refine cells_all HOk.out.m1 (by rw [HJ.out.1, hm, Nat.mul_comm]) (mpL_len ..) (fun y x hy hx => ?_)
              rw [HJ.out.2 y x hy hx, mpL_at hy hx]
            rw [HM.out] at E
            clear hcm2 hcm
            obtain ⟨r0, r1, r2⟩ := E.out.a1.c3
            obtain ⟨f0, f1, f2⟩ := E.out.a1.f3
            have RH := E.out.a1.has (n := 3) rfl
            have lb := E.out.wb
            go_wp2
            refine bodyPost_ret (v := .tuple #[raV m n (.slice (some ⟨B, 0, none⟩) K K), .nilIface]) (by simp [results, Tryd.results27, go_sem, r0, r1, r2]) rfl ⟨B, rfl, ?_, by omega, ?_⟩
            · have hne : ¬ w.heap.size + 1 = B := by omega
              exact ((E.out.bb.skip hne 0 _).skip hne 1 _).skip hne 2 _
            · exact ((E.out.gr.set (by omega) _ _).set (by omega) _ _).set (by omega) _ _
set_option maxRecDepth 4000 in
set_option maxHeartbeats 16000000 in
theorem pickedL (g : Nat → Addr) {m n rch b o cap : Nat} {l : List Int} (w : World) (h : Rs w b o cap l) (ok : Ok l m n) (hl : Lai w g) (hc : hcode m n l rch = 0) (hr : rch ≤ 128) : Calls Tryd.prog 27 #[raV m n (.slice (some ⟨b, o, none⟩) l.length cap), .int .i64 (rch : Int), .func (.func 29) #[] #[]] w fun e w' => ∃ B, e = .returned (.tuple #[raV m n (.slice (some ⟨B, 0, none⟩) l.length l.length), .nilIface]) ∧ At w' B (ir (mpL false l m n rch)) ∧ w.heap.size ≤ B ∧ Gr w w' := by
  have ll := ok.len_le
  have C1 := hidb (fun w1 (hB : Gr w w1) => reached_any g (W := m) (H := n) rch w1 (h.isl.below hB.out) (by omega) (hl.below hB.out))
  rw [hc, show evc g 0 = .nilIface from rfl] at C1
  have P0 : Hid (PrF w ((w.alloc (.cells #[.int .i64 m, .int .i64 n, .slice (some ⟨b, o, none⟩) l.length cap] 27)).alloc (.cells #[.int .i64 0, .int .i64 0, .slice none 0 0] 27)) [.int .i64 m, .int .i64 n, .slice (some ⟨b, o, none⟩) l.length cap]) := ⟨(At.new3 w (.int .i64 m) (.int .i64 n) (.slice (some ⟨b, o, none⟩) l.length cap) 27).alloc (.cells #[.int .i64 0, .int .i64 0, .slice none 0 0] 27), At.nx3 (W := w) (.cells #[.int .i64 m, .int .i64 n, .slice (some ⟨b, o, none⟩) l.length cap] 27) (.int .i64 0) (.int .i64 0) (.slice none 0 0) 27, ((Gr.refl w).alloc (.cells #[.int .i64 m, .int .i64 n, .slice (some ⟨b, o, none⟩) l.length cap] 27)).alloc (.cells #[.int .i64 0, .int .i64 0, .slice none 0 0] 27)⟩
  have HRs := hidb h
  have HOk := hidb ok
  obtain ⟨K, hK⟩ : ∃ K, K = l.length := ⟨_, rfl⟩
  have HK : Hid (K = m * n ∧ K = l.length) := ⟨by rw [hK]; exact ok.len, hK⟩
  have CB := hidb (fun w => blank_any (m : Int) (n : Int) K (by rw [HK.out.1]; exact Int.natCast_mul _ _) (by omega) w)
  obtain ⟨CS, hCS, mk⟩ := made_run K (by omega)
  rw [← hK] at C1 P0 ⊢
  have HCS := hidb hCS
  have HB := hidb (show 1 ≤ m ∧ m ≤ 128 ∧ 1 ≤ n ∧ n ≤ 128 ∧ rch ≤ 128 ∧ K ≤ 16384 from ⟨ok.m1, ok.m2, ok.n1, ok.n2, hr, by omega⟩)
  obtain ⟨rI, hrI⟩ : ∃ q : Int, q = (rch : Int) := ⟨_, rfl⟩
  have HrI := hidb hrI
  rw [← hrI] at C1 ⊢
  clear h ok hl hc hr ll hK hCS hrI
  go_enter Tryd.func27, Tryd.ntmps27
  go_wp2_with fail
  refine (C1.out _ P0.out.gr).mono ?_
  rintro e w1 ⟨rfl, hB⟩
  replace P0 := hidb (P0.out.below hB.out)
  clear hB C1
  go_upto_region 4 with fail
  go_cut [9, 10] from 20 to 28 (fun s9 s10 wx => ∃ C A B, s9 = .slice (some ⟨A, 0, none⟩) K K ∧ s10 = .pointer (some ⟨C, 0, none⟩) ∧ Hid (PkF w wx C A B [.int .i64 m, .int .i64 n, .slice (some ⟨b, o, none⟩) K cap] [.int .i64 m, .int .i64 n, .slice (some ⟨B, 0, none⟩) K K] (List.replicate K 0) (List.replicate K 0)))
  case first =>
    have PX := P0.out
    have q1 := PX.a1.lt
    go_region_held (fun w' => w'.cell? ⟨w.heap.size, 0, none⟩ = some (.int .i64 m) ∧ w'.cell? ⟨w.heap.size, 1, none⟩ = some (.int .i64 n) ∧ w'.cell? ⟨w.heap.size, 2, none⟩ = some (.slice (some ⟨b, o, none⟩) K cap))
      (with_reducible first | exact PX.a0.c3 | exact PX.drew.a0.c3 | (refine At.c3 ?_; repeat (first | exact PX.a0 | refine At.drew ?_ | refine At.alloc ?_ _ | refine At.skip ?_ (by omega) _ _)))
      ((go_at_call 24; with_reducible refine (CB.out _).mono ?_; rintro e w9 ⟨B, rfl, hAB, hBw, hB9⟩; (try simp at hBw); (with_reducible first | replace PX := PX.below hB9.out | replace PX := PX.drew.below hB9.out | replace PX := (PX.alloc _).below hB9.out | replace PX := (PX.alloc _).drew.below hB9.out | replace PX := ((PX.alloc _).alloc _).below hB9.out | replace PX := ((PX.alloc _).alloc _).drew.below hB9.out); have q9 := PX.a1.lt; have s9 := hB9.out.size; (try simp at s9); have HB9 := hB9.out; (with_reducible first | have A7 := At.below hB9.out (At.nxArr _ _ CS _) | have A7 := At.below hB9.out (At.nxArr _ _ CS _).drew | have A7 := At.below hB9.out (At.newArr _ CS _) | have A7 := At.below hB9.out (At.newArr _ CS _).drew | have A7 := At.below hB9.out ((At.newArr _ CS _).alloc _) | have A7 := At.below hB9.out ((At.newArr _ CS _).alloc _).drew | skip); (with_reducible first | have A8 := At.below hB9.out (At.nx3 _ _ _ _ _) | have A8 := At.below hB9.out (At.nx3 _ _ _ _ _).drew | have A8 := At.below hB9.out (At.new3 _ _ _ _ _) | have A8 := At.below hB9.out (At.new3 _ _ _ _ _).drew | have A8 := At.below hB9.out ((At.new3 _ _ _ _ _).alloc _) | have A8 := At.below hB9.out ((At.new3 _ _ _ _ _).alloc _).drew | skip); (try (have l7 := A7.lt; have n7 : ¬ _ = _ := Nat.ne_of_lt A7.lt; have m7 : ¬ _ = _ := Nat.ne_of_gt A7.lt)); (try (obtain ⟨f80, f81, f82⟩ := A8.f3; obtain ⟨c80, c81, c82⟩ := A8.c3; have H8 := A8.has (n := 3) rfl; have l8 := A8.lt; have n8 : ¬ _ = _ := Nat.ne_of_lt A8.lt; have m8 : ¬ _ = _ := Nat.ne_of_gt A8.lt))))
    all_goals
      go_wp2_with fail
      go_meet
      obtain ⟨pa0, pa1, pgr⟩ := PX
      have hBl := hAB.lt
      refine ⟨_, _, B, rfl, rfl, ⟨?_, ?_, ?_, ?_, ?_, ?_, ?_, ?_, ?_, ?_, ?_, ?_⟩⟩
      · ((with_reducible repeat' (first | assumption | exact At.new1 _ _ _ | exact At.new2 _ _ _ _ | exact At.new3 _ _ _ _ _ | exact At.nx1 _ _ _ | exact At.nx2 _ _ _ _ | exact At.nx3 _ _ _ _ _ | exact At.ny1 _ _ _ _ | exact At.ny2 _ _ _ _ _ | exact At.ny3 _ _ _ _ _ _ | exact At.nz1 _ _ _ _ _ | exact At.nz2 _ _ _ _ _ _ | exact At.nz3 _ _ _ _ _ _ _ | exact Has.new1 _ _ _ | exact Has.new2 _ _ _ _ | exact Has.new3 _ _ _ _ _ | exact Has.nx1 _ _ _ | exact Has.nx2 _ _ _ _ | exact Has.nx3 _ _ _ _ _ | exact Has.ny1 _ _ _ _ | exact Has.ny2 _ _ _ _ _ | exact Has.ny3 _ _ _ _ _ _ | exact Has.nz1 _ _ _ _ _ | exact Has.nz2 _ _ _ _ _ _ | exact Has.nz3 _ _ _ _ _ _ _ | refine At.fill1 ?_ _ | refine At.fill2 ?_ _ _ | refine At.fill3 ?_ _ _ _ | refine At.swap ?_ (by first | omega | (simp; omega)) _ _ | refine At.alloc ?_ _ | refine At.drew ?_ | refine At.skip ?_ (by first | omega | (simp; omega)) _ _ | refine At.below (by assumption) ?_ | refine Has.alloc ?_ _ | refine Has.drew ?_ | refine Has.set ?_ _ _ _ | refine Has.below (by assumption) ?_)); done)
      · ((with_reducible repeat' (first | assumption | exact At.new1 _ _ _ | exact At.new2 _ _ _ _ | exact At.new3 _ _ _ _ _ | exact At.nx1 _ _ _ | exact At.nx2 _ _ _ _ | exact At.nx3 _ _ _ _ _ | exact At.ny1 _ _ _ _ | exact At.ny2 _ _ _ _ _ | exact At.ny3 _ _ _ _ _ _ | exact At.nz1 _ _ _ _ _ | exact At.nz2 _ _ _ _ _ _ | exact At.nz3 _ _ _ _ _ _ _ | exact Has.new1 _ _ _ | exact Has.new2 _ _ _ _ | exact Has.new3 _ _ _ _ _ | exact Has.nx1 _ _ _ | exact Has.nx2 _ _ _ _ | exact Has.nx3 _ _ _ _ _ | exact Has.ny1 _ _ _ _ | exact Has.ny2 _ _ _ _ _ | exact Has.ny3 _ _ _ _ _ _ | exact Has.nz1 _ _ _ _ _ | exact Has.nz2 _ _ _ _ _ _ | exact Has.nz3 _ _ _ _ _ _ _ | refine At.fill1 ?_ _ | refine At.fill2 ?_ _ _ | refine At.fill3 ?_ _ _ _ | refine At.swap ?_ (by first | omega | (simp; omega)) _ _ | refine At.alloc ?_ _ | refine At.drew ?_ | refine At.skip ?_ (by first | omega | (simp; omega)) _ _ | refine At.below (by assumption) ?_ | refine Has.alloc ?_ _ | refine Has.drew ?_ | refine Has.set ?_ _ _ _ | refine Has.below (by assumption) ?_)); done)
      · ((with_reducible repeat' (first | assumption | exact At.new1 _ _ _ | exact At.new2 _ _ _ _ | exact At.new3 _ _ _ _ _ | exact At.nx1 _ _ _ | exact At.nx2 _ _ _ _ | exact At.nx3 _ _ _ _ _ | exact At.ny1 _ _ _ _ | exact At.ny2 _ _ _ _ _ | exact At.ny3 _ _ _ _ _ _ | exact At.nz1 _ _ _ _ _ | exact At.nz2 _ _ _ _ _ _ | exact At.nz3 _ _ _ _ _ _ _ | exact Has.new1 _ _ _ | exact Has.new2 _ _ _ _ | exact Has.new3 _ _ _ _ _ | exact Has.nx1 _ _ _ | exact Has.nx2 _ _ _ _ | exact Has.nx3 _ _ _ _ _ | exact Has.ny1 _ _ _ _ | exact Has.ny2 _ _ _ _ _ | exact Has.ny3 _ _ _ _ _ _ | exact Has.nz1 _ _ _ _ _ | exact Has.nz2 _ _ _ _ _ _ | exact Has.nz3 _ _ _ _ _ _ _ | refine At.fill1 ?_ _ | refine At.fill2 ?_ _ _ | refine At.fill3 ?_ _ _ _ | refine At.swap ?_ (by first | omega | (simp; omega)) _ _ | refine At.alloc ?_ _ | refine At.drew ?_ | refine At.skip ?_ (by first | omega | (simp; omega)) _ _ | refine At.below (by assumption) ?_ | refine Has.alloc ?_ _ | refine Has.drew ?_ | refine Has.set ?_ _ _ _ | refine Has.below (by assumption) ?_)); done)
      · rw [← HCS.out]; ((with_reducible repeat' (first | assumption | exact At.nxArr _ _ CS _ | exact At.newArr _ CS _ | exact At.new1 _ _ _ | exact At.new2 _ _ _ _ | exact At.new3 _ _ _ _ _ | exact At.nx1 _ _ _ | exact At.nx2 _ _ _ _ | exact At.nx3 _ _ _ _ _ | exact At.ny1 _ _ _ _ | exact At.ny2 _ _ _ _ _ | exact At.ny3 _ _ _ _ _ _ | exact At.nz1 _ _ _ _ _ | exact At.nz2 _ _ _ _ _ _ | exact At.nz3 _ _ _ _ _ _ _ | exact Has.new1 _ _ _ | exact Has.new2 _ _ _ _ | exact Has.new3 _ _ _ _ _ | exact Has.nx1 _ _ _ | exact Has.nx2 _ _ _ _ | exact Has.nx3 _ _ _ _ _ | exact Has.ny1 _ _ _ _ | exact Has.ny2 _ _ _ _ _ | exact Has.ny3 _ _ _ _ _ _ | exact Has.nz1 _ _ _ _ _ | exact Has.nz2 _ _ _ _ _ _ | exact Has.nz3 _ _ _ _ _ _ _ | refine At.fill1 ?_ _ | refine At.fill2 ?_ _ _ | refine At.fill3 ?_ _ _ _ | refine At.swap ?_ (by first | omega | (simp; omega)) _ _ | refine At.alloc ?_ _ | refine At.drew ?_ | refine At.skip ?_ (by first | omega | (simp; omega)) _ _ | refine At.below (by assumption) ?_ | refine Has.alloc ?_ _ | refine Has.drew ?_ | refine Has.set ?_ _ _ _ | refine Has.below (by assumption) ?_)); done)
      · ((with_reducible repeat' (first | assumption | exact At.new1 _ _ _ | exact At.new2 _ _ _ _ | exact At.new3 _ _ _ _ _ | exact At.nx1 _ _ _ | exact At.nx2 _ _ _ _ | exact At.nx3 _ _ _ _ _ | exact At.ny1 _ _ _ _ | exact At.ny2 _ _ _ _ _ | exact At.ny3 _ _ _ _ _ _ | exact At.nz1 _ _ _ _ _ | exact At.nz2 _ _ _ _ _ _ | exact At.nz3 _ _ _ _ _ _ _ | exact Has.new1 _ _ _ | exact Has.new2 _ _ _ _ | exact Has.new3 _ _ _ _ _ | exact Has.nx1 _ _ _ | exact Has.nx2 _ _ _ _ | exact Has.nx3 _ _ _ _ _ | exact Has.ny1 _ _ _ _ | exact Has.ny2 _ _ _ _ _ | exact Has.ny3 _ _ _ _ _ _ | exact Has.nz1 _ _ _ _ _ | exact Has.nz2 _ _ _ _ _ _ | exact Has.nz3 _ _ _ _ _ _ _ | refine At.fill1 ?_ _ | refine At.fill2 ?_ _ _ | refine At.fill3 ?_ _ _ _ | refine At.swap ?_ (by first | omega | (simp; omega)) _ _ | refine At.alloc ?_ _ | refine At.drew ?_ | refine At.skip ?_ (by first | omega | (simp; omega)) _ _ | refine At.below (by assumption) ?_ | refine Has.alloc ?_ _ | refine Has.drew ?_ | refine Has.set ?_ _ _ _ | refine Has.below (by assumption) ?_)); done)
      · first | omega | (simp; omega)
      · first | omega | (simp; omega)
      · first | omega | (simp; omega)
      · first | omega | (simp; omega)
      · first | omega | (simp; omega)
      · first | omega | (simp; omega)
      · ((with_reducible repeat' (first | assumption | refine Gr.drew ?_ | refine Gr.alloc ?_ _ | refine Gr.set ?_ (by first | omega | (simp; omega)) _ _ | exact Gr.refl _)); done)
  case rest =>
    clear P0 CB mk HCS
    obtain ⟨C, A, B, rfl, rfl, E⟩ := hcut
    obtain ⟨q0, q1, q2⟩ := E.out.a0.c3
    go_wp2
    clear q0 q1 q2
    go_loopw [31] (fun t wr => ∃ (k : Nat) (LA : List Int), k ≤ n ∧ t = .int .i64 (k : Int) ∧ Hid (PkF w wr C A B [.int .i64 m, .int .i64 n, .slice (some ⟨b, o, none⟩) K cap] [.int .i64 m, .int .i64 n, .slice (some ⟨B, 0, none⟩) K K] LA (List.replicate K 0)) ∧ Hid (LA.length = K ∧ ∀ r c, r < k → c < m → gl LA (r * m + c) = lnB false (fun x => gl l (r * m + x)) m rch c)) (fun t _ => n - (intOf t).toNat)
    case atStart => exact ⟨0, _, Nat.zero_le _, rfl, E, hidb ⟨by simp, fun r c h => absurd h (Nat.not_lt_zero _)⟩⟩
    case round =>
      clear E
      obtain ⟨k, LA, hk, rfl, E, HI⟩ := hrel
      obtain ⟨q0, q1, q2⟩ := E.out.a0.c3
      by_cases h1 : k < n
      · have h1' : (k : Int) < (n : Int) := by omega
        have bb := HB.out
        have e1 : IntKind.i64.wrap ((k : Int) + 1) = ((k + 1 : Nat) : Int) := wrap_in (by omega) (by omega)
        have pk1 : k * m ≤ 128 * 128 := Nat.mul_le_mul (by omega) (by omega)
        have hx : ∀ i, i < m → k * m + i * 1 < l.length ∧ k * m + i * 1 < LA.length := fun i hi => by
          rw [Nat.mul_one, HI.out.1, HK.out.2]
          exact ⟨HOk.out.cell hi h1, HOk.out.cell hi h1⟩
        have KP : Hid (∀ W, PkF w W C A B [.int .i64 m, .int .i64 n, .slice (some ⟨b, o, none⟩) K cap] [.int .i64 m, .int .i64 n, .slice (some ⟨B, 0, none⟩) K K] LA (List.replicate K 0) → Calls Tryd.prog 41 #[.agg #[.int .i64 ((k * m : Nat) : Int), .int .i64 1, .int .i64 (m : Int)], .slice (some ⟨b, o, none⟩) K cap, .slice (some ⟨A, 0, none⟩) K K, .int .i64 rI, .func (.func 29) #[] #[]] W fun e w' => e = .returned (.tuple #[]) ∧ ∃ L', PkF w w' C A B [.int .i64 m, .int .i64 n, .slice (some ⟨b, o, none⟩) K cap] [.int .i64 m, .int .i64 n, .slice (some ⟨B, 0, none⟩) K K] L' (List.replicate K 0) ∧ (L'.length = K ∧ ∀ r c, r < k + 1 → c < m → gl L' (r * m + c) = lnB false (fun x => gl l (r * m + x)) m rch c)) := fun W hE => by
          have hne : ¬ b = A := by have := HRs.out.lt; have := hE.wa; omega
          have := pickL (k * m) 1 m rch (F := l) (L := LA) W (HRs.out.isl.below hE.gr.out) hE.aa hne (by omega) (by omega) (by omega) (by omega) (by omega) hx
          rw [HI.out.1, ← HK.out.2, ← HrI.out] at this
          refine this.mono ?_
          rintro e w' ⟨rfl, L', g1, g2, g3, g4, g5⟩
          refine ⟨rfl, L', hE.onA g5 g2, g1, fun r c hr hc => ?_⟩
          by_cases er : r = k
          · subst er
            have := g3 c hc
            simpa only [Nat.mul_one] using this
          · rw [g4 _ (fun i hi e => ?_)]
            · exact HI.out.2 r c (by omega) hc
            · rw [Nat.mul_one] at e
              have := (div_two hc hi e).1
              exact er this
        obtain ⟨z, hz⟩ : ∃ z : Int, z = ((k * m : Nat) : Int) := ⟨_, rfl⟩
        have e2 : IntKind.i64.wrap ((k : Int) * (m : Int)) = z := by rw [hz, ← Int.natCast_mul]; exact wrap_in (by omega) (by omega)
        rw [← hz] at KP
        clear bb pk1 hx hz
        go_wp2_with fail
        refine (KP.out _ E.out).mono ?_
        rintro e w2 ⟨rfl, L', hE, hI⟩
        have HE := hidb hE
        have HI2 := hidb hI
        clear q0 q1 q2 hE hI
        go_wp2
        go_roundw
        case rel => exact ⟨k + 1, L', by omega, rfl, HE, HI2⟩
        case measure => simp [intOf]; omega
      · have h1' : ¬ (k : Int) < (n : Int) := by omega
        have hkn : k = n := by omega
        rw [hkn] at HI
        clear hkn hk
        go_wp2
        clear q0 q1 q2
        go_loopw [50] (fun t wr => ∃ (c : Nat) (LB : List Int), c ≤ m ∧ t = .int .i64 (c : Int) ∧ Hid (PkF w wr C A B [.int .i64 m, .int .i64 n, .slice (some ⟨b, o, none⟩) K cap] [.int .i64 m, .int .i64 n, .slice (some ⟨B, 0, none⟩) K K] LA LB) ∧ Hid (LB.length = K ∧ ∀ y x, y < n → x < c → gl LB (y * m + x) = blB false l m n rch y x)) (fun t _ => m - (intOf t).toNat)
        case atStart => exact ⟨0, _, Nat.zero_le _, rfl, E, hidb ⟨by simp, fun y x _ h => absurd h (Nat.not_lt_zero _)⟩⟩
        case round =>
          clear E
          obtain ⟨c, LB, hcm, rfl, E, HJ⟩ := hrel
          obtain ⟨q0, q1, q2⟩ := E.out.a0.c3
          obtain ⟨d0, d1, d2⟩ := E.out.c0.c3
          by_cases h2 : c < m
          · have h2' : (c : Int) < (m : Int) := by omega
            have bb := HB.out
            have e1 : IntKind.i64.wrap ((c : Int) + 1) = ((c + 1 : Nat) : Int) := wrap_in (by omega) (by omega)
            have hx : ∀ i, i < n → c + i * m < LA.length ∧ c + i * m < LB.length := fun i hi => by
              rw [HI.out.1, HJ.out.1, HK.out.2, Nat.add_comm]
              exact ⟨HOk.out.cell h2 hi, HOk.out.cell h2 hi⟩
            have KP : Hid (∀ W, PkF w W C A B [.int .i64 m, .int .i64 n, .slice (some ⟨b, o, none⟩) K cap] [.int .i64 m, .int .i64 n, .slice (some ⟨B, 0, none⟩) K K] LA LB → Calls Tryd.prog 41 #[.agg #[.int .i64 (c : Int), .int .i64 (m : Int), .int .i64 (n : Int)], .slice (some ⟨A, 0, none⟩) K K, .slice (some ⟨B, 0, none⟩) K K, .int .i64 rI, .func (.func 29) #[] #[]] W fun e w' => e = .returned (.tuple #[]) ∧ ∃ L', PkF w w' C A B [.int .i64 m, .int .i64 n, .slice (some ⟨b, o, none⟩) K cap] [.int .i64 m, .int .i64 n, .slice (some ⟨B, 0, none⟩) K K] LA L' ∧ (L'.length = K ∧ ∀ y x, y < n → x < c + 1 → gl L' (y * m + x) = blB false l m n rch y x)) := fun W hE => by
              have := pickL c m n rch (F := LA) (L := LB) W (hE.aa.isl K) hE.bb hE.nab (by omega) (by omega) (by omega) (by omega) (by omega) hx
              rw [HI.out.1, HJ.out.1, ← HrI.out] at this
              refine this.mono ?_
              rintro e w' ⟨rfl, L', g1, g2, g3, g4, g5⟩
              refine ⟨rfl, L', hE.onB g5 g2, g1, fun y x hy hx2 => ?_⟩
              by_cases ex : x = c
              · subst ex
                have := g3 y hy
                rw [Nat.add_comm] at this
                rw [this]
                unfold blB
                refine lnB_congr hy (fun i hi => ?_)
                rw [Nat.add_comm]
                exact HI.out.2 i x hi h2
              · rw [g4 _ (fun i hi e => ?_)]
                · exact HJ.out.2 y x hy (by omega)
                · rw [Nat.add_comm c] at e
                  have := (div_two (show x < m by omega) h2 e).2
                  exact ex this
            clear bb hx
            go_wp2_with fail
            refine (KP.out _ E.out).mono ?_
            rintro e w2 ⟨rfl, L', hE, hI⟩
            have HE := hidb hE
            have HI2 := hidb hI
            clear q0 q1 q2 d0 d1 d2 hE hI
            go_wp2
            go_roundw
            case rel => exact ⟨c + 1, L', by omega, rfl, HE, HI2⟩
            case measure => simp [intOf]; omega
          · have h2' : ¬ (c : Int) < (m : Int) := by omega
            have hcm2 : c = m := by omega
            rw [hcm2] at HJ
            have HM : Hid (LB = mpL false l m n rch) := by
              have hm := HK.out.1
              refine cells_all HOk.out.m1 (by rw [HJ.out.1, hm, Nat.mul_comm]) (mpL_len ..) (fun y x hy hx => ?_)
              rw [HJ.out.2 y x hy hx, mpL_at hy hx]
            rw [HM.out] at E
            clear hcm2 hcm
            obtain ⟨r0, r1, r2⟩ := E.out.a1.c3
            obtain ⟨f0, f1, f2⟩ := E.out.a1.f3
            have RH := E.out.a1.has (n := 3) rfl
            have lb := E.out.wb
            go_wp2
            refine bodyPost_ret (v := .tuple #[raV m n (.slice (some ⟨B, 0, none⟩) K K), .nilIface]) (by simp [results, Tryd.results27, go_sem, r0, r1, r2]) rfl ⟨B, rfl, ?_, by omega, ?_⟩
            · have hne : ¬ w.heap.size + 1 = B := by omega
              exact ((E.out.bb.skip hne 0 _).skip hne 1 _).skip hne 2 _
            · exact ((E.out.gr.set (by omega) _ _).set (by omega) _ _).set (by omega) _ _
end Go.Proofs.YtphpfongdbidoaaDoor
