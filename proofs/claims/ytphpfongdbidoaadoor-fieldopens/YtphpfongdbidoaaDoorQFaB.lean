/-
  field.line.pick: along a row or a column (FaB.tpl, once for each way).
-/
import Derived.Test.YtphpfongdbidoaaDoorQFaA
import Derived.Test.YtphpfongdbidoaaDoorQOn
import Derived.Test.YtphpfongdbidoaaDoorQFsC
namespace Go.Proofs.YtphpfongdbidoaaDoor
open Go.RowKit

set_option maxRecDepth 4000 in
theorem callM (x y : Int) (w : World) : Calls Tryd.prog 28 #[.int .i64 x, .int .i64 y] w fun e w' => e = .returned (.int .i64 (pk true x y)) ∧ w' = w := by
  go_enter Tryd.func28, Tryd.ntmps28
  go_wp2
  all_goals
    go_ret
    refine ⟨?_, rfl⟩
    first | rfl | (refine congrArg (fun z => Ending.returned (.int .i64 z)) ?_; simp [pk]; omega)
set_option maxRecDepth 4000 in
set_option maxHeartbeats 8000000 in
theorem pickM (first step many rch : Nat) {F L : List Int} {ad : Option Addr} {b o cap T : Nat} (w : World) (hF : ISl w ad b o cap F) (hT : At w T (ir L)) (hne : ¬ b = T) (hm : many ≤ 128) (hs : 1 ≤ step) (hs2 : step ≤ 128) (hf : first ≤ 20000) (hr : rch ≤ 128) (hx : ∀ i, i < many → first + i * step < F.length ∧ first + i * step < L.length) : Calls Tryd.prog 41 #[.agg #[.int .i64 (first : Int), .int .i64 (step : Int), .int .i64 (many : Int)], .slice ad F.length cap, .slice (some ⟨T, 0, none⟩) L.length L.length, .int .i64 (rch : Int), .func (.func 28) #[] #[]] w fun e w' => e = .returned (.tuple #[]) ∧ ∃ L', L'.length = L.length ∧ At w' T (ir L') ∧ (∀ i, i < many → gl L' (first + i * step) = lnB true (fun j => gl F (first + j * step)) many rch i) ∧ (∀ k, (∀ i, i < many → ¬ k = first + i * step) → gl L' k = gl L k) ∧ Onl T w w' := by
  have HF := hidb hF
  have HX := hidb hx
  have HB := hidb (show many ≤ 128 ∧ 1 ≤ step ∧ step ≤ 128 ∧ first ≤ 20000 ∧ rch ≤ 128 from ⟨hm, hs, hs2, hf, hr⟩)
  obtain ⟨fI, hfI⟩ : ∃ q : Int, q = (first : Int) := ⟨_, rfl⟩
  obtain ⟨sI, hsI⟩ : ∃ q : Int, q = (step : Int) := ⟨_, rfl⟩
  obtain ⟨rI, hrI⟩ : ∃ q : Int, q = (rch : Int) := ⟨_, rfl⟩
  rw [← hfI, ← hsI, ← hrI]
  have HfI := hidb hfI
  have HsI := hidb hsI
  have HrI := hidb hrI
  have HTl := hidb hT.lt
  have A0 := hidb (hT.alloc (.cells #[.int .i64 fI, .int .i64 sI, .int .i64 (many : Int)] 61))
  have A1 := hidb (At.new3 w (.int .i64 fI) (.int .i64 sI) (.int .i64 (many : Int)) 61)
  have O0 := hidb ((Onl.refl T w).alloc (.cells #[.int .i64 fI, .int .i64 sI, .int .i64 (many : Int)] 61))
  have CA := hidb (fun n W h1 h2 h3 h4 => around_any n rI (many : Int) h1 h2 h3 h4 W)
  clear hF hT hm hs hs2 hf hr hx hfI hsI hrI
  go_enter Tryd.func41, Tryd.ntmps41
  go_wp2
  generalize w.alloc (.cells #[.int .i64 fI, .int .i64 sI, .int .i64 (many : Int)] 61) = w1 at *
  generalize hD : w.heap.size = D at *
  have HD := hidb hD
  clear hD
  go_loopw [17] (fun t wr => ∃ (k : Nat) (M : List Int), k ≤ many ∧ t = .int .i64 (k : Int) ∧ Hid (At wr T (ir M)) ∧ Hid (At wr D [.int .i64 fI, .int .i64 sI, .int .i64 (many : Int)]) ∧ Hid (Onl T w wr) ∧ Hid (M.length = L.length ∧ (∀ i, i < k → gl M (first + i * step) = lnB true (fun j => gl F (first + j * step)) many rch i) ∧ (∀ j, (∀ i, i < k → ¬ j = first + i * step) → gl M j = gl L j))) (fun t _ => many - (intOf t).toNat)
  case atStart => exact ⟨0, L, Nat.zero_le _, rfl, A0, A1, O0, hidb ⟨rfl, fun i hi => absurd hi (Nat.not_lt_zero _), fun _ _ => rfl⟩⟩
  case round =>
    clear A0 A1 O0
    obtain ⟨k, M, hk, rfl, A0, A1, O0, HI⟩ := hrel
    obtain ⟨d0, d1, d2⟩ := A1.out.c3
    by_cases h1 : k < many
    · have h1' : (k : Int) < (many : Int) := by omega
      have e1 : IntKind.i64.wrap ((k : Int) + 1) = ((k + 1 : Nat) : Int) := wrap_in (by omega) (by have := HB.out; omega)
      have bb := HB.out
      have KA := hidb (fun W => CA.out (k : Int) W (by omega) (by omega) (by have := HrI.out; omega) (by have := HrI.out; omega))
      obtain ⟨lo, hlo⟩ : ∃ q, q = k - rch := ⟨_, rfl⟩
      obtain ⟨hh, hhh⟩ : ∃ q, q = hbN k rch many := ⟨_, rfl⟩
      have hh2 : hh = min (k + rch + 1) many := hhh
      have x1 : max ((k : Int) - rI) 0 = (lo : Int) := by have := HrI.out; omega
      have x2 : min ((k : Int) + rI + 1) (many : Int) = (hh : Int) := by have := HrI.out; omega
      rw [x1, x2] at KA
      have lh : lo ≤ k ∧ k < hh ∧ hh ≤ many := by omega
      have HLo := hidb hlo
      have HHh := hidb hhh
      have ad1 : ∀ q : Nat, q < many → IntKind.i64.wrap ((q : Int) * sI) = ((q * step : Nat) : Int) ∧ IntKind.i64.wrap (fI + ((q * step : Nat) : Int)) = ((first + q * step : Nat) : Int) := fun q hq => by
        have pq : q * step ≤ 128 * 128 := Nat.mul_le_mul (by omega) (by omega)
        rw [HsI.out, HfI.out, ← Int.natCast_mul]
        generalize q * step = z at *
        exact ⟨wrap_in (by omega) (by omega), by rw [show (first : Int) + (z : Int) = ((first + z : Nat) : Int) by omega]; exact wrap_in (by omega) (by omega)⟩
      have HAd := hidb ad1
      obtain ⟨a1, a2⟩ := ad1 lo (by omega)
      obtain ⟨i0, hi0⟩ : ∃ q, q = first + lo * step := ⟨_, rfl⟩
      obtain ⟨z0, hz0⟩ : ∃ q : Int, q = ((lo * step : Nat) : Int) := ⟨_, rfl⟩
      rw [← hz0] at a1 a2
      rw [← hi0] at a2
      have i0l : i0 < F.length := by rw [hi0]; exact (HX.out lo (by omega)).1
      have ix0 := HF.out.ix i0 i0l
      have cF := (HF.out.onl O0.out hne).gcell i0l
      have HI0 := hidb hi0
      have lo1 : IntKind.i64.wrap ((lo : Int) + 1) = ((lo + 1 : Nat) : Int) := wrap_in (by omega) (by omega)
      have Hlh := hidb lh
      have HP0 : Hid (gl F i0 = pr true (fun j => gl F (first + j * step)) lo 0) := by show _ = _; rw [hi0]; rfl
      clear bb ad1 hlo hhh hh2 x1 x2 hz0 hi0 i0l lh
      go_wp2_with fail
      refine (KA.out _).mono ?_
      rintro e w2 ⟨rfl, rfl⟩
      go_wp2
      clear a1 a2 cF ix0 lo1 d0 d1 d2
      go_loopw [13, 14] (fun s t wr => ∃ (j : Nat), (lo + 1 + j ≤ hh) ∧ t = .int .i64 ((lo + 1 + j : Nat) : Int) ∧ s = .int .i64 (pr true (fun j => gl F (first + j * step)) lo j) ∧ Hid (At wr T (ir M)) ∧ Hid (At wr D [.int .i64 fI, .int .i64 sI, .int .i64 (many : Int)]) ∧ Hid (Onl T w wr)) (fun _ t _ => (256 - intOf t).toNat)
      case atStart => exact ⟨0, by have := Hlh.out; omega, rfl, by rw [HP0.out], A0, A1, O0⟩
      case round =>
        clear A0 A1 O0
        obtain ⟨j, hj, rfl, rfl, A0, A1, O0⟩ := hrel
        obtain ⟨d0, d1, d2⟩ := A1.out.c3
        by_cases h2 : lo + 1 + j < hh
        · obtain ⟨q, hq⟩ : ∃ q, q = lo + 1 + j := ⟨_, rfl⟩
          rw [← hq]
          have h2' : (q : Int) < (hh : Int) := by omega
          obtain ⟨a1, a2⟩ := HAd.out q (by have := Hlh.out; omega)
          obtain ⟨i1, hi1⟩ : ∃ q', q' = first + q * step := ⟨_, rfl⟩
          obtain ⟨z1, hz1⟩ : ∃ q' : Int, q' = ((q * step : Nat) : Int) := ⟨_, rfl⟩
          rw [← hz1] at a1 a2
          rw [← hi1] at a2
          have i1l : i1 < F.length := by rw [hi1]; exact (HX.out q (by have := Hlh.out; omega)).1
          have ix1 := HF.out.ix i1 i1l
          have cF := (HF.out.onl O0.out hne).gcell i1l
          have e2 : IntKind.i64.wrap ((q : Int) + 1) = ((q + 1 : Nat) : Int) := wrap_in (by omega) (by have := HB.out; have := Hlh.out; omega)
          have HN : Hid (pk true (pr true (fun j => gl F (first + j * step)) lo j) (gl F i1) = pr true (fun j => gl F (first + j * step)) lo (j + 1)) := by
            show _ = _
            rw [hi1, hq, show lo + 1 + j = lo + j + 1 by omega]
            rfl
          have HQ := hidb hq
          have HQB := hidb (show q ≤ 128 by have := HB.out; have := Hlh.out; omega)
          have KC := hidb (fun x y W => callM x y W)
          generalize pr true (fun j => gl F (first + j * step)) lo j = pv at *
          generalize gl F i1 = fv at *
          clear hq hi1 hz1 i1l h2
          go_wp2_with fail
          refine (KC.out _ _ _).mono ?_
          rintro e w3 ⟨rfl, rfl⟩
          go_wp2
          go_roundw
          case rel => exact ⟨j + 1, by have := HQ.out; omega, by have := HQ.out; refine congrArg (Value.int .i64) ?_; omega, by rw [HN.out], A0, A1, O0⟩
          case measure => have := HQB.out; simp [intOf]; omega
        · have h2' : ¬ ((lo + 1 + j : Nat) : Int) < (hh : Int) := by omega
          have hjj : j = hh - lo - 1 := by have := Hlh.out; omega
          have HV : Hid (pr true (fun j => gl F (first + j * step)) lo j = lnB true (fun j => gl F (first + j * step)) many rch k) := by
            show _ = _
            rw [hjj, HLo.out, HHh.out]
            rfl
          obtain ⟨a1, a2⟩ := HAd.out k h1
          obtain ⟨i1, hi1⟩ : ∃ q', q' = first + k * step := ⟨_, rfl⟩
          obtain ⟨z1, hz1⟩ : ∃ q' : Int, q' = ((k * step : Nat) : Int) := ⟨_, rfl⟩
          rw [← hz1] at a1 a2
          rw [← hi1] at a2
          have i1l : i1 < L.length := by rw [hi1]; exact (HX.out k h1).2
          have i1m : i1 < M.length := by rw [HI.out.1]; exact i1l
          have ixT := iindex T 0 L.length L.length i1 i1l
          simp only [Nat.zero_add] at ixT
          obtain ⟨cT, fT⟩ := A0.out.get i1m
          have HN : Hid ((M.set i1 (lnB true (fun j => gl F (first + j * step)) many rch k)).length = L.length ∧ (∀ i, i < k + 1 → gl (M.set i1 (lnB true (fun j => gl F (first + j * step)) many rch k)) (first + i * step) = lnB true (fun j => gl F (first + j * step)) many rch i) ∧ (∀ j, (∀ i, i < k + 1 → ¬ j = first + i * step) → gl (M.set i1 (lnB true (fun j => gl F (first + j * step)) many rch k)) j = gl L j)) := by
            obtain ⟨q1, q2, q3⟩ := HI.out
            refine ⟨by rw [List.length_set]; exact q1, fun i hi => ?_, fun j hj => ?_⟩
            · rw [gl_set i1m]
              by_cases e : i = k
              · rw [e, if_pos hi1]
              · rw [if_neg ?_]
                · exact q2 i (by omega)
                · rw [hi1]
                  intro h
                  have h3 : k * step = i * step := by omega
                  exact e (Nat.eq_of_mul_eq_mul_right (by have := HB.out; omega) h3).symm
            · rw [gl_set i1m, if_neg (by rw [hi1]; exact fun h => hj k (by omega) h.symm)]
              exact q3 j (fun i hi => hj i (by omega))
          rw [HV.out]
          generalize lnB true (fun j => gl F (first + j * step)) many rch k = rv at *
          generalize M[i1] = ov at *
          have ntd : ¬ T = D := by have := HD.out; have := HTl.out; omega
          clear hjj hi1 hz1 i1l i1m HI h2
          go_wp2
          go_roundw
          case rel => exact ⟨k + 1, _, by omega, rfl, by rw [← ir_set]; exact A0.out.put _ _, A1.out.skip ntd _ _, O0.out.set _ _, HN⟩
          case measure => simp [intOf]; omega
    · have h1' : ¬ (k : Int) < (many : Int) := by omega
      have hkm : k = many := by omega
      rw [hkm] at HI
      clear hkm
      go_wp2
      refine bodyPost_end (v := .tuple #[]) (by simp [results, Tryd.results41, go_sem]) rfl ⟨rfl, M, HI.out.1, A0.out, HI.out.2.1, HI.out.2.2, O0.out⟩
set_option maxRecDepth 4000 in
theorem callL (x y : Int) (w : World) : Calls Tryd.prog 29 #[.int .i64 x, .int .i64 y] w fun e w' => e = .returned (.int .i64 (pk false x y)) ∧ w' = w := by
  go_enter Tryd.func29, Tryd.ntmps29
  go_wp2
  all_goals
    go_ret
    refine ⟨?_, rfl⟩
    first | rfl | (refine congrArg (fun z => Ending.returned (.int .i64 z)) ?_; simp [pk]; omega)
set_option maxRecDepth 4000 in
set_option maxHeartbeats 8000000 in
theorem pickL (first step many rch : Nat) {F L : List Int} {ad : Option Addr} {b o cap T : Nat} (w : World) (hF : ISl w ad b o cap F) (hT : At w T (ir L)) (hne : ¬ b = T) (hm : many ≤ 128) (hs : 1 ≤ step) (hs2 : step ≤ 128) (hf : first ≤ 20000) (hr : rch ≤ 128) (hx : ∀ i, i < many → first + i * step < F.length ∧ first + i * step < L.length) : Calls Tryd.prog 41 #[.agg #[.int .i64 (first : Int), .int .i64 (step : Int), .int .i64 (many : Int)], .slice ad F.length cap, .slice (some ⟨T, 0, none⟩) L.length L.length, .int .i64 (rch : Int), .func (.func 29) #[] #[]] w fun e w' => e = .returned (.tuple #[]) ∧ ∃ L', L'.length = L.length ∧ At w' T (ir L') ∧ (∀ i, i < many → gl L' (first + i * step) = lnB false (fun j => gl F (first + j * step)) many rch i) ∧ (∀ k, (∀ i, i < many → ¬ k = first + i * step) → gl L' k = gl L k) ∧ Onl T w w' := by
  have HF := hidb hF
  have HX := hidb hx
  have HB := hidb (show many ≤ 128 ∧ 1 ≤ step ∧ step ≤ 128 ∧ first ≤ 20000 ∧ rch ≤ 128 from ⟨hm, hs, hs2, hf, hr⟩)
  obtain ⟨fI, hfI⟩ : ∃ q : Int, q = (first : Int) := ⟨_, rfl⟩
  obtain ⟨sI, hsI⟩ : ∃ q : Int, q = (step : Int) := ⟨_, rfl⟩
  obtain ⟨rI, hrI⟩ : ∃ q : Int, q = (rch : Int) := ⟨_, rfl⟩
  rw [← hfI, ← hsI, ← hrI]
  have HfI := hidb hfI
  have HsI := hidb hsI
  have HrI := hidb hrI
  have HTl := hidb hT.lt
  have A0 := hidb (hT.alloc (.cells #[.int .i64 fI, .int .i64 sI, .int .i64 (many : Int)] 61))
  have A1 := hidb (At.new3 w (.int .i64 fI) (.int .i64 sI) (.int .i64 (many : Int)) 61)
  have O0 := hidb ((Onl.refl T w).alloc (.cells #[.int .i64 fI, .int .i64 sI, .int .i64 (many : Int)] 61))
  have CA := hidb (fun n W h1 h2 h3 h4 => around_any n rI (many : Int) h1 h2 h3 h4 W)
  clear hF hT hm hs hs2 hf hr hx hfI hsI hrI
  go_enter Tryd.func41, Tryd.ntmps41
  go_wp2
  generalize w.alloc (.cells #[.int .i64 fI, .int .i64 sI, .int .i64 (many : Int)] 61) = w1 at *
  generalize hD : w.heap.size = D at *
  have HD := hidb hD
  clear hD
  go_loopw [17] (fun t wr => ∃ (k : Nat) (M : List Int), k ≤ many ∧ t = .int .i64 (k : Int) ∧ Hid (At wr T (ir M)) ∧ Hid (At wr D [.int .i64 fI, .int .i64 sI, .int .i64 (many : Int)]) ∧ Hid (Onl T w wr) ∧ Hid (M.length = L.length ∧ (∀ i, i < k → gl M (first + i * step) = lnB false (fun j => gl F (first + j * step)) many rch i) ∧ (∀ j, (∀ i, i < k → ¬ j = first + i * step) → gl M j = gl L j))) (fun t _ => many - (intOf t).toNat)
  case atStart => exact ⟨0, L, Nat.zero_le _, rfl, A0, A1, O0, hidb ⟨rfl, fun i hi => absurd hi (Nat.not_lt_zero _), fun _ _ => rfl⟩⟩
  case round =>
    clear A0 A1 O0
    obtain ⟨k, M, hk, rfl, A0, A1, O0, HI⟩ := hrel
    obtain ⟨d0, d1, d2⟩ := A1.out.c3
    by_cases h1 : k < many
    · have h1' : (k : Int) < (many : Int) := by omega
      have e1 : IntKind.i64.wrap ((k : Int) + 1) = ((k + 1 : Nat) : Int) := wrap_in (by omega) (by have := HB.out; omega)
      have bb := HB.out
      have KA := hidb (fun W => CA.out (k : Int) W (by omega) (by omega) (by have := HrI.out; omega) (by have := HrI.out; omega))
      obtain ⟨lo, hlo⟩ : ∃ q, q = k - rch := ⟨_, rfl⟩
      obtain ⟨hh, hhh⟩ : ∃ q, q = hbN k rch many := ⟨_, rfl⟩
      have hh2 : hh = min (k + rch + 1) many := hhh
      have x1 : max ((k : Int) - rI) 0 = (lo : Int) := by have := HrI.out; omega
      have x2 : min ((k : Int) + rI + 1) (many : Int) = (hh : Int) := by have := HrI.out; omega
      rw [x1, x2] at KA
      have lh : lo ≤ k ∧ k < hh ∧ hh ≤ many := by omega
      have HLo := hidb hlo
      have HHh := hidb hhh
      have ad1 : ∀ q : Nat, q < many → IntKind.i64.wrap ((q : Int) * sI) = ((q * step : Nat) : Int) ∧ IntKind.i64.wrap (fI + ((q * step : Nat) : Int)) = ((first + q * step : Nat) : Int) := fun q hq => by
        have pq : q * step ≤ 128 * 128 := Nat.mul_le_mul (by omega) (by omega)
        rw [HsI.out, HfI.out, ← Int.natCast_mul]
        generalize q * step = z at *
        exact ⟨wrap_in (by omega) (by omega), by rw [show (first : Int) + (z : Int) = ((first + z : Nat) : Int) by omega]; exact wrap_in (by omega) (by omega)⟩
      have HAd := hidb ad1
      obtain ⟨a1, a2⟩ := ad1 lo (by omega)
      obtain ⟨i0, hi0⟩ : ∃ q, q = first + lo * step := ⟨_, rfl⟩
      obtain ⟨z0, hz0⟩ : ∃ q : Int, q = ((lo * step : Nat) : Int) := ⟨_, rfl⟩
      rw [← hz0] at a1 a2
      rw [← hi0] at a2
      have i0l : i0 < F.length := by rw [hi0]; exact (HX.out lo (by omega)).1
      have ix0 := HF.out.ix i0 i0l
      have cF := (HF.out.onl O0.out hne).gcell i0l
      have HI0 := hidb hi0
      have lo1 : IntKind.i64.wrap ((lo : Int) + 1) = ((lo + 1 : Nat) : Int) := wrap_in (by omega) (by omega)
      have Hlh := hidb lh
      have HP0 : Hid (gl F i0 = pr false (fun j => gl F (first + j * step)) lo 0) := by show _ = _; rw [hi0]; rfl
      clear bb ad1 hlo hhh hh2 x1 x2 hz0 hi0 i0l lh
      go_wp2_with fail
      refine (KA.out _).mono ?_
      rintro e w2 ⟨rfl, rfl⟩
      go_wp2
      clear a1 a2 cF ix0 lo1 d0 d1 d2
      go_loopw [13, 14] (fun s t wr => ∃ (j : Nat), (lo + 1 + j ≤ hh) ∧ t = .int .i64 ((lo + 1 + j : Nat) : Int) ∧ s = .int .i64 (pr false (fun j => gl F (first + j * step)) lo j) ∧ Hid (At wr T (ir M)) ∧ Hid (At wr D [.int .i64 fI, .int .i64 sI, .int .i64 (many : Int)]) ∧ Hid (Onl T w wr)) (fun _ t _ => (256 - intOf t).toNat)
      case atStart => exact ⟨0, by have := Hlh.out; omega, rfl, by rw [HP0.out], A0, A1, O0⟩
      case round =>
        clear A0 A1 O0
        obtain ⟨j, hj, rfl, rfl, A0, A1, O0⟩ := hrel
        obtain ⟨d0, d1, d2⟩ := A1.out.c3
        by_cases h2 : lo + 1 + j < hh
        · obtain ⟨q, hq⟩ : ∃ q, q = lo + 1 + j := ⟨_, rfl⟩
          rw [← hq]
          have h2' : (q : Int) < (hh : Int) := by omega
          obtain ⟨a1, a2⟩ := HAd.out q (by have := Hlh.out; omega)
          obtain ⟨i1, hi1⟩ : ∃ q', q' = first + q * step := ⟨_, rfl⟩
          obtain ⟨z1, hz1⟩ : ∃ q' : Int, q' = ((q * step : Nat) : Int) := ⟨_, rfl⟩
          rw [← hz1] at a1 a2
          rw [← hi1] at a2
          have i1l : i1 < F.length := by rw [hi1]; exact (HX.out q (by have := Hlh.out; omega)).1
          have ix1 := HF.out.ix i1 i1l
          have cF := (HF.out.onl O0.out hne).gcell i1l
          have e2 : IntKind.i64.wrap ((q : Int) + 1) = ((q + 1 : Nat) : Int) := wrap_in (by omega) (by have := HB.out; have := Hlh.out; omega)
          have HN : Hid (pk false (pr false (fun j => gl F (first + j * step)) lo j) (gl F i1) = pr false (fun j => gl F (first + j * step)) lo (j + 1)) := by
            show _ = _
            rw [hi1, hq, show lo + 1 + j = lo + j + 1 by omega]
            rfl
          have HQ := hidb hq
          have HQB := hidb (show q ≤ 128 by have := HB.out; have := Hlh.out; omega)
          have KC := hidb (fun x y W => callL x y W)
          generalize pr false (fun j => gl F (first + j * step)) lo j = pv at *
          generalize gl F i1 = fv at *
          clear hq hi1 hz1 i1l h2
          go_wp2_with fail
          refine (KC.out _ _ _).mono ?_
          rintro e w3 ⟨rfl, rfl⟩
          go_wp2
          go_roundw
          case rel => exact ⟨j + 1, by have := HQ.out; omega, by have := HQ.out; refine congrArg (Value.int .i64) ?_; omega, by rw [HN.out], A0, A1, O0⟩
          case measure => have := HQB.out; simp [intOf]; omega
        · have h2' : ¬ ((lo + 1 + j : Nat) : Int) < (hh : Int) := by omega
          have hjj : j = hh - lo - 1 := by have := Hlh.out; omega
          have HV : Hid (pr false (fun j => gl F (first + j * step)) lo j = lnB false (fun j => gl F (first + j * step)) many rch k) := by
            show _ = _
            rw [hjj, HLo.out, HHh.out]
            rfl
          obtain ⟨a1, a2⟩ := HAd.out k h1
          obtain ⟨i1, hi1⟩ : ∃ q', q' = first + k * step := ⟨_, rfl⟩
          obtain ⟨z1, hz1⟩ : ∃ q' : Int, q' = ((k * step : Nat) : Int) := ⟨_, rfl⟩
          rw [← hz1] at a1 a2
          rw [← hi1] at a2
          have i1l : i1 < L.length := by rw [hi1]; exact (HX.out k h1).2
          have i1m : i1 < M.length := by rw [HI.out.1]; exact i1l
          have ixT := iindex T 0 L.length L.length i1 i1l
          simp only [Nat.zero_add] at ixT
          obtain ⟨cT, fT⟩ := A0.out.get i1m
          have HN : Hid ((M.set i1 (lnB false (fun j => gl F (first + j * step)) many rch k)).length = L.length ∧ (∀ i, i < k + 1 → gl (M.set i1 (lnB false (fun j => gl F (first + j * step)) many rch k)) (first + i * step) = lnB false (fun j => gl F (first + j * step)) many rch i) ∧ (∀ j, (∀ i, i < k + 1 → ¬ j = first + i * step) → gl (M.set i1 (lnB false (fun j => gl F (first + j * step)) many rch k)) j = gl L j)) := by
            obtain ⟨q1, q2, q3⟩ := HI.out
            refine ⟨by rw [List.length_set]; exact q1, fun i hi => ?_, fun j hj => ?_⟩
            · rw [gl_set i1m]
              by_cases e : i = k
              · rw [e, if_pos hi1]
              · rw [if_neg ?_]
                · exact q2 i (by omega)
                · rw [hi1]
                  intro h
                  have h3 : k * step = i * step := by omega
                  exact e (Nat.eq_of_mul_eq_mul_right (by have := HB.out; omega) h3).symm
            · rw [gl_set i1m, if_neg (by rw [hi1]; exact fun h => hj k (by omega) h.symm)]
              exact q3 j (fun i hi => hj i (by omega))
          rw [HV.out]
          generalize lnB false (fun j => gl F (first + j * step)) many rch k = rv at *
          generalize M[i1] = ov at *
          have ntd : ¬ T = D := by have := HD.out; have := HTl.out; omega
          clear hjj hi1 hz1 i1l i1m HI h2
          go_wp2
          go_roundw
          case rel => exact ⟨k + 1, _, by omega, rfl, by rw [← ir_set]; exact A0.out.put _ _, A1.out.skip ntd _ _, O0.out.set _ _, HN⟩
          case measure => simp [intOf]; omega
    · have h1' : ¬ (k : Int) < (many : Int) := by omega
      have hkm : k = many := by omega
      rw [hkm] at HI
      clear hkm
      go_wp2
      refine bodyPost_end (v := .tuple #[]) (by simp [results, Tryd.results41, go_sem]) rfl ⟨rfl, M, HI.out.1, A0.out, HI.out.2.1, HI.out.2.2, O0.out⟩
end Go.Proofs.YtphpfongdbidoaaDoor
