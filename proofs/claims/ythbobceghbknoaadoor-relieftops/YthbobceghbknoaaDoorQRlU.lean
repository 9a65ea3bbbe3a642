/-
  relief.Above.
-/
import Derived.Test.YthbobceghbknoaaDoorQRlT
import Derived.Test.YthbobceghbknoaaDoorQRlD
namespace Go.Proofs.YthbobceghbknoaaDoor
open Go.RowKit

set_option maxRecDepth 4000 in
set_option maxHeartbeats 4000000 in
theorem above_A (g : Nat → Addr) {W H : Int} {ad : Option Addr} {b o cap : Nat} {l : List Int} (num den : Int) (w : World) (h : ISl w ad b o cap l) (ll : l.length ≤ 20000) (hl : Laid w g) (hv : ¬ vcode W H l = 0) : Calls Tryd.prog 14 #[raV W H (.slice ad l.length cap), .int .i64 num, .int .i64 den] w fun e w' => e = .returned (.tuple #[.int .i64 0, .int .i64 0, errV g (vcode W H l - 1)]) ∧ Gr w w' := by
  have G0 := hidb ((Gr.refl w).alloc (.cells #[.int .i64 W, .int .i64 H, .slice ad l.length cap] 31))
  have C1 := hidb (valid_any g W H ad b o cap l _ (h.below G0.out.out) ll (hl.below G0.out.out))
  rw [evc_of hv] at C1
  generalize vcode W H l - 1 = ei at *
  clear h ll hl hv
  go_enter Tryd.func14, Tryd.ntmps14
  go_wp2_with fail
  refine C1.out.mono ?_
  rintro e w1 ⟨rfl, hB⟩
  have G1 := hidb (Gr.step G0.out hB.out)
  clear hB G0
  go_wp2
  go_ret3
  exact ⟨rfl, G1.out⟩
def heI (num den : Int) : Bool := inI 1 1048576 den && inI (-4398046511104) 4398046511104 num
set_option maxRecDepth 4000 in
set_option maxHeartbeats 4000000 in
theorem above_B (g : Nat → Addr) {m n b o cap : Nat} {l : List Int} (num den : Int) (w : World) (h : Rs w b o cap l) (ok : Ok l m n) (hv : vcode m n l = 0) (hl : Laid w g) (he : heI num den = false) : Calls Tryd.prog 14 #[raV m n (.slice (some ⟨b, o, none⟩) l.length cap), .int .i64 num, .int .i64 den] w fun e w' => e = .returned (.tuple #[.int .i64 0, .int .i64 0, errV g 2]) ∧ Gr w w' := by
  have ll := ok.len_le
  have G0 := hidb ((Gr.refl w).alloc (.cells #[.int .i64 m, .int .i64 n, .slice (some ⟨b, o, none⟩) l.length cap] 31))
  have C1 := hidb (valid_any g m n (some ⟨b, o, none⟩) b o cap l _ (h.isl.below G0.out.out) (by omega) (hl.below G0.out.out))
  rw [hv, show evc g 0 = .nilIface from rfl] at C1
  have C2 := hidb (fun W1 => rwithin_any den 1 1048576 W1)
  have C3 := hidb (fun W1 => rwithin_any num (-4398046511104) 4398046511104 W1)
  have HL := hidb hl
  unfold heI at he
  generalize inI 1 1048576 den = b1 at *
  generalize inI (-4398046511104) 4398046511104 num = b2 at *
  clear h ok hl hv ll
  cases b1 <;> cases b2
  case true.true => cases he
  all_goals
    clear he
    go_enter Tryd.func14, Tryd.ntmps14
    go_wp2_with fail
    refine C1.out.mono ?_
    rintro e w1 ⟨rfl, hB⟩
    have G1 := hidb (Gr.step G0.out hB.out)
    clear hB G0 C1
    go_wp2_with fail
    refine (C2.out _).mono ?_
    rintro e w2 ⟨rfl, rfl⟩
    try
      go_wp2_with fail
      refine (C3.out _).mono ?_
      rintro e w2 ⟨rfl, rfl⟩
    have cE : w2.cell? ⟨1, 0, none⟩ = some (errV g 2) := (HL.out.below G1.out.out).cell 2 (by decide)
    go_upto_region 5 with fail
    go_quiet (fail)
    go_wp2
    go_ret3
    exact ⟨rfl, by first | exact G1.out.drewN _ | exact G1.out.drew | exact G1.out⟩
set_option maxRecDepth 4000 in
set_option maxHeartbeats 32000000 in
theorem above_C (g : Nat → Addr) {m n b o cap : Nat} {l : List Int} (num den : Int) (w : World) (h : Rs w b o cap l) (ok : Ok l m n) (hv : vcode m n l = 0) (hl : Laid w g) (he : heI num den = true) : Calls Tryd.prog 14 #[raV m n (.slice (some ⟨b, o, none⟩) l.length cap), .int .i64 num, .int .i64 den] w fun e w' => e = .returned (.tuple #[.int .i64 (allS (whC l m num den) (m - 1) (n - 1) : Int), .int .i64 (allS (ptC l m num den) (m - 1) (n - 1) : Int), .nilIface]) ∧ Gr w w' := by
  have ll := ok.len_le
  have hm1 := ok.m1
  have hn1 := ok.n1
  have hm2 := ok.m2
  have hn2 := ok.n2
  have G0 := hidb ((Gr.refl w).alloc (.cells #[.int .i64 m, .int .i64 n, .slice (some ⟨b, o, none⟩) l.length cap] 31))
  have A0 := hidb (At.new3 w (.int .i64 m) (.int .i64 n) (.slice (some ⟨b, o, none⟩) l.length cap) 31)
  have C1 := hidb (valid_any g m n (some ⟨b, o, none⟩) b o cap l _ (h.isl.below G0.out.out) (by omega) (hl.below G0.out.out))
  rw [hv, show evc g 0 = .nilIface from rfl] at C1
  have C2 := hidb (fun W1 => rwithin_any den 1 1048576 W1)
  have C3 := hidb (fun W1 => rwithin_any num (-4398046511104) 4398046511104 W1)
  unfold heI at he
  rw [Bool.and_eq_true] at he
  rw [he.1] at C2
  rw [he.2] at C3
  have hden : 1 ≤ den ∧ den ≤ 1048576 := by have := he.1; unfold inI at this; simpa using this
  have HDen := hidb hden
  have CS := hidb (fun (r c : Nat) (hr : r + 1 < n) (hc : c + 1 < m) W1 (hG : Gr w W1) => squareOf_any (c := c) (r := r) W1 (h.below hG.out) ok (by omega) (by omega))
  have HOk := hidb ok
  obtain ⟨m1, hm3⟩ : ∃ z, z = m - 1 := ⟨_, rfl⟩
  obtain ⟨n1, hn3⟩ : ∃ z, z = n - 1 := ⟨_, rfl⟩
  have e1 : IntKind.i64.wrap ((m : Int) - 1) = (m1 : Int) := by rw [show (m : Int) - 1 = (m1 : Int) by omega]; exact wrap_in (by omega) (by omega)
  have e2 : IntKind.i64.wrap ((n : Int) - 1) = (n1 : Int) := by rw [show (n : Int) - 1 = (n1 : Int) by omega]; exact wrap_in (by omega) (by omega)
  rw [← hm3, ← hn3]
  have HW := hidb (fun r => allS_le (whC_le l m num den) (cols := m1) (by omega) r)
  have HP := hidb (fun r => allS_le (ptC_le l m num den) (cols := m1) (by omega) r)
  have HW2 := hidb (fun r c => rowS_le (whC_le l m num den) r c)
  have HP2 := hidb (fun r c => rowS_le (ptC_le l m num den) r c)
  have HM := hidb (show m = m1 + 1 ∧ n = n1 + 1 ∧ m1 ≤ 127 ∧ n1 ≤ 127 by omega)
  clear h ok hl hv he hden hm1 hn1 hm2 hn2 ll hm3 hn3
  go_enter Tryd.func14, Tryd.ntmps14
  go_wp2_with fail
  refine C1.out.mono ?_
  rintro e w1 ⟨rfl, hB⟩
  have HG := hidb (Gr.step G0.out hB.out)
  have HA := hidb (At.below hB.out A0.out)
  clear hB G0 A0 C1
  go_wp2_with fail
  refine (C2.out _).mono ?_
  rintro e w2 ⟨rfl, rfl⟩
  go_wp2_with fail
  refine (C3.out _).mono ?_
  rintro e w3 ⟨rfl, rfl⟩
  obtain ⟨a0, a1, a2⟩ := HA.out.c3
  go_wp2
  clear a0 a1 a2 C2 C3 e2
  go_loopw [10, 11, 35] (fun a b' t wr => ∃ (r : Nat), r ≤ n1 ∧ t = .int .i64 (r : Int) ∧ a = .int .i64 (allS (whC l m num den) m1 r : Int) ∧ b' = .int .i64 (allS (ptC l m num den) m1 r : Int) ∧ Hid (At wr w.heap.size [.int .i64 m, .int .i64 n, .slice (some ⟨b, o, none⟩) l.length cap]) ∧ Hid (Gr w wr)) (fun _ _ t _ => n1 - (intOf t).toNat)
  case atStart => exact ⟨0, Nat.zero_le _, rfl, rfl, rfl, HA, HG⟩
  case round =>
    clear HA HG
    obtain ⟨r, hr, rfl, rfl, rfl, HA, HG⟩ := hrel
    by_cases hr1 : r < n1
    · have hr2 : (r : Int) < (n1 : Int) := by omega
      have LW := hidb (HW.out r)
      have LP := hidb (HP.out r)
      have SW : Hid (allS (whC l m num den) m1 (r + 1) = allS (whC l m num den) m1 r + rowS (whC l m num den) r m1) := rfl
      have SP : Hid (allS (ptC l m num den) m1 (r + 1) = allS (ptC l m num den) m1 r + rowS (ptC l m num den) r m1) := rfl
      generalize allS (whC l m num den) m1 r = aw at *
      generalize allS (ptC l m num den) m1 r = ap at *
      obtain ⟨a0, a1, a2⟩ := HA.out.c3
      go_wp2
      clear a0 a1 a2
      go_loopw [10, 11, 41] (fun a b' t wr => ∃ (c : Nat), c ≤ m1 ∧ t = .int .i64 (c : Int) ∧ a = .int .i64 ((aw + rowS (whC l m num den) r c : Nat) : Int) ∧ b' = .int .i64 ((ap + rowS (ptC l m num den) r c : Nat) : Int) ∧ Hid (At wr w.heap.size [.int .i64 m, .int .i64 n, .slice (some ⟨b, o, none⟩) l.length cap]) ∧ Hid (Gr w wr)) (fun _ _ t _ => m1 - (intOf t).toNat)
      case atStart => exact ⟨0, Nat.zero_le _, rfl, rfl, rfl, HA, HG⟩
      case round =>
        clear HA HG
        obtain ⟨c, hc, rfl, rfl, rfl, HA, HG⟩ := hrel
        by_cases hc1 : c < m1
        · have hc2 : (c : Int) < (m1 : Int) := by omega
          have KW := hidb (HW2.out r c)
          have KP := hidb (HP2.out r c)
          have RW : Hid (rowS (whC l m num den) r (c + 1) = rowS (whC l m num den) r c + whC l m num den r c) := rfl
          have RP : Hid (rowS (ptC l m num den) r (c + 1) = rowS (ptC l m num den) r c + ptC l m num den r c) := rfl
          have KS := hidb (CS.out r c (by have := HM.out; omega) (by have := HM.out; omega))
          rw [show min (c + 1) (m - 1) = c + 1 by have := HM.out; omega, show min (r + 1) (n - 1) = r + 1 by have := HM.out; omega] at KS
          rw [show r * m + (c + 1) = r * m + c + 1 from rfl, show (r + 1) * m + (c + 1) = (r + 1) * m + c + 1 from rfl] at KS
          have hw : whC l m num den r c = whI (dv num den (gl l (r * m + c))) (dv num den (gl l (r * m + c + 1))) (dv num den (gl l ((r + 1) * m + c + 1))) + whI (dv num den (gl l (r * m + c))) (dv num den (gl l ((r + 1) * m + c))) (dv num den (gl l ((r + 1) * m + c + 1))) := rfl
          have hp : ptC l m num den r c = ptI (dv num den (gl l (r * m + c))) (dv num den (gl l (r * m + c + 1))) (dv num den (gl l ((r + 1) * m + c + 1))) + ptI (dv num den (gl l (r * m + c))) (dv num den (gl l ((r + 1) * m + c))) (dv num den (gl l ((r + 1) * m + c + 1))) := rfl
          have g0 := HOk.out.hi (r * m + c)
          have g1 := HOk.out.hi (r * m + c + 1)
          have g2 := HOk.out.hi ((r + 1) * m + c)
          have g3 := HOk.out.hi ((r + 1) * m + c + 1)
          generalize gl l (r * m + c) = q0 at *
          generalize gl l (r * m + c + 1) = q1 at *
          generalize gl l ((r + 1) * m + c) = q2 at *
          generalize gl l ((r + 1) * m + c + 1) = q3 at *
          rw [hw] at RW
          rw [hp] at RP
          clear hw hp
          have T0 := tri_tell num den q0 q1 q3 HDen.out.1
          have T1 := tri_tell num den q0 q2 q3 HDen.out.1
          have D0 := den_mul (mn2_hi (mn2_hi g0 g1) g3) HDen.out.1 HDen.out.2
          have D1 := den_mul (mx2_hi (mx2_hi g0 g1) g3) HDen.out.1 HDen.out.2
          have D2 := den_mul (mn2_hi (mn2_hi g0 g2) g3) HDen.out.1 HDen.out.2
          have D3 := den_mul (mx2_hi (mx2_hi g0 g2) g3) HDen.out.1 HDen.out.2
          have CT := hidb (fun W1 => triangles_any q0 q1 q2 q3 W1)
          have CMn0 := hidb (fun B W1 hA => smin3 B q0 q1 q3 W1 hA)
          have CMx0 := hidb (fun B W1 hA => smax3 B q0 q1 q3 W1 hA)
          have CMn1 := hidb (fun B W1 hA => smin3 B q0 q2 q3 W1 hA)
          have CMx1 := hidb (fun B W1 hA => smax3 B q0 q2 q3 W1 hA)
          have J0 := idxT0 q0 q1 q2 q3
          have J1 := idxT1 q0 q1 q2 q3
          generalize mn2 (mn2 q0 q1) q3 = mna at *
          generalize mx2 (mx2 q0 q1) q3 = mxa at *
          generalize mn2 (mn2 q0 q2) q3 = mnb at *
          generalize mx2 (mx2 q0 q2) q3 = mxb at *
          obtain ⟨la, hla, f0⟩ : ∃ z : Int, z = mna * den ∧ IntKind.i64.wrap (mna * den) = z := ⟨_, rfl, wrap_in (by omega) (by omega)⟩
          obtain ⟨ha, hha, f1⟩ : ∃ z : Int, z = mxa * den ∧ IntKind.i64.wrap (mxa * den) = z := ⟨_, rfl, wrap_in (by omega) (by omega)⟩
          obtain ⟨lb, hlb, f2⟩ : ∃ z : Int, z = mnb * den ∧ IntKind.i64.wrap (mnb * den) = z := ⟨_, rfl, wrap_in (by omega) (by omega)⟩
          obtain ⟨hb, hhb, f3⟩ : ∃ z : Int, z = mxb * den ∧ IntKind.i64.wrap (mxb * den) = z := ⟨_, rfl, wrap_in (by omega) (by omega)⟩
          rw [← hla, ← hha] at T0
          rw [← hlb, ← hhb] at T1
          have U0 := hidb T0
          have U1 := hidb T1
          have BW0 := hidb (whI_le (dv num den q0) (dv num den q1) (dv num den q3))
          have BP0 := hidb (ptI_le (dv num den q0) (dv num den q1) (dv num den q3))
          generalize whI (dv num den q0) (dv num den q1) (dv num den q3) = wa at *
          generalize ptI (dv num den q0) (dv num den q1) (dv num den q3) = pa at *
          generalize whI (dv num den q0) (dv num den q2) (dv num den q3) = wb at *
          generalize ptI (dv num den q0) (dv num den q2) (dv num den q3) = pb at *
          generalize rowS (whC l m num den) r c = rw0 at *
          generalize rowS (ptC l m num den) r c = rp0 at *
          obtain ⟨N0, hN0⟩ : ∃ z, z = aw + rw0 := ⟨_, rfl⟩
          obtain ⟨P0, hP0⟩ : ∃ z, z = ap + rp0 := ⟨_, rfl⟩
          have HN0 := hidb hN0
          have HP0 := hidb hP0
          have lN : N0 ≤ 50000 := by have := LW.out; have := KW.out; have := HM.out; omega
          have lP : P0 ≤ 50000 := by have := LP.out; have := KP.out; have := HM.out; omega
          rw [← hN0, ← hP0]
          clear T0 T1 D0 D1 D2 D3 hla hha hlb hhb g0 g1 g2 g3 hN0 hP0
          have e5 : IntKind.i64.wrap ((c : Int) + 1) = ((c + 1 : Nat) : Int) := wrap_in (by omega) (by have := HM.out; omega)
          obtain ⟨a0, a1, a2⟩ := HA.out.c3
          go_wp2_with fail
          clear a0 a1 a2
          refine (KS.out _ HG.out).mono ?_
          rintro e w4 ⟨rfl, hB⟩
          replace HG := hidb (Gr.step HG.out hB.out)
          replace HA := hidb (At.below hB.out HA.out)
          clear hB
          go_wp2_with fail
          refine (CT.out _).mono ?_
          rintro e w5 ⟨rfl, hB⟩
          replace HG := hidb (Gr.step HG.out hB.out)
          replace HA := hidb (At.below hB.out HA.out)
          clear hB CT KS
          go_wp2
          go_loopw [10, 11, 49] (fun a b' t wr => (t = .int .i64 0 ∧ a = .int .i64 (N0 : Int) ∧ b' = .int .i64 (P0 : Int) ∨ t = .int .i64 1 ∧ a = .int .i64 ((N0 + wa : Nat) : Int) ∧ b' = .int .i64 ((P0 + pa : Nat) : Int) ∨ t = .int .i64 2 ∧ a = .int .i64 ((N0 + wa + wb : Nat) : Int) ∧ b' = .int .i64 ((P0 + pa + pb : Nat) : Int)) ∧ Hid (At wr w.heap.size [.int .i64 m, .int .i64 n, .slice (some ⟨b, o, none⟩) l.length cap]) ∧ Hid (Gr w wr)) (fun _ _ t _ => 2 - (intOf t).toNat)
          case atStart => exact ⟨.inl ⟨rfl, rfl, rfl⟩, HA, HG⟩
          case round =>
            clear HA HG
            obtain ⟨⟨rfl, rfl, rfl⟩ | ⟨rfl, rfl, rfl⟩ | ⟨rfl, rfl, rfl⟩, HA, HG⟩ := hrel
            · obtain ⟨N, hN⟩ : ∃ z, z = N0 := ⟨_, rfl⟩
              obtain ⟨P, hP⟩ : ∃ z, z = P0 := ⟨_, rfl⟩
              have HN := hidb hN
              have HPq := hidb hP
              rw [← hN, ← hP]
              have e6 : IntKind.i64.wrap ((N : Int) + 1) = ((N + 1 : Nat) : Int) := wrap_in (by omega) (by have := BW0.out; omega)
              have e7 : IntKind.i64.wrap ((P : Int) + 1) = ((P + 1 : Nat) : Int) := wrap_in (by omega) (by have := BP0.out; omega)
              clear hN hP
              have hsz := HG.out.out.size
              have HA1 := hidb (HA.out.alloc (.cells #[.int .i64 q0, .int .i64 q1, .int .i64 q3] 34))
              have HG1 := hidb (HG.out.alloc (.cells #[.int .i64 q0, .int .i64 q1, .int .i64 q3] 34))
              have HN3 := hidb (At.new3 wr (.int .i64 q0) (.int .i64 q1) (.int .i64 q3) 34)
              clear HA HG
              go_upto_region 16 with fail
              generalize wr.alloc (.cells #[.int .i64 q0, .int .i64 q1, .int .i64 q3] 34) = wd at *
              go_cut [16, 17] from 52 to 59 (fun s16 s17 wx => s16 = .int .i64 la ∧ s17 = .int .i64 ha ∧ Hid (At wx w.heap.size [.int .i64 m, .int .i64 n, .slice (some ⟨b, o, none⟩) l.length cap]) ∧ Hid (Gr w wx))
              case first =>
                have E0 := HA1.out
                have E1 := HG1.out
                have E2 := HN3.out
                go_region_held (fun _ => True)
                  (trivial)
                  ((first
                    | (go_at_call 33; with_reducible refine (CMn0.out _ _ (by with_reducible first | exact E2 | exact E2.drew)).mono ?_; rintro e w8 ⟨rfl, rfl⟩)
                    | (go_at_call 34; with_reducible refine (CMx0.out _ _ (by with_reducible first | exact E2 | exact E2.drew)).mono ?_; rintro e w8 ⟨rfl, rfl⟩)))
                all_goals
                  go_wp2_with fail
                  go_meet
                  first | exact ⟨rfl, rfl, hidb E0, hidb E1⟩ | exact ⟨rfl, rfl, hidb E0.drew, hidb E1.drew⟩
              case rest =>
                clear HA1 HG1 HN3
                obtain ⟨rfl, rfl, HA, HG⟩ := hcut
                by_cases t1 : num < la
                · have HV := hidb (U0.out.1 t1)
                  go_wp2
                  go_roundw
                  case rel => exact ⟨.inr (.inl ⟨rfl, by have h1 := HV.out.1; have h2 := HN.out; refine congrArg (Value.int .i64) ?_; omega, by have h1 := HV.out.2; have h2 := HPq.out; refine congrArg (Value.int .i64) ?_; omega⟩), HA, HG⟩
                  case measure => simp [intOf]
                · by_cases t2 : la < num
                  · by_cases t3 : num < ha
                    · have HV := hidb (U0.out.2.1 (by omega) ⟨t2, t3⟩)
                      go_wp2
                      go_roundw
                      case rel => exact ⟨.inr (.inl ⟨rfl, by have h1 := HV.out.1; have h2 := HN.out; refine congrArg (Value.int .i64) ?_; omega, by have h1 := HV.out.2; have h2 := HPq.out; refine congrArg (Value.int .i64) ?_; omega⟩), HA, HG⟩
                      case measure => simp [intOf]
                    · have HV := hidb (U0.out.2.2 (by omega) (fun _ => by omega))
                      go_wp2
                      go_roundw
                      case rel => exact ⟨.inr (.inl ⟨rfl, by have h1 := HV.out.1; have h2 := HN.out; refine congrArg (Value.int .i64) ?_; omega, by have h1 := HV.out.2; have h2 := HPq.out; refine congrArg (Value.int .i64) ?_; omega⟩), HA, HG⟩
                      case measure => simp [intOf]
                  · have HV := hidb (U0.out.2.2 (by omega) (fun _ => by omega))
                    go_wp2
                    go_roundw
                    case rel => exact ⟨.inr (.inl ⟨rfl, by have h1 := HV.out.1; have h2 := HN.out; refine congrArg (Value.int .i64) ?_; omega, by have h1 := HV.out.2; have h2 := HPq.out; refine congrArg (Value.int .i64) ?_; omega⟩), HA, HG⟩
                    case measure => simp [intOf]
            · obtain ⟨N, hN⟩ : ∃ z, z = (N0 + wa) := ⟨_, rfl⟩
              obtain ⟨P, hP⟩ : ∃ z, z = (P0 + pa) := ⟨_, rfl⟩
              have HN := hidb hN
              have HPq := hidb hP
              rw [← hN, ← hP]
              have e6 : IntKind.i64.wrap ((N : Int) + 1) = ((N + 1 : Nat) : Int) := wrap_in (by omega) (by have := BW0.out; omega)
              have e7 : IntKind.i64.wrap ((P : Int) + 1) = ((P + 1 : Nat) : Int) := wrap_in (by omega) (by have := BP0.out; omega)
              clear hN hP
              have hsz := HG.out.out.size
              have HA1 := hidb (HA.out.alloc (.cells #[.int .i64 q0, .int .i64 q2, .int .i64 q3] 34))
              have HG1 := hidb (HG.out.alloc (.cells #[.int .i64 q0, .int .i64 q2, .int .i64 q3] 34))
              have HN3 := hidb (At.new3 wr (.int .i64 q0) (.int .i64 q2) (.int .i64 q3) 34)
              clear HA HG
              go_upto_region 16 with fail
              generalize wr.alloc (.cells #[.int .i64 q0, .int .i64 q2, .int .i64 q3] 34) = wd at *
              go_cut [16, 17] from 52 to 59 (fun s16 s17 wx => s16 = .int .i64 lb ∧ s17 = .int .i64 hb ∧ Hid (At wx w.heap.size [.int .i64 m, .int .i64 n, .slice (some ⟨b, o, none⟩) l.length cap]) ∧ Hid (Gr w wx))
              case first =>
                have E0 := HA1.out
                have E1 := HG1.out
                have E2 := HN3.out
                go_region_held (fun _ => True)
                  (trivial)
                  ((first
                    | (go_at_call 33; with_reducible refine (CMn1.out _ _ (by with_reducible first | exact E2 | exact E2.drew)).mono ?_; rintro e w8 ⟨rfl, rfl⟩)
                    | (go_at_call 34; with_reducible refine (CMx1.out _ _ (by with_reducible first | exact E2 | exact E2.drew)).mono ?_; rintro e w8 ⟨rfl, rfl⟩)))
                all_goals
                  go_wp2_with fail
                  go_meet
                  first | exact ⟨rfl, rfl, hidb E0, hidb E1⟩ | exact ⟨rfl, rfl, hidb E0.drew, hidb E1.drew⟩
              case rest =>
                clear HA1 HG1 HN3
                obtain ⟨rfl, rfl, HA, HG⟩ := hcut
                by_cases t1 : num < lb
                · have HV := hidb (U1.out.1 t1)
                  go_wp2
                  go_roundw
                  case rel => exact ⟨.inr (.inr ⟨rfl, by have h1 := HV.out.1; have h2 := HN.out; refine congrArg (Value.int .i64) ?_; omega, by have h1 := HV.out.2; have h2 := HPq.out; refine congrArg (Value.int .i64) ?_; omega⟩), HA, HG⟩
                  case measure => simp [intOf]
                · by_cases t2 : lb < num
                  · by_cases t3 : num < hb
                    · have HV := hidb (U1.out.2.1 (by omega) ⟨t2, t3⟩)
                      go_wp2
                      go_roundw
                      case rel => exact ⟨.inr (.inr ⟨rfl, by have h1 := HV.out.1; have h2 := HN.out; refine congrArg (Value.int .i64) ?_; omega, by have h1 := HV.out.2; have h2 := HPq.out; refine congrArg (Value.int .i64) ?_; omega⟩), HA, HG⟩
                      case measure => simp [intOf]
                    · have HV := hidb (U1.out.2.2 (by omega) (fun _ => by omega))
                      go_wp2
                      go_roundw
                      case rel => exact ⟨.inr (.inr ⟨rfl, by have h1 := HV.out.1; have h2 := HN.out; refine congrArg (Value.int .i64) ?_; omega, by have h1 := HV.out.2; have h2 := HPq.out; refine congrArg (Value.int .i64) ?_; omega⟩), HA, HG⟩
                      case measure => simp [intOf]
                  · have HV := hidb (U1.out.2.2 (by omega) (fun _ => by omega))
                    go_wp2
                    go_roundw
                    case rel => exact ⟨.inr (.inr ⟨rfl, by have h1 := HV.out.1; have h2 := HN.out; refine congrArg (Value.int .i64) ?_; omega, by have h1 := HV.out.2; have h2 := HPq.out; refine congrArg (Value.int .i64) ?_; omega⟩), HA, HG⟩
                    case measure => simp [intOf]
            · have HS1 : Hid (N0 + wa + wb = aw + rowS (whC l m num den) r (c + 1)) := by show _ = _; rw [RW.out, HN0.out]; omega
              have HS2 : Hid (P0 + pa + pb = ap + rowS (ptC l m num den) r (c + 1)) := by show _ = _; rw [RP.out, HP0.out]; omega
              clear RW RP
              go_wp2
              go_roundw
              case rel => exact ⟨c + 1, by omega, rfl, by rw [HS1.out], by rw [HS2.out], HA, HG⟩
              case measure => simp [intOf]; omega
        · have hc2 : ¬ (c : Int) < (m1 : Int) := by omega
          have hcc : c = m1 := by omega
          have HS1 : Hid (aw + rowS (whC l m num den) r c = allS (whC l m num den) m1 (r + 1)) := by show _ = _; rw [SW.out, hcc]
          have HS2 : Hid (ap + rowS (ptC l m num den) r c = allS (ptC l m num den) m1 (r + 1)) := by show _ = _; rw [SP.out, hcc]
          have e5 : IntKind.i64.wrap ((r : Int) + 1) = ((r + 1 : Nat) : Int) := wrap_in (by omega) (by have := HM.out; omega)
          clear hcc SW SP
          go_wp2
          go_roundw
          case rel => exact ⟨r + 1, by omega, rfl, by rw [HS1.out], by rw [HS2.out], HA, HG⟩
          case measure => simp [intOf]; omega
    · have hr2 : ¬ (r : Int) < (n1 : Int) := by omega
      have hrr : r = n1 := by omega
      have HR := hidb hrr
      clear hrr
      go_wp2
      go_ret3
      exact ⟨by rw [← HR.out]; rfl, HG.out⟩
end Go.Proofs.YthbobceghbknoaaDoor
