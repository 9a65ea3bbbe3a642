/-
  basin.rise.
-/
import Derived.Test.YtddnebgnohlchaaGreatDoorQJ23
import Derived.Lib.MinMax
namespace Go.Proofs.YtddnebgnohlchaaGreatDoor
open Go.RowKit
attribute [local go_sem ↓] Go.wp_at_zero Go.wp_at_succ

/-- The sum of the heights. -/
def sL (l : List Int) (O : List Nat) : Int := (O.map (gl l)).sum
theorem sL_nil (l : List Int) : sL l [] = 0 := rfl
theorem sL_cons (l : List Int) (x : Nat) (O : List Nat) : sL l (x :: O) = gl l x + sL l O := by simp [sL]
theorem sL_snoc (l : List Int) (O : List Nat) (x : Nat) : sL l (O ++ [x]) = sL l O + gl l x := by
  induction O with
  | nil => simp [sL]
  | cons a O ih => rw [List.cons_append, sL_cons, sL_cons, ih]; omega
theorem vol_sL (l : List Int) (h : Int) (O : List Nat) : vol l h O = h * O.length - sL l O := by
  induction O with
  | nil => simp [vol, sL]
  | cons a O ih => rw [vol_cons, sL_cons, ih, List.length_cons, Int.natCast_succ, Int.mul_add, Int.mul_one]; omega
theorem sL_bd {l : List Int} (h : ∀ i, hiI (gl l i)) : ∀ O : List Nat, -1048576 * (O.length : Int) ≤ sL l O ∧ sL l O ≤ 1048576 * (O.length : Int)
  | [] => by simp [sL]
  | a :: O => by
    have := sL_bd h O
    have := h a
    unfold hiI at this
    rw [sL_cons, List.length_cons, Int.natCast_succ]
    omega
theorem mulB {x y A B C : Int} (h1 : -A ≤ x) (h2 : x ≤ A) (h3 : -B ≤ y) (h4 : y ≤ B) (hC : A * B ≤ C) : -C ≤ x * y ∧ x * y ≤ C := by
  have a1 := Int.mul_nonneg (show 0 ≤ A - x by omega) (show 0 ≤ B + y by omega)
  have a2 := Int.mul_nonneg (show 0 ≤ A + x by omega) (show 0 ≤ B - y by omega)
  have a3 := Int.mul_nonneg (show 0 ≤ A - x by omega) (show 0 ≤ B - y by omega)
  have a4 := Int.mul_nonneg (show 0 ≤ A + x by omega) (show 0 ≤ B + y by omega)
  rw [Int.sub_mul, Int.mul_add, Int.mul_add] at a1
  rw [Int.add_mul, Int.mul_sub, Int.mul_sub] at a2
  rw [Int.sub_mul, Int.mul_sub, Int.mul_sub] at a3
  rw [Int.add_mul, Int.mul_add, Int.mul_add] at a4
  omega
theorem own_ox {W : World} {base g q cap : Nat} {O : List Nat} (h : W.ownsRow base 3 1 (.slice (some ⟨g, 0, none⟩) q cap) q (ir (on O))) (hq : O.length = q) (h0 : 1 ≤ q) : g < W.heap.size ∧ ∀ k, k < q → W.cell? ⟨g, k, none⟩ = some (.int .i64 (ox O k : Int)) := by
  have hl : (on O).length = q := by rw [← hq]; simp
  obtain ⟨g', cap', hv, hR⟩ := own_rs2 h (by rw [hl]; exact h0)
  have e : g = g' := by simp only [Value.slice.injEq] at hv; simpa using hv.1
  subst e
  refine ⟨hR.lt, fun k hk => ?_⟩
  have := hR.get (i := k) (by rw [hl]; exact hk)
  rw [Nat.zero_add] at this
  rw [this]
  have hk2 : k < O.length := by rw [hq]; exact hk
  unfold gl ox on
  simp [hk2]
/-- What rise answers. -/
def RAns (m n : Nat) (l : List Int) (c : Nat) (water : Int) (w w' : World) (e : Ending) : Prop :=
  (Stp m n l c water (gl l c) ∧ e = .returned (.tuple #[.agg #[.int .i64 (gl l c), .int .i64 1], .slice none 0 0, .nilIface])) ∨
  ∃ (top : Int) (O : List Nat) (a b : Int) (base g cap : Nat), (gl l c < top ∧ top ≤ 1048576 ∧ 1 ≤ O.length) ∧ Pool m n l c water (top - 1) O ∧ Stp m n l c water top ∧ Low a b (min (water + sL l O) (top * O.length)) O.length ∧ e = .returned (.tuple #[.agg #[.int .i64 a, .int .i64 b], .slice (some ⟨g, 0, none⟩) O.length cap, .nilIface]) ∧ w'.ownsRow base 3 1 (.slice (some ⟨g, 0, none⟩) O.length cap) O.length (ir (srI (on O))) ∧ w.heap.size ≤ base
/-- What lies in memory. -/
structure RsM (w W : World) (T C WB F LW : Nat) (t : List Value) (c water lo : Int) : Prop where
  t : At W T t
  c : At W C [.int .i64 c]
  wb : At W WB [.int .i64 water]
  f : At W F [.int .i64 0, .int .i64 0]
  lo : At W LW [.int .i64 lo]
  gr : Gr w W
  b : w.heap.size ≤ F ∧ F < LW
theorem RsM.below {w W w' : World} {T C WB F LW : Nat} {t : List Value} {c water lo : Int} (h : RsM w W T C WB F LW t c water lo) (hB : Below W.heap.size W w') : RsM w w' T C WB F LW t c water lo :=
  ⟨At.below hB h.t, At.below hB h.c, At.below hB h.wb, At.below hB h.f, At.below hB h.lo, Gr.step h.gr hB, h.b⟩
set_option maxRecDepth 4000 in
set_option maxHeartbeats 8000000 in
theorem rise_any {m n Lb Lo Lcap : Nat} {l : List Int} (c : Nat) (water : Int) (hc : c < l.length) (hw : 0 ≤ water ∧ water ≤ 1099511627776) (w : World) (hR : Rs w Lb Lo Lcap l) (ok : Ok l m n) : Calls Tryz.prog 37 #[raV m n (.slice (some ⟨Lb, Lo, none⟩) l.length Lcap), .int .i64 (c : Int), .int .i64 water] w fun e w' => RAns m n l c water w w' e ∧ Gr w w' := by
  have hlen := ok.len_le
  have hgl := ok.hi c
  unfold hiI at hgl
  have ixc := iindex Lb Lo l.length Lcap c hc
  have HCc := hidb (fun W (hG : Gr w W) => (hR.below hG.out).get hc)
  have hLb := hR.lt
  have HRs := hidb (fun W (hG : Gr w W) => hR.below hG.out)
  have HTop := hidb (stp_top (h := 1048576) ok.m1 ok.len (fun k => (ok.hi k).2) hc water)
  have HCl := hidb (fun (T C LW WB : Nat) (i : Int) (hi0 : 0 ≤ i) (hb : gl l c + i ≤ 1048576) W (hG : Gr w W) => clos_rise (T := T) (C := C) (LW := LW) (WB := WB) c i water hc hi0 hb hw W (hR.below hG.out) ok)
  have HPl : Hid (∀ (h : Int), gl l c ≤ h → h ≤ 1048576 → ∀ W, Gr w W → Calls Tryz.prog 54 #[.agg #[.int .i64 (m : Int), .int .i64 (n : Int), .slice (some ⟨Lb, Lo, none⟩) l.length Lcap], .int .i64 (c : Int), .int .i64 h, .int .i64 water] W fun e w' => ∃ v, e = .returned v ∧ PAns m n l c water h W w' v ∧ Gr W w') := fun h h1 h2 W hG => pool_any c h water hc h1 h2 hw W (hR.below hG.out) ok
  have HBd := hidb (fun O : List Nat => sL_bd ok.hi O)
  have HLe := hidb (fun (h : Int) (O : List Nat) (p : Pool m n l c water h O) => nodup_len p.nd (fun x hx => ((p.all x).1 hx).le.2))
  have HL := hidb (show c < l.length ∧ l.length ≤ 16384 ∧ -1048576 ≤ gl l c ∧ gl l c ≤ 1048576 ∧ 0 ≤ water ∧ water ≤ 1099511627776 from ⟨hc, hlen, hgl.1, hgl.2, hw.1, hw.2⟩)
  obtain ⟨lo, hlo⟩ : ∃ z, z = gl l c := ⟨_, rfl⟩
  have Hlo := hidb hlo
  have hRA : ∀ W' e, RAns m n l c water w W' e = RAns m n l c water w W' e := fun _ _ => rfl
  rw [← hlo] at HCc HCl HPl HL
  obtain ⟨N, hN⟩ : ∃ N, N = l.length := ⟨_, rfl⟩
  have HN := hidb hN
  rw [← hN] at ixc HL HPl HCl ⊢
  obtain ⟨K, hK⟩ : ∃ K : Nat, (K : Int) = 1048576 - lo := ⟨(1048576 - lo).toNat, by have := HL.out; omega⟩
  have eK : IntKind.i64.wrap (1048576 - lo) = (K : Int) := by rw [hK]; exact wrap_in (by have := HL.out; omega) (by have := HL.out; omega)
  have HK := hidb hK
  clear hR ok hlen hgl hc hw hlo hN hK hRA
  obtain ⟨W4, hW4⟩ : ∃ W4, W4 = (((w.alloc (.cells #[.int .i64 (m : Int), .int .i64 (n : Int), .slice (some ⟨Lb, Lo, none⟩) N Lcap] 32)).alloc (.cells #[.int .i64 (c : Int)] 3)).alloc (.cells #[.int .i64 water] 3)).alloc (.cells #[.int .i64 0, .int .i64 0] 50) := ⟨_, rfl⟩
  obtain ⟨T, hT⟩ : ∃ T, T = w.heap.size := ⟨_, rfl⟩
  have hs4 : W4.heap.size = T + 4 := by rw [hW4, hT]; simp
  have hT4 : At W4 T [.int .i64 (m : Int), .int .i64 (n : Int), .slice (some ⟨Lb, Lo, none⟩) N Lcap] := by rw [hW4, hT]; exact (((At.new3 _ _ _ _ _).alloc _).alloc _).alloc _
  have hC4 : At W4 (T + 1) [.int .i64 (c : Int)] := by rw [hW4, hT]; exact ((At.nx1 _ _ _).alloc _).alloc _
  have hB4 : At W4 (T + 1 + 1) [.int .i64 water] := by rw [hW4, hT]; exact (At.ny1 _ _ _ _).alloc _
  have hF4 : At W4 (T + 1 + 1 + 1) [.int .i64 0, .int .i64 0] := by rw [hW4, hT]; exact At.nz2 _ _ _ _ _ _
  have hG4 : Gr w W4 := by rw [hW4]; exact ((((Gr.refl w).alloc _).alloc _).alloc _).alloc _
  have HT := hidb hT
  have Hs4 := hidb hs4
  clear hLb hs4
  show Calls Tryz.prog 37 #[.agg #[.int .i64 (m : Int), .int .i64 (n : Int), .slice (some ⟨Lb, Lo, none⟩) N Lcap], .int .i64 (c : Int), .int .i64 water] w _
  go_enter Tryz.func37, Tryz.ntmps37
  go_upto_region 1 with fail
  rw [← hW4, ← hT]
  clear hW4 hT
  obtain ⟨t0, t1, t2⟩ := hT4.c3
  have c0 := hC4.c1
  have cc := HCc.out _ hG4
  go_upto_region 2 with fail
  obtain ⟨LW, hLW⟩ : ∃ LW, LW = W4.heap.size := ⟨_, rfl⟩
  have hR5 : RsM w (W4.alloc (.cells #[.int .i64 lo] 3)) T (T + 1) (T + 1 + 1) (T + 1 + 1 + 1) LW [.int .i64 (m : Int), .int .i64 (n : Int), .slice (some ⟨Lb, Lo, none⟩) N Lcap] c water lo := ⟨hT4.alloc _, hC4.alloc _, hB4.alloc _, hF4.alloc _, At.at1 hLW _ _, hG4.alloc _, by rw [HT.out]; omega, by rw [hLW, Hs4.out]; omega⟩
  rw [← hLW]
  generalize W4.alloc (.cells #[.int .i64 lo] 3) = W5 at *
  have E := hidb hR5
  clear t0 t1 t2 c0 cc hT4 hC4 hB4 hF4 hG4 Hs4 hLW hR5 W4
  have l0 := E.out.lo.c1
  have HSr := hidb (search_any K (by have := HK.out; have := HL.out; omega) (fun i => Stp m n l c water (lo + (i : Int))) #[.pointer (some ⟨T, 0, none⟩), .pointer (some ⟨T + 1, 0, none⟩), .pointer (some ⟨LW, 0, none⟩), .pointer (some ⟨T + 1 + 1, 0, none⟩)] W5 (fun i hi W hG => HCl.out T (T + 1) LW (T + 1 + 1) (i : Int) (by omega) (by have := HK.out; omega) W (Gr.step E.out.gr hG.out) (At.below hG.out E.out.t) (At.below hG.out E.out.c) (At.below hG.out E.out.lo) (At.below hG.out E.out.wb)))
  go_wp2_with fail
  refine HSr.out.mono ?_
  rintro e w6 ⟨k, rfl, hkK, hk1, hk2, hG6⟩
  replace E := hidb (E.out.below hG6.out)
  have HSt : Hid (Stp m n l c water (lo + (k : Int))) := by
    rcases hk2 with h | h
    · have := HTop.out
      rw [h, HK.out, show lo + (1048576 - lo) = 1048576 by omega]
      exact this
    · exact h
  have HkK := hidb hkK
  clear hkK hk2 hG6 HSr l0 HCl
  have l0 := E.out.lo.c1
  obtain ⟨z0, z1⟩ := E.out.f.c2
  obtain ⟨y0, y1⟩ := E.out.f.f2
  by_cases k0 : k = 0
  · subst k0
    have HRes : Hid (RAns m n l c water w ((w6.setCell ⟨T + 1 + 1 + 1, 0, none⟩ (.int .i64 lo)).setCell ⟨T + 1 + 1 + 1, 1, none⟩ (.int .i64 1)) (.returned (.tuple #[.agg #[.int .i64 lo, .int .i64 1], .slice none 0 0, .nilIface]))) := by
      refine .inl ⟨?_, ?_⟩
      · have := HSt.out
        rw [show lo + ((0 : Nat) : Int) = lo by simp, Hlo.out] at this
        exact this
      · rw [Hlo.out]
    have HG : Hid (Gr w ((w6.setCell ⟨T + 1 + 1 + 1, 0, none⟩ (.int .i64 lo)).setCell ⟨T + 1 + 1 + 1, 1, none⟩ (.int .i64 1))) := (E.out.gr.set E.out.b.1 _ _).set E.out.b.1 _ _
    clear hk1 HSt HkK
    go_wp2
    exact bodyPost_ret (v := .tuple #[.agg #[.int .i64 lo, .int .i64 1], .slice none 0 0, .nilIface]) (by simp [results, Tryz.results37, go_sem, z0, z1]) rfl ⟨HRes.out, HG.out⟩
  · have HNs : Hid (¬ Stp m n l c water (lo + (k : Int) - 1)) := by
      have := hk1.resolve_left k0
      rw [show lo + ((k - 1 : Nat) : Int) = lo + (k : Int) - 1 by omega] at this
      exact this
    have hkz : ¬ (k : Int) = 0 := by omega
    obtain ⟨top, htop, e1⟩ : ∃ z, z = lo + (k : Int) ∧ IntKind.i64.wrap (lo + (k : Int)) = z := ⟨_, rfl, wrap_in (by have := HL.out; omega) (by have := HL.out; have := HkK.out; have := HK.out; omega)⟩
    rw [← htop] at HSt HNs
    have HTp := hidb (show lo < top ∧ top ≤ 1048576 by have := HkK.out; have := HK.out; omega)
    obtain ⟨tp, htp, e2⟩ : ∃ z, z = top - 1 ∧ IntKind.i64.wrap (top - 1) = z := ⟨_, rfl, wrap_in (by have := HL.out; omega) (by have := HTp.out; omega)⟩
    have Htp := hidb htp
    have HP := hidb (HPl.out tp (by have := HTp.out; omega) (by have := HTp.out; omega) w6 E.out.gr)
    obtain ⟨t0, t1, t2⟩ := E.out.t.c3
    have c0 := E.out.c.c1
    have w0 := E.out.wb.c1
    clear hk1 htop htp HkK HPl
    go_wp2_with fail
    refine HP.out.mono ?_
    rintro e w7 ⟨v, rfl, ha, hG7⟩
    have hs6 := E.out.gr.out.size
    have hf6 := E.out.f.lt
    replace E := hidb (E.out.below hG7.out)
    rcases ha with ⟨-, hs⟩ | ⟨O, base, g, cap, rfl, h1, hp, hO, hb1, -⟩
    · exact absurd hs (by rw [Htp.out]; exact HNs.out)
    · have hq := HLe.out _ _ hp
      obtain ⟨q, hqe⟩ : ∃ q, q = O.length := ⟨_, rfl⟩
      have Hqe := hidb hqe
      rw [← hqe] at hO h1 hq ⊢
      have HO := hidb hO
      have HPo := hidb hp
      have HQ := hidb (show 1 ≤ q ∧ q ≤ N ∧ w.heap.size ≤ base ∧ T + 1 + 1 + 1 < base from ⟨h1, by rw [HN.out]; exact hq, Nat.le_trans hs6 hb1, Nat.lt_of_lt_of_le hf6 hb1⟩)
      obtain ⟨-, hox⟩ := own_ox hO hqe.symm h1
      have Hox := hidb hox
      clear t0 t1 t2 c0 w0 l0 z0 z1 y0 y1 hG7 hp hO hb1 hq h1 hqe hox HP HNs hs6 hf6
      have w0 := E.out.wb.c1
      obtain ⟨t0, t1, t2⟩ := E.out.t.c3
      go_wp2
      go_loop [13, 43] (fun s t => ∃ i : Nat, i ≤ q ∧ s = .int .i64 (water + sL l (O.take i)) ∧ t = .int .i64 (i : Int)) (fun _ t => q - (intOf t).toNat)
      case atStart => exact ⟨0, Nat.zero_le _, by simp [sL], rfl⟩
      case round =>
        obtain ⟨i, hi, rfl, rfl⟩ := hrel
        by_cases h1 : i < q
        · have h1' : (i : Int) < (q : Int) := by omega
          have cO := Hox.out i h1
          have ixO := iindex g 0 q cap i h1
          rw [Nat.zero_add] at ixO
          have hiO : i < O.length := by rw [← Hqe.out]; exact h1
          have hxl := ((HPo.out.all (ox O i)).1 (ox_mem hiO)).le.2
          have HSs : Hid (sL l (O.take (i + 1)) = sL l (O.take i) + gl l (ox O i)) := by show _ = _; rw [take_ox hiO, sL_snoc]
          have hb1 := HBd.out (O.take (i + 1))
          have hln : (O.take (i + 1)).length ≤ N := by rw [List.length_take]; have := HQ.out.2.1; omega
          obtain ⟨sm, hsm, e4⟩ : ∃ z, z = water + sL l (O.take (i + 1)) ∧ IntKind.i64.wrap (water + sL l (O.take i) + gl l (ox O i)) = z := by
            refine ⟨_, rfl, ?_⟩
            rw [Int.add_assoc, ← HSs.out]
            exact wrap_in (by have := HL.out; omega) (by have := HL.out; omega)
          have Hsm := hidb hsm
          have cL := (HRs.out _ E.out.gr).get hxl
          have ixL := iindex Lb Lo N Lcap (ox O i) (by rw [HN.out]; exact hxl)
          have e5 : IntKind.i64.wrap ((i : Int) + 1) = ((i + 1 : Nat) : Int) := by rw [show (i : Int) + 1 = ((i + 1 : Nat) : Int) by omega]; exact wrap_in (by omega) (by have := HQ.out; have := HL.out; omega)
          have H1 := hidb h1
          generalize water + sL l (O.take i) = sp at *
          generalize ox O i = x at *
          generalize gl l x = gx at *
          clear h1 hi hiO hxl hb1 hln hsm
          go_wp2
          go_round
          case rel => exact ⟨i + 1, H1.out, by rw [Hsm.out], by go_num⟩
          case measure => have := H1.out; simp [intOf]; omega
        · have h1' : ¬ (i : Int) < (q : Int) := by omega
          obtain rfl : i = q := by omega
          have HTk : Hid (O.take i = O) := List.take_of_length_le (by rw [← Hqe.out]; exact Nat.le_refl _)
          rw [HTk.out]
          have hbd := HBd.out O
          rw [← Hqe.out] at hbd
          have hQ := HQ.out
          have hTp := HTp.out
          have hL := HL.out
          have htq : -1152921504606846976 ≤ top * (i : Int) ∧ top * (i : Int) ≤ 1152921504606846976 := mulB (A := 1048576) (B := 1048576) (by omega) (by omega) (by omega) (by omega) (by decide)
          obtain ⟨tq, htqe, e4⟩ : ∃ z, z = top * (i : Int) ∧ IntKind.i64.wrap (top * (i : Int)) = z := ⟨_, rfl, wrap_in (by omega) (by omega)⟩
          obtain ⟨P, hP, hmin⟩ : ∃ z, z = min (water + sL l O) tq ∧ min (water + sL l O) tq = z := ⟨_, rfl, rfl⟩
          obtain ⟨a, b, hLow, hMk⟩ := make_sg P i (by omega) (by omega)
          have HLow : Hid (Low a b (min (water + sL l O) (top * O.length)) O.length) := by
            rw [← Hqe.out, ← htqe, ← hP]; exact hLow
          have HMk := hidb hMk
          clear h1 hi hbd hQ hTp hL htq htqe hP hLow hMk
          go_wp2_with fail
          refine (HMk.out _).mono ?_
          rintro e w8 ⟨rfl, hG8⟩
          replace E := hidb (E.out.below hG8.out)
          replace HO := hidb (own_keep HO.out hG8.out)
          have hgl := (HO.out.lt g rfl)
          have HSo : Hid (∀ W, W.ownsRow base 3 1 (.slice (some ⟨g, 0, none⟩) i cap) i (ir (on O)) → Calls Tryz.prog 56 #[.slice (some ⟨g, 0, none⟩) i cap] W fun e w' => e = .returned (.tuple #[]) ∧ w'.ownsRow base 3 1 (.slice (some ⟨g, 0, none⟩) i cap) i (ir (srI (on O))) ∧ W.grownBy w' (some g)) := fun W h => by
            have hl : (on O).length = i := by rw [Hqe.out]; simp
            have := sort_any (l := on O) W (by rw [hl]; exact h) (by rw [hl]; have := HQ.out; have := HL.out; omega)
            rw [hl] at this
            exact this
          clear hG8 HMk w0 t0 t1 t2
          go_upto_region 16 with fail
          have hX9 : At (w8.alloc (.cells #[.int .i64 a, .int .i64 b] 50)) w8.heap.size [.int .i64 a, .int .i64 b] := At.new2 _ _ _ _
          have E9 := E.out.below ((Below.refl _ _).alloc (Nat.le_refl _) (.cells #[.int .i64 a, .int .i64 b] 50))
          have O9 := own_keep HO.out ((Below.refl _ _).alloc (Nat.le_refl _) (.cells #[.int .i64 a, .int .i64 b] 50))
          generalize w8.alloc (.cells #[.int .i64 a, .int .i64 b] 50) = w9 at *
          have hgB : ¬ g = w8.heap.size := by omega
          go_wp2_with fail
          refine (HSo.out _ O9).mono ?_
          rintro e w10 ⟨rfl, hO10, hgr⟩
          have hgb := (hO10.lt g rfl).1
          have hQ := HQ.out
          have F10 := At.grow E9.f hgr (fun e => by have := Option.some.inj e; omega)
          have X10 := At.grow hX9 hgr (fun e => by have := Option.some.inj e; omega)
          have G10 : Gr w w10 := Below.grown E9.gr.out hgr E9.gr.out.size (fun k hk => by cases hk; omega)
          obtain ⟨x0, x1⟩ := X10.c2
          obtain ⟨z0, z1⟩ := F10.c2
          obtain ⟨y0, y1⟩ := F10.f2
          have hFw : w.heap.size ≤ T + 1 + 1 + 1 := E9.b.1
          have HG : Hid (Gr w ((w10.setCell ⟨T + 1 + 1 + 1, 0, none⟩ (.int .i64 a)).setCell ⟨T + 1 + 1 + 1, 1, none⟩ (.int .i64 b))) := (G10.set hFw _ _).set hFw _ _
          have HRes : Hid (RAns m n l c water w ((w10.setCell ⟨T + 1 + 1 + 1, 0, none⟩ (.int .i64 a)).setCell ⟨T + 1 + 1 + 1, 1, none⟩ (.int .i64 b)) (.returned (.tuple #[.agg #[.int .i64 a, .int .i64 b], .slice (some ⟨g, 0, none⟩) i cap, .nilIface]))) := by
            refine .inr ⟨top, O, a, b, base, g, cap, ⟨by rw [← Hlo.out]; exact HTp.out.1, HTp.out.2, by rw [← Hqe.out]; exact hQ.1⟩, by rw [← Htp.out]; exact HPo.out, HSt.out, HLow.out, by rw [← Hqe.out], ?_, hQ.2.2.1⟩
            rw [← Hqe.out]
            have hne : (Value.slice (some ⟨g, 0, none⟩) i cap).ownBlock ≠ some (T + 1 + 1 + 1) := fun e => by have h : g = T + 1 + 1 + 1 := Option.some.inj e; omega
            exact own_put (own_put hO10 hne _ _) hne _ _
          clear hgb hQ F10 X10 G10 hFw hO10 hgr hX9 E9 O9 hgB hgl HSo
          go_wp2
          exact bodyPost_ret (v := .tuple #[.agg #[.int .i64 a, .int .i64 b], .slice (some ⟨g, 0, none⟩) i cap, .nilIface]) (by simp [results, Tryz.results37, go_sem, z0, z1]) rfl ⟨HRes.out, HG.out⟩
end Go.Proofs.YtddnebgnohlchaaGreatDoor
