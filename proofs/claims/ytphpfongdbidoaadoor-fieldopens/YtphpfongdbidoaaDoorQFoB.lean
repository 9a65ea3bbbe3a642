/-
  FieldOpens.
-/
import Derived.Test.YtphpfongdbidoaaDoorQFoA
import Derived.Test.YtphpfongdbidoaaDoorQFdI
import Derived.Test.YtphpfongdbidoaaDoorQRb
import Derived.Test.YtphpfongdbidoaaDoorQFpA
namespace Go.Proofs.YtphpfongdbidoaaDoor
open Go.RowKit
attribute [local go_sem ↓] Go.wp_at_zero Go.wp_at_succ

theorem opL_len (s : Bool) (l : List Int) (m n r : Nat) : (opL s l m n r).length = n * m := mpL_len ..
theorem opL_ok {s : Bool} {l : List Int} {m n r : Nat} (ok : Ok l m n) : Ok (opL s l m n r) m n := mpL_ok (mpL_ok ok)
theorem neg_ok {l : List Int} {m n : Nat} (ok : Ok l m n) : Ok (l.map fun x => -x) m n := by
  refine ⟨ok.m1, ok.m2, ok.n1, ok.n2, by rw [List.length_map]; exact ok.len, fun i => ?_⟩
  rw [gl_neg]
  have := ok.hi i
  unfold hiI at *
  omega
/-- Four rasters that the law has made, and their cells. -/
structure FoF (w W : World) (C D E F BC BD BE BF : Nat) (kc kd ke kf : List Value) (LC LD : List Int) : Prop where
  c0 : At W C kc
  d0 : At W D kd
  e0 : At W E ke
  f0 : At W F kf
  bc : At W BC (ir LC)
  bd : At W BD (ir LD)
  be : At W BE (ir LC)
  bf : At W BF (ir LD)
  gr : Gr w W
theorem FoF.below {w W w' : World} {C D E F BC BD BE BF : Nat} {kc kd ke kf : List Value} {LC LD : List Int} (h : FoF w W C D E F BC BD BE BF kc kd ke kf LC LD) (hB : Below W.heap.size W w') : FoF w w' C D E F BC BD BE BF kc kd ke kf LC LD := ⟨h.c0.below hB, h.d0.below hB, h.e0.below hB, h.f0.below hB, h.bc.below hB, h.bd.below hB, h.be.below hB, h.bf.below hB, Gr.step h.gr hB⟩
set_option maxRecDepth 4000 in
set_option maxHeartbeats 4000000 in
theorem opens_no (g : Nat → Addr) (n : Int) (u : Value) (w : World) (hl : Lai w g) (h1 : ∀ W, Gr w W → Calls Tryd.prog 7 #[u] W fun e w' => e = .returned (.bool false) ∧ w' = W) : Calls Tryd.prog 4 #[u, .int .i64 n] w fun e w' => e = .returned (.bool true) ∧ Gr w w' := by
  have CR := hidb (rasters_any g w hl)
  have S1 := hidb h1
  clear hl h1
  go_enter Tryd.func4, Tryd.ntmps4
  go_wp2_with fail
  refine CR.out.mono ?_
  rintro e w1 ⟨rfl, hB⟩
  have G := hidb hB
  clear hB
  go_wp2_with fail
  refine (S1.out _ G.out).mono ?_
  rintro e w2 ⟨rfl, rfl⟩
  go_wp2
  go_ret
  exact ⟨rfl, G.out⟩
set_option maxRecDepth 4000 in
set_option maxHeartbeats 4000000 in
theorem opens_A (g : Nat → Addr) (n : Int) {pb po : Nat} {W H : Int} {ad : Option Addr} {b o cap : Nat} {l : List Int} (w : World) (hl : Lai w g) (ra : Rin w pb po W H ad b o cap l) (ll : l.length ≤ 200) (hc : ¬ vcode W H l = 0 ∨ (vcode W H l = 0 ∧ (n < 0 ∨ (¬ n < 0 ∧ 20 < n)))) : Calls Tryd.prog 4 #[.pointer (some ⟨pb, po, none⟩), .int .i64 n] w fun e w' => e = .returned (.bool true) ∧ Gr w w' := by
  have CR := hidb (rasters_any g w hl)
  have S1 := hidb (fun W1 (hG : Gr w W1) => small_any pb po W H ad l.length cap W1 (ra.below hG).pt)
  rw [decide_eq_true ll] at S1
  have CW := hidb (fun W1 (hG : Gr w W1) => rasterError_any pb po W H ad b o cap l W1 (ra.below hG).pt (ra.below hG).sl (by omega))
  generalize vcode W H l = v at *
  clear hl ra
  have hc' : (0 < (v : Int)) ∨ ((v : Int) = 0 ∧ (n < 0 ∨ (¬ n < 0 ∧ 20 < n))) := by omega
  clear hc
  generalize (v : Int) = vi at *
  rcases hc' with hv | ⟨rfl, hn | ⟨hn, hn'⟩⟩
  all_goals
    go_enter Tryd.func4, Tryd.ntmps4
    go_wp2_with fail
    refine CR.out.mono ?_
    rintro e w1 ⟨rfl, hB⟩
    have G := hidb hB
    clear hB
    go_wp2_with fail
    refine (S1.out _ G.out).mono ?_
    rintro e w2 ⟨rfl, rfl⟩
    go_wp2_with fail
    refine (CW.out _ G.out).mono ?_
    rintro e w3 ⟨rfl, hB⟩
    replace G := hidb (Gr.step G.out hB.out)
    clear hB
    go_wp2
    go_ret
    exact ⟨rfl, G.out⟩
set_option maxRecDepth 4000 in
set_option maxHeartbeats 16000000 in
theorem opens_B (g : Nat → Addr) {m n rch pb po b o cap : Nat} {l : List Int} (w : World) (hl : Lai w g) (ra : Rin w pb po m n (some ⟨b, o, none⟩) b o cap l) (hr : Rs w b o cap l) (ok : Ok l m n) (ll : l.length ≤ 200) (hr2 : rch ≤ 20) : Calls Tryd.prog 4 #[.pointer (some ⟨pb, po, none⟩), .int .i64 (rch : Int)] w fun e w' => e = .returned (.bool true) ∧ Gr w w' := by
  have RA := hidb ra
  have HRs := hidb hr
  have CR := hidb (rasters_any g w hl)
  have S1 := hidb (fun W1 (hG : Gr w W1) => small_any pb po m n (some ⟨b, o, none⟩) l.length cap W1 (ra.below hG).pt)
  rw [decide_eq_true ll] at S1
  have hm1 := ok.m1
  have hll : l.length = n * m := by rw [ok.len, Nat.mul_comm]
  obtain ⟨LC, hLC⟩ : ∃ L, L = opL true l m n rch := ⟨_, rfl⟩
  obtain ⟨LD, hLD⟩ : ∃ L, L = opL false l m n rch := ⟨_, rfl⟩
  have nC : LC.length = l.length := by rw [hLC, opL_len, hll]
  have nD : LD.length = l.length := by rw [hLD, opL_len, hll]
  have okC : Ok LC m n := by rw [hLC]; exact opL_ok ok
  have okD : Ok LD m n := by rw [hLD]; exact opL_ok ok
  have tC : opL true LC m n rch = LC := by rw [hLC]; exact opL_twice hm1
  have tD : opL false LD m n rch = LD := by rw [hLD]; exact opL_twice hm1
  have C1 : Hid (∀ W1, Gr w W1 → Calls Tryd.prog 16 #[raV m n (.slice (some ⟨b, o, none⟩) l.length cap), .int .i64 (rch : Int)] W1 fun e w' => ∃ B, e = .returned (.tuple #[raV m n (.slice (some ⟨B, 0, none⟩) l.length l.length), .nilIface]) ∧ At w' B (ir LC) ∧ Gr W1 w') := fun W1 hG => by
    refine (Open_ok g W1 (hr.below hG.out) ok (hl.below hG.out) (by omega)).mono ?_
    rintro e w' ⟨B, rfl, hA, _, hB⟩
    rw [← hLC] at hA
    exact ⟨B, rfl, hA, hB⟩
  have C2 : Hid (∀ W1, Gr w W1 → Calls Tryd.prog 17 #[raV m n (.slice (some ⟨b, o, none⟩) l.length cap), .int .i64 (rch : Int)] W1 fun e w' => ∃ B, e = .returned (.tuple #[raV m n (.slice (some ⟨B, 0, none⟩) l.length l.length), .nilIface]) ∧ At w' B (ir LD) ∧ Gr W1 w') := fun W1 hG => by
    refine (Close_ok g W1 (hr.below hG.out) ok (hl.below hG.out) (by omega)).mono ?_
    rintro e w' ⟨B, rfl, hA, _, hB⟩
    rw [← hLD] at hA
    exact ⟨B, rfl, hA, hB⟩
  have C3 : Hid (∀ W1 B, Gr w W1 → At W1 B (ir LC) → Calls Tryd.prog 16 #[raV m n (.slice (some ⟨B, 0, none⟩) l.length l.length), .int .i64 (rch : Int)] W1 fun e w' => ∃ B, e = .returned (.tuple #[raV m n (.slice (some ⟨B, 0, none⟩) l.length l.length), .nilIface]) ∧ At w' B (ir LC) ∧ Gr W1 w') := fun W1 B hG hA => by
    have := Open_ok g W1 (At.rs hA (Nat.le_refl _)) okC (hl.below hG.out) (show rch ≤ 128 by omega)
    rw [nC, tC] at this
    refine this.mono ?_
    rintro e w' ⟨B, rfl, hA, _, hB⟩
    exact ⟨B, rfl, hA, hB⟩
  have C4 : Hid (∀ W1 B, Gr w W1 → At W1 B (ir LD) → Calls Tryd.prog 17 #[raV m n (.slice (some ⟨B, 0, none⟩) l.length l.length), .int .i64 (rch : Int)] W1 fun e w' => ∃ B, e = .returned (.tuple #[raV m n (.slice (some ⟨B, 0, none⟩) l.length l.length), .nilIface]) ∧ At w' B (ir LD) ∧ Gr W1 w') := fun W1 B hG hA => by
    have := Close_ok g W1 (At.rs hA (Nat.le_refl _)) okD (hl.below hG.out) (show rch ≤ 128 by omega)
    rw [nD, tD] at this
    refine this.mono ?_
    rintro e w' ⟨B, rfl, hA, _, hB⟩
    exact ⟨B, rfl, hA, hB⟩
  obtain ⟨LN, hLN⟩ : ∃ L : List Int, L = l.map fun x => -x := ⟨_, rfl⟩
  have nN : LN.length = l.length := by rw [hLN, List.length_map]
  obtain ⟨LH, hLH⟩ : ∃ L : List Int, L = LC.map fun x => -x := ⟨_, rfl⟩
  have okN : Ok LN m n := by rw [hLN]; exact neg_ok ok
  have C5 : Hid (∀ W1 B c, Gr w W1 → Rs W1 B 0 c LN → Calls Tryd.prog 17 #[raV m n (.slice (some ⟨B, 0, none⟩) l.length c), .int .i64 (rch : Int)] W1 fun e w' => ∃ B, e = .returned (.tuple #[raV m n (.slice (some ⟨B, 0, none⟩) l.length l.length), .nilIface]) ∧ At w' B (ir LH) ∧ Gr W1 w') := fun W1 B c hG hA => by
    have := Close_ok g W1 hA okN (hl.below hG.out) (show rch ≤ 128 by omega)
    rw [nN, show opL false LN m n rch = LH by rw [hLN, opL_neg hm1, hLH, hLC]; rfl] at this
    refine this.mono ?_
    rintro e w' ⟨B, rfl, hA, _, hB⟩
    exact ⟨B, rfl, hA, hB⟩
  have HNeg : Hid (∀ k, (h : k < l.length) → LN.take k ++ [-gl l k] = LN.take (k + 1)) := fun k h => by
    rw [List.take_succ_eq_append_getElem (show k < LN.length by omega)]
    congr 2
    rw [gl_get (show k < LN.length by omega), hLN, gl_neg]
  have HNt : Hid (LN.take l.length = LN) := by show _ = _; rw [← nN, List.take_length]
  have HCmp : Hid (∀ k, k < l.length → gl LC k ≤ gl l k ∧ gl l k ≤ gl LD k ∧ gl LH k = -gl LC k) := fun k hk => by
    have h1 : k / m < n := (Nat.div_lt_iff_lt_mul (by omega)).2 (by omega)
    have h2 : k % m < m := Nat.mod_lt _ (by omega)
    have e : k / m * m + k % m = k := by rw [Nat.mul_comm]; exact Nat.div_add_mod _ _
    have a1 := opL_le (s := true) (l := l) (r := rch) h1 h2
    have a2 := opL_le (s := false) (l := l) (r := rch) h1 h2
    rw [e, ← hLC] at a1
    rw [e, ← hLD] at a2
    simp [lq] at a1 a2
    exact ⟨a1, a2, by rw [hLH, gl_neg]⟩
  have HHi := hidb (fun k => (show -1048576 ≤ gl l k ∧ gl l k ≤ 1048576 from ok.hi k))
  have HHc := hidb (fun k => (show -1048576 ≤ gl LC k ∧ gl LC k ≤ 1048576 from okC.hi k))
  have nH : LH.length = l.length := by rw [hLH, List.length_map, nC]
  have HLen := hidb (show LC.length = l.length ∧ LD.length = l.length ∧ LH.length = l.length ∧ LN.length = l.length ∧ l.length ≤ 200 ∧ 1 ≤ l.length from ⟨nC, nD, nH, nN, ll, by have := Nat.mul_le_mul ok.n1 ok.m1; omega⟩)
  have CI : ∀ L : List Int, L.length = l.length → Hid (∀ W1 (ad ad' : Option Addr) b1 b2 o1 o2 c1 c2, ISl W1 ad b1 o1 c1 L → ISl W1 ad' b2 o2 c2 L → Calls Tryd.prog 14 #[raV m n (.slice ad l.length c1), .int .i64 (m : Int), .int .i64 (n : Int), .slice ad' l.length c2] W1 fun e w' => e = .returned (.bool true) ∧ Gr W1 w') := fun L hL W1 ad ad' b1 b2 o1 o2 c1 c2 h1 h2 => by
    have := is_any (m : Int) (n : Int) (by omega) W1 h1 h2
    rw [hL] at this
    exact this
  have IC := CI LC nC
  have ID := CI LD nD
  have CW := hidb (fun W1 (hG : Gr w W1) => rasterError_any pb po m n (some ⟨b, o, none⟩) b o cap l W1 (ra.below hG).pt (ra.below hG).sl (by omega))
  rw [ok_vcode ok] at CW
  obtain ⟨rI, hrI⟩ : ∃ q : Int, q = (rch : Int) := ⟨_, rfl⟩
  have l1 : ¬ rI < 0 := by omega
  have l2 : ¬ 20 < rI := by omega
  rw [← hrI] at C1 C2 C3 C4 C5 ⊢
  clear hl ra hr ok ll hr2 hm1 hll hLC hLD hLN hLH nC nD nN nH okC okD okN tC tD CI hrI
  go_enter Tryd.func4, Tryd.ntmps4
  go_wp2_with fail
  refine CR.out.mono ?_
  rintro e w1 ⟨rfl, hB⟩
  have G := hidb hB
  clear hB
  go_wp2_with fail
  refine (S1.out _ G.out).mono ?_
  rintro e w2 ⟨rfl, rfl⟩
  go_wp2_with fail
  refine (CW.out _ G.out).mono ?_
  rintro e w3 ⟨rfl, hB⟩
  replace G := hidb (Gr.step G.out hB.out)
  clear hB
  obtain ⟨p0, p1, p2⟩ := (RA.out.below G.out).pt
  go_wp2_with fail
  refine (C1.out _ G.out).mono ?_
  rintro e v0 ⟨BC, rfl, hA, hB⟩
  replace G := hidb (Gr.step G.out hB.out)
  have HCb := hidb hA
  clear hA hB p0 p1 p2
  go_upto_region 6 with fail
  replace HCb := hidb (HCb.out.alloc (.cells #[.int .i64 m, .int .i64 n, .slice (some ⟨BC, 0, none⟩) l.length l.length] 27))
  have HC := hidb (At.new3 v0 (.int .i64 m) (.int .i64 n) (.slice (some ⟨BC, 0, none⟩) l.length l.length) 27)
  replace G := hidb (G.out.alloc (.cells #[.int .i64 m, .int .i64 n, .slice (some ⟨BC, 0, none⟩) l.length l.length] 27))
  generalize v0.alloc (.cells #[.int .i64 m, .int .i64 n, .slice (some ⟨BC, 0, none⟩) l.length l.length] 27) = u0 at *
  generalize v0.heap.size = C at *
  obtain ⟨p0, p1, p2⟩ := (RA.out.below G.out).pt
  go_wp2_with fail
  refine (C2.out _ G.out).mono ?_
  rintro e v1 ⟨BD, rfl, hA, hB⟩
  replace G := hidb (Gr.step G.out hB.out)
  replace HCb := hidb (At.below hB.out HCb.out)
  replace HC := hidb (At.below hB.out HC.out)
  have HDb := hidb hA
  clear hA hB p0 p1 p2
  go_upto_region 7 with fail
  replace HCb := hidb (HCb.out.alloc (.cells #[.int .i64 m, .int .i64 n, .slice (some ⟨BD, 0, none⟩) l.length l.length] 27))
  replace HC := hidb (HC.out.alloc (.cells #[.int .i64 m, .int .i64 n, .slice (some ⟨BD, 0, none⟩) l.length l.length] 27))
  replace HDb := hidb (HDb.out.alloc (.cells #[.int .i64 m, .int .i64 n, .slice (some ⟨BD, 0, none⟩) l.length l.length] 27))
  have HD := hidb (At.new3 v1 (.int .i64 m) (.int .i64 n) (.slice (some ⟨BD, 0, none⟩) l.length l.length) 27)
  replace G := hidb (G.out.alloc (.cells #[.int .i64 m, .int .i64 n, .slice (some ⟨BD, 0, none⟩) l.length l.length] 27))
  generalize v1.alloc (.cells #[.int .i64 m, .int .i64 n, .slice (some ⟨BD, 0, none⟩) l.length l.length] 27) = u1 at *
  generalize v1.heap.size = D at *
  obtain ⟨p0, p1, p2⟩ := HC.out.c3
  go_wp2_with fail
  refine (C3.out _ BC G.out HCb.out).mono ?_
  rintro e v2 ⟨BE, rfl, hA, hB⟩
  replace G := hidb (Gr.step G.out hB.out)
  replace HCb := hidb (At.below hB.out HCb.out)
  replace HC := hidb (At.below hB.out HC.out)
  replace HDb := hidb (At.below hB.out HDb.out)
  replace HD := hidb (At.below hB.out HD.out)
  have HEb := hidb hA
  clear hA hB p0 p1 p2
  go_upto_region 8 with fail
  replace HCb := hidb (HCb.out.alloc (.cells #[.int .i64 m, .int .i64 n, .slice (some ⟨BE, 0, none⟩) l.length l.length] 27))
  replace HC := hidb (HC.out.alloc (.cells #[.int .i64 m, .int .i64 n, .slice (some ⟨BE, 0, none⟩) l.length l.length] 27))
  replace HDb := hidb (HDb.out.alloc (.cells #[.int .i64 m, .int .i64 n, .slice (some ⟨BE, 0, none⟩) l.length l.length] 27))
  replace HD := hidb (HD.out.alloc (.cells #[.int .i64 m, .int .i64 n, .slice (some ⟨BE, 0, none⟩) l.length l.length] 27))
  replace HEb := hidb (HEb.out.alloc (.cells #[.int .i64 m, .int .i64 n, .slice (some ⟨BE, 0, none⟩) l.length l.length] 27))
  have HE := hidb (At.new3 v2 (.int .i64 m) (.int .i64 n) (.slice (some ⟨BE, 0, none⟩) l.length l.length) 27)
  replace G := hidb (G.out.alloc (.cells #[.int .i64 m, .int .i64 n, .slice (some ⟨BE, 0, none⟩) l.length l.length] 27))
  generalize v2.alloc (.cells #[.int .i64 m, .int .i64 n, .slice (some ⟨BE, 0, none⟩) l.length l.length] 27) = u2 at *
  generalize v2.heap.size = E at *
  obtain ⟨p0, p1, p2⟩ := HD.out.c3
  go_wp2_with fail
  refine (C4.out _ BD G.out HDb.out).mono ?_
  rintro e v3 ⟨BF, rfl, hA, hB⟩
  replace G := hidb (Gr.step G.out hB.out)
  replace HCb := hidb (At.below hB.out HCb.out)
  replace HC := hidb (At.below hB.out HC.out)
  replace HDb := hidb (At.below hB.out HDb.out)
  replace HD := hidb (At.below hB.out HD.out)
  replace HEb := hidb (At.below hB.out HEb.out)
  replace HE := hidb (At.below hB.out HE.out)
  have HFb := hidb hA
  clear hA hB p0 p1 p2
  go_upto_region 9 with fail
  replace HCb := hidb (HCb.out.alloc (.cells #[.int .i64 m, .int .i64 n, .slice (some ⟨BF, 0, none⟩) l.length l.length] 27))
  replace HC := hidb (HC.out.alloc (.cells #[.int .i64 m, .int .i64 n, .slice (some ⟨BF, 0, none⟩) l.length l.length] 27))
  replace HDb := hidb (HDb.out.alloc (.cells #[.int .i64 m, .int .i64 n, .slice (some ⟨BF, 0, none⟩) l.length l.length] 27))
  replace HD := hidb (HD.out.alloc (.cells #[.int .i64 m, .int .i64 n, .slice (some ⟨BF, 0, none⟩) l.length l.length] 27))
  replace HEb := hidb (HEb.out.alloc (.cells #[.int .i64 m, .int .i64 n, .slice (some ⟨BF, 0, none⟩) l.length l.length] 27))
  replace HE := hidb (HE.out.alloc (.cells #[.int .i64 m, .int .i64 n, .slice (some ⟨BF, 0, none⟩) l.length l.length] 27))
  replace HFb := hidb (HFb.out.alloc (.cells #[.int .i64 m, .int .i64 n, .slice (some ⟨BF, 0, none⟩) l.length l.length] 27))
  have HF := hidb (At.new3 v3 (.int .i64 m) (.int .i64 n) (.slice (some ⟨BF, 0, none⟩) l.length l.length) 27)
  replace G := hidb (G.out.alloc (.cells #[.int .i64 m, .int .i64 n, .slice (some ⟨BF, 0, none⟩) l.length l.length] 27))
  generalize v3.alloc (.cells #[.int .i64 m, .int .i64 n, .slice (some ⟨BF, 0, none⟩) l.length l.length] 27) = u3 at *
  generalize v3.heap.size = F at *
  have T := hidb (show FoF w _ _ _ _ _ _ _ _ _ _ _ _ _ _ _ from ⟨HC.out, HD.out, HE.out, HF.out, HCb.out, HDb.out, HEb.out, HFb.out, G.out⟩)
  clear G HC HD HE HF HCb HDb HEb HFb
  generalize u3 = w9 at *
  go_cut [15] from 71 to 79 (fun s15 wx => s15 = .pointer (some ⟨w9.heap.size, 0, none⟩) ∧ Hid (At wx w9.heap.size [.int .i64 m, .int .i64 n, .slice none 0 0]) ∧ Hid (Gr w9 wx))
  case first =>
    obtain ⟨p0, p1, p2⟩ := (RA.out.below T.out.gr).pt
    have pl := lt_of_cell p0
    have E := Gr.refl w9
    simp at pl
    go_region_held (fun w' => (w'.cell? ⟨pb, po, none⟩ = some (.int .i64 m) ∧ w'.cell? ⟨pb, po + 1, none⟩ = some (.int .i64 n) ∧ w'.cell? ⟨pb, po + 2, none⟩ = some (.slice (some ⟨b, o, none⟩) l.length cap)))
      (with_reducible first | exact (RA.out.below T.out.gr).pt.all | exact (RA.out.below T.out.gr.drew).pt.all | exact (RA.out.below (T.out.gr.alloc _)).pt.all | exact (RA.out.below (T.out.gr.alloc _).drew).pt.all | exact (RA.out.below (T.out.gr.drew.alloc _)).pt.all)
      (fail)
    all_goals
      go_wp2_with fail
      go_meet
      with_reducible first
        | exact ⟨rfl, hidb (At.new3 _ _ _ _ _), hidb ((Gr.refl _).alloc _)⟩
        | exact ⟨rfl, hidb (At.new3 _ _ _ _ _).drew, hidb ((Gr.refl _).alloc _).drew⟩
  case rest =>
  obtain ⟨rfl, HG, HW⟩ := hcut
  have HWs := hidb HG.out.lt
  generalize hGn : w9.heap.size = Gb at *
  have HGn := hidb hGn
  clear hGn
  go_wp2
  go_loopw [16] (fun t wr => ∃ (k : Nat) (ad1 : Option Addr) (cap1 : Nat), k ≤ l.length ∧ t = .int .i64 (k : Int) ∧ Hid (At wr Gb [.int .i64 m, .int .i64 n, .slice ad1 k cap1]) ∧ Hid (wr.ownsRow (Gb + 1) 3 1 (.slice ad1 k cap1) k (ir (LN.take k))) ∧ Hid (Gr w9 wr) ∧ Hid (Gb + 1 ≤ wr.heap.size)) (fun t _ => l.length - (intOf t).toNat)
  case atStart => exact ⟨0, none, 0, Nat.zero_le _, rfl, HG, hidb (by simpa [ir] using World.ownsRow_nil _ (Gb + 1) 3 1), HW, HWs⟩
  case round =>
    clear HG HW HWs
    obtain ⟨k, ad1, cap1, hk, rfl, AW, OW, GW, SK⟩ := hrel
    obtain ⟨p0, p1, p2⟩ := (RA.out.below (Gr.step T.out.gr GW.out.out)).pt
    by_cases h1 : k < l.length
    · have h1' : (k : Int) < (l.length : Int) := by omega
      have e1 : IntKind.i64.wrap ((k : Int) + 1) = ((k + 1 : Nat) : Int) := wrap_in (by omega) (by have := HLen.out; omega)
      have ix := iindex b o l.length cap k h1
      have HT2 := hidb (HNeg.out k h1)
      have bx := HHi.out k
      obtain ⟨r, hrr, e2⟩ : ∃ q : Int, q = -gl l k ∧ IntKind.i64.wrap (-gl l k) = q := ⟨_, rfl, wrap_in (by omega) (by omega)⟩
      rw [← hrr] at HT2
      have HCl := hidb (fun (W1 : World) (hG : Gr w9 W1) => (HRs.out.below (Gr.step T.out.gr hG.out).out).get h1)
      have HPp := hidb (fun (W1 : World) (hG : Gr w9 W1) => (RA.out.below (Gr.step T.out.gr hG.out)).pt.all)
      generalize gl l k = x at *
      have FS : Hid (∀ W1, Gr w9 W1 → W1.cell? ⟨pb, po + 2, none⟩ = some (.slice (some ⟨b, o, none⟩) l.length cap) ∧ W1.cell? ⟨b, o + k, none⟩ = some (.int .i64 x)) := fun W1 hG => ⟨(HPp.out W1 hG).2.2, HCl.out W1 hG⟩
      have HLn := hidb (show (LN.take k).length = k by rw [List.length_take]; have := HLen.out; omega)
      clear bx hrr
      have lG : w9.heap.size ≤ Gb := Nat.le_of_eq HGn.out
      go_upto_region 13 with fail
      clear p0 p1 p2
      refine wp_region_held_drew (S := (fun w' => w'.cell? ⟨pb, po + 2, none⟩ = some (.slice (some ⟨b, o, none⟩) l.length cap) ∧ w'.cell? ⟨b, o + k, none⟩ = some (.int .i64 x))) (by kernel_rfl) ?_ (fun hHeld => ?_)
      · (try dsimp only); (with_reducible first | exact FS.out _ (GW.out) | exact FS.out _ ((GW.out).drew) | exact FS.out _ (((GW.out).drew).drew) | exact FS.out _ ((((GW.out).drew).drew).drew) | exact FS.out _ ((GW.out).alloc _) | exact FS.out _ (((GW.out).alloc _).drew) | exact FS.out _ ((((GW.out).alloc _).drew).drew) | exact FS.out _ (((GW.out).drew).alloc _) | exact FS.out _ ((((GW.out).drew).alloc _).drew) | exact FS.out _ (((((GW.out).drew).alloc _).drew).drew) | exact FS.out _ ((((GW.out).drew).drew).alloc _) | exact FS.out _ (((((GW.out).drew).drew).alloc _).drew) | exact FS.out _ ((((((GW.out).drew).drew).alloc _).drew).drew) | exact FS.out _ ((GW.out).set lG _ _) | exact FS.out _ (((GW.out).drew).set lG _ _) | exact FS.out _ ((((GW.out).drew).drew).set lG _ _) | exact FS.out _ (((GW.out).set lG _ _).drew) | exact FS.out _ ((((GW.out).drew).set lG _ _).drew) | exact FS.out _ (((((GW.out).drew).drew).set lG _ _).drew))
      refine wpAnyH_take (i := 0) (v := ?vg0x2) rfl (by kernel_rfl) (by kernel_rfl) (by kernel_rfl) (fun _ _ _ h => h) (Or.inl ⟨by kernel_rfl, ?hg0x2⟩) (by assumption) ?rg0x2
      case hg0x2 => (intro w hSw; (try dsimp only at hSw); go_simp; try with_reducible rfl)
      (try simp only [Act.put, List.getElem_toArray, List.getElem_cons_zero, List.setIfInBounds_toArray, List.set_cons_zero, List.set_cons_succ])
      refine wpAnyH_take (i := 2) (v := ?vg2x5) rfl (by kernel_rfl) (by kernel_rfl) (by kernel_rfl) (fun _ _ _ h => h) (Or.inl ⟨by kernel_rfl, ?hg2x5⟩) (by assumption) ?rg2x5
      case hg2x5 => (intro w hSw; (try dsimp only at hSw); go_simp; try with_reducible rfl)
      (try simp only [Act.put, List.getElem_toArray, List.getElem_cons_zero, List.getElem_cons_succ, List.setIfInBounds_toArray, List.set_cons_zero, List.set_cons_succ])
      refine wpAnyH_take (i := 3) (v := ?vg3x8) rfl (by kernel_rfl) (by kernel_rfl) (by kernel_rfl) (fun _ _ _ h => h) (Or.inl ⟨by kernel_rfl, ?hg3x8⟩) (by assumption) ?rg3x8
      case hg3x8 => (intro w hSw; (try dsimp only at hSw); go_simp; try with_reducible rfl)
      (try simp only [Act.put, List.getElem_toArray, List.getElem_cons_zero, List.getElem_cons_succ, List.setIfInBounds_toArray, List.set_cons_zero, List.set_cons_succ])
      refine wpAnyH_take (i := 4) (v := ?vg4x11) rfl (by kernel_rfl) (by kernel_rfl) (by kernel_rfl) (fun _ _ _ h => h) (Or.inl ⟨by kernel_rfl, ?hg4x11⟩) (by assumption) ?rg4x11
      case hg4x11 => (intro w hSw; (try dsimp only at hSw); go_simp; try with_reducible rfl)
      (try simp only [Act.put, List.getElem_toArray, List.getElem_cons_zero, List.getElem_cons_succ, List.setIfInBounds_toArray, List.set_cons_zero, List.set_cons_succ])
      refine wpAnyH_take (i := 5) (v := ?vg5x14) rfl (by kernel_rfl) (by kernel_rfl) (by kernel_rfl) (fun _ _ _ h => h) (Or.inl ⟨by kernel_rfl, ?hg5x14⟩) (by assumption) ?rg5x14
      case hg5x14 => (intro w hSw; (try dsimp only at hSw); go_simp; try with_reducible rfl)
      (try simp only [Act.put, List.getElem_toArray, List.getElem_cons_zero, List.getElem_cons_succ, List.setIfInBounds_toArray, List.set_cons_zero, List.set_cons_succ])
      refine wpAnyH_take (i := 6) (v := ?vg6x17) rfl (by kernel_rfl) (by kernel_rfl) (by kernel_rfl) (fun _ _ _ h => h) (Or.inl ⟨by kernel_rfl, ?hg6x17⟩) (by assumption) ?rg6x17
      case hg6x17 => (intro w hSw; (try dsimp only at hSw); go_simp; try with_reducible rfl)
      (try simp only [Act.put, List.getElem_toArray, List.getElem_cons_zero, List.getElem_cons_succ, List.setIfInBounds_toArray, List.set_cons_zero, List.set_cons_succ])
      refine wpAnyH_take (i := 7) (v := ?vg7x20) rfl (by kernel_rfl) (by kernel_rfl) (by kernel_rfl) (fun _ _ _ h => h) (Or.inl ⟨by kernel_rfl, ?hg7x20⟩) (by assumption) ?rg7x20
      case hg7x20 => (intro w hSw; (try dsimp only at hSw); go_simp; try with_reducible rfl)
      (try simp only [Act.put, List.getElem_toArray, List.getElem_cons_zero, List.getElem_cons_succ, List.setIfInBounds_toArray, List.set_cons_zero, List.set_cons_succ])
      refine wpAnyH_take (i := 8) (v := ?vg8x23) rfl (by kernel_rfl) (by kernel_rfl) (by kernel_rfl) (fun _ _ _ h => h) (Or.inl ⟨by kernel_rfl, ?hg8x23⟩) (by assumption) ?rg8x23
      case hg8x23 => (intro w hSw; (try dsimp only at hSw); go_simp; try with_reducible rfl)
      (try simp only [Act.put, List.getElem_toArray, List.getElem_cons_zero, List.getElem_cons_succ, List.setIfInBounds_toArray, List.set_cons_zero, List.set_cons_succ])
      refine wpAnyH_take (i := 9) (v := ?vg9x26) rfl (by kernel_rfl) (by kernel_rfl) (by kernel_rfl) (fun _ _ _ h => h) (Or.inl ⟨by kernel_rfl, ?hg9x26⟩) (by assumption) ?rg9x26
      case hg9x26 => (intro w hSw; (try dsimp only at hSw); go_simp; try with_reducible rfl)
      (try simp only [Act.put, List.getElem_toArray, List.getElem_cons_zero, List.getElem_cons_succ, List.setIfInBounds_toArray, List.set_cons_zero, List.set_cons_succ])
      refine wpAnyH_ready (rs := [1, 10]) (by kernel_rfl) (by simp) ?_
      refine AllReadyH.cons rfl (fun K hK => ?_) (AllReadyH.cons rfl (fun K hK => ?_) AllReadyH.nil)
      · skip
        have tq2 := AW.out.c3.2.2
        have tq3 := AW.out.drew.c3.2.2
        have tq4 := (AW.out.alloc (.cells #[.int .i64 r] 3)).c3.2.2
        have tq5 := (AW.out.alloc (.cells #[.int .i64 r] 3)).drew.c3.2.2
        go_simp
        clear tq2 tq3 tq4 tq5
        refine hK.out _ _ ?_ (fun hHeld => ?_)
        · (try dsimp only); (with_reducible first | exact FS.out _ (GW.out) | exact FS.out _ ((GW.out).drew) | exact FS.out _ (((GW.out).drew).drew) | exact FS.out _ ((((GW.out).drew).drew).drew) | exact FS.out _ ((GW.out).alloc _) | exact FS.out _ (((GW.out).alloc _).drew) | exact FS.out _ ((((GW.out).alloc _).drew).drew) | exact FS.out _ (((GW.out).drew).alloc _) | exact FS.out _ ((((GW.out).drew).alloc _).drew) | exact FS.out _ (((((GW.out).drew).alloc _).drew).drew) | exact FS.out _ ((((GW.out).drew).drew).alloc _) | exact FS.out _ (((((GW.out).drew).drew).alloc _).drew) | exact FS.out _ ((((((GW.out).drew).drew).alloc _).drew).drew) | exact FS.out _ ((GW.out).set lG _ _) | exact FS.out _ (((GW.out).drew).set lG _ _) | exact FS.out _ ((((GW.out).drew).drew).set lG _ _) | exact FS.out _ (((GW.out).set lG _ _).drew) | exact FS.out _ ((((GW.out).drew).set lG _ _).drew) | exact FS.out _ (((((GW.out).drew).drew).set lG _ _).drew))
        clear hK K
        refine wpAnyH_ready (rs := [10]) (by kernel_rfl) (by simp) ?_
        refine AllReadyH.cons rfl (fun K hK => ?_) AllReadyH.nil
        go_simp
        refine hK.out _ _ ?_ (fun hHeld => ?_)
        · (try dsimp only); (with_reducible first | exact FS.out _ (GW.out) | exact FS.out _ ((GW.out).drew) | exact FS.out _ (((GW.out).drew).drew) | exact FS.out _ ((((GW.out).drew).drew).drew) | exact FS.out _ ((GW.out).alloc _) | exact FS.out _ (((GW.out).alloc _).drew) | exact FS.out _ ((((GW.out).alloc _).drew).drew) | exact FS.out _ (((GW.out).drew).alloc _) | exact FS.out _ ((((GW.out).drew).alloc _).drew) | exact FS.out _ (((((GW.out).drew).alloc _).drew).drew) | exact FS.out _ ((((GW.out).drew).drew).alloc _) | exact FS.out _ (((((GW.out).drew).drew).alloc _).drew) | exact FS.out _ ((((((GW.out).drew).drew).alloc _).drew).drew) | exact FS.out _ ((GW.out).set lG _ _) | exact FS.out _ (((GW.out).drew).set lG _ _) | exact FS.out _ ((((GW.out).drew).drew).set lG _ _) | exact FS.out _ (((GW.out).set lG _ _).drew) | exact FS.out _ ((((GW.out).drew).set lG _ _).drew) | exact FS.out _ (((((GW.out).drew).drew).set lG _ _).drew))
        clear hK K
        refine wpAnyH_ready (rs := [11]) (by kernel_rfl) (by simp) ?_
        refine AllReadyH.cons rfl (fun K hK => ?_) AllReadyH.nil
        refine step_i1 _ (Gb + 1) (.slice ad1 k cap1) (LN.take k) r k wr.heap.size _ _ rfl rfl rfl rfl HLn.out (by have := HLen.out; omega) (by with_reducible first | exact (OW.out).alloc _ | exact ((OW.out).alloc _).drew | exact (((OW.out).alloc _).drew).drew | exact ((OW.out).drew).alloc _ | exact (((OW.out).drew).alloc _).drew | exact ((((OW.out).drew).alloc _).drew).drew | exact (((OW.out).drew).drew).alloc _ | exact ((((OW.out).drew).drew).alloc _).drew | exact (((((OW.out).drew).drew).alloc _).drew).drew) (by with_reducible first | exact At.new1 _ _ _ | exact At.new1d' _ _ _ | exact At.new1dd' _ _ _ | exact (At.new1 _ _ _).drew | exact (At.new1d' _ _ _).drew | exact (At.new1dd' _ _ _).drew | exact ((At.new1 _ _ _).drew).drew | exact ((At.new1d' _ _ _).drew).drew | exact ((At.new1dd' _ _ _).drew).drew) (by have := SK.out; simp; omega) ?_
        intro g2 cap2 w2 hown2 hgrow2
        obtain ⟨A2, _, G2, S2⟩ := app_facts OW.out hgrow2 (by with_reducible first | exact (Gr.refl wr).alloc _ | exact ((Gr.refl wr).alloc _).drew | exact (((Gr.refl wr).alloc _).drew).drew | exact ((Gr.refl wr).drew).alloc _ | exact (((Gr.refl wr).drew).alloc _).drew | exact ((((Gr.refl wr).drew).alloc _).drew).drew | exact (((Gr.refl wr).drew).drew).alloc _ | exact ((((Gr.refl wr).drew).drew).alloc _).drew | exact (((((Gr.refl wr).drew).drew).alloc _).drew).drew) SK.out (by have := HGn.out; omega) (Nat.lt_succ_self _) (Nat.lt_succ_self _) AW.out AW.out GW.out
        obtain ⟨t0, t1, t2⟩ := A2.c3
        obtain ⟨f0, f1, f2⟩ := A2.f3
        have TH := A2.has (n := 3) rfl
        have HOW2 := hidb hown2
        have HA2 := hidb A2
        have HG2 := hidb G2
        have HS2 := hidb S2
        replace GW := hidb G2
        clear hgrow2 hown2 A2 G2 S2
        refine hK.out _ _ ?_ (fun hHeld => ?_)
        · (try dsimp only); (with_reducible first | exact FS.out _ (GW.out) | exact FS.out _ ((GW.out).drew) | exact FS.out _ (((GW.out).drew).drew) | exact FS.out _ ((((GW.out).drew).drew).drew) | exact FS.out _ ((GW.out).alloc _) | exact FS.out _ (((GW.out).alloc _).drew) | exact FS.out _ ((((GW.out).alloc _).drew).drew) | exact FS.out _ (((GW.out).drew).alloc _) | exact FS.out _ ((((GW.out).drew).alloc _).drew) | exact FS.out _ (((((GW.out).drew).alloc _).drew).drew) | exact FS.out _ ((((GW.out).drew).drew).alloc _) | exact FS.out _ (((((GW.out).drew).drew).alloc _).drew) | exact FS.out _ ((((((GW.out).drew).drew).alloc _).drew).drew) | exact FS.out _ ((GW.out).set lG _ _) | exact FS.out _ (((GW.out).drew).set lG _ _) | exact FS.out _ ((((GW.out).drew).drew).set lG _ _) | exact FS.out _ (((GW.out).set lG _ _).drew) | exact FS.out _ ((((GW.out).drew).set lG _ _).drew) | exact FS.out _ (((((GW.out).drew).drew).set lG _ _).drew))
        clear hK K
        refine wpAnyH_take (i := 12) (v := ?vg12x64) rfl (by kernel_rfl) (by kernel_rfl) (by kernel_rfl) (fun _ _ _ h => h) (Or.inl ⟨by kernel_rfl, ?hg12x64⟩) (by assumption) ?rg12x64
        case hg12x64 => (intro w hSw; (try dsimp only at hSw); go_simp; try with_reducible rfl)
        (try simp only [Act.put, List.getElem_toArray, List.getElem_cons_zero, List.getElem_cons_succ, List.setIfInBounds_toArray, List.set_cons_zero, List.set_cons_succ])
        refine wpAnyH_ready (rs := [13]) (by kernel_rfl) (by simp) ?_
        refine AllReadyH.cons rfl (fun K hK => ?_) AllReadyH.nil
        go_simp
        refine hK.out _ _ ?_ (fun hHeld => ?_)
        · (try dsimp only); (with_reducible first | exact FS.out _ (GW.out) | exact FS.out _ ((GW.out).drew) | exact FS.out _ (((GW.out).drew).drew) | exact FS.out _ ((((GW.out).drew).drew).drew) | exact FS.out _ ((GW.out).alloc _) | exact FS.out _ (((GW.out).alloc _).drew) | exact FS.out _ ((((GW.out).alloc _).drew).drew) | exact FS.out _ (((GW.out).drew).alloc _) | exact FS.out _ ((((GW.out).drew).alloc _).drew) | exact FS.out _ (((((GW.out).drew).alloc _).drew).drew) | exact FS.out _ ((((GW.out).drew).drew).alloc _) | exact FS.out _ (((((GW.out).drew).drew).alloc _).drew) | exact FS.out _ ((((((GW.out).drew).drew).alloc _).drew).drew) | exact FS.out _ ((GW.out).set lG _ _) | exact FS.out _ (((GW.out).drew).set lG _ _) | exact FS.out _ ((((GW.out).drew).drew).set lG _ _) | exact FS.out _ (((GW.out).set lG _ _).drew) | exact FS.out _ ((((GW.out).drew).set lG _ _).drew) | exact FS.out _ (((((GW.out).drew).drew).set lG _ _).drew))
        clear hK K
        refine wpAnyH_done (by kernel_rfl) ?_ _
        clear ix t0 t1 t2 f0 f1 f2 TH
        obtain ⟨p0, p1, p2⟩ := (RA.out.below (Gr.step T.out.gr ((HG2.out.set lG 2 (.slice (some ⟨g2, 0, none⟩) (k + 1) cap2))).out)).pt
        go_wp2
        go_roundw
        case rel =>
          refine ⟨k + 1, some ⟨g2, 0, none⟩, cap2, by omega, rfl, ?_, ?_, ?_, ?_⟩
          · with_reducible first | exact hidb (HA2.out.put2c _) | exact hidb ((HA2.out.put2c _).drew) | exact hidb (((HA2.out.put2c _).drew).drew) | exact hidb ((((HA2.out.put2c _).drew).drew).drew)
          · rw [← HT2.out]; with_reducible first | exact hidb (own_set HOW2.out (Nat.lt_succ_self _) _ _) | exact hidb ((own_set HOW2.out (Nat.lt_succ_self _) _ _).drew) | exact hidb (((own_set HOW2.out (Nat.lt_succ_self _) _ _).drew).drew) | exact hidb ((((own_set HOW2.out (Nat.lt_succ_self _) _ _).drew).drew).drew)
          · with_reducible first | exact hidb (HG2.out.set lG _ _) | exact hidb ((HG2.out.set lG _ _).drew) | exact hidb (((HG2.out.set lG _ _).drew).drew) | exact hidb ((((HG2.out.set lG _ _).drew).drew).drew)
          · have := HS2.out; show _ ≤ _; simpa using this
        case measure => simp [intOf]; omega
      · skip
        go_simp
        refine hK.out _ _ ?_ (fun hHeld => ?_)
        · (try dsimp only); (with_reducible first | exact FS.out _ (GW.out) | exact FS.out _ ((GW.out).drew) | exact FS.out _ (((GW.out).drew).drew) | exact FS.out _ ((((GW.out).drew).drew).drew) | exact FS.out _ ((GW.out).alloc _) | exact FS.out _ (((GW.out).alloc _).drew) | exact FS.out _ ((((GW.out).alloc _).drew).drew) | exact FS.out _ (((GW.out).drew).alloc _) | exact FS.out _ ((((GW.out).drew).alloc _).drew) | exact FS.out _ (((((GW.out).drew).alloc _).drew).drew) | exact FS.out _ ((((GW.out).drew).drew).alloc _) | exact FS.out _ (((((GW.out).drew).drew).alloc _).drew) | exact FS.out _ ((((((GW.out).drew).drew).alloc _).drew).drew) | exact FS.out _ ((GW.out).set lG _ _) | exact FS.out _ (((GW.out).drew).set lG _ _) | exact FS.out _ ((((GW.out).drew).drew).set lG _ _) | exact FS.out _ (((GW.out).set lG _ _).drew) | exact FS.out _ ((((GW.out).drew).set lG _ _).drew) | exact FS.out _ (((((GW.out).drew).drew).set lG _ _).drew))
        clear hK K
        refine wpAnyH_ready (rs := [1]) (by kernel_rfl) (by simp) ?_
        refine AllReadyH.cons rfl (fun K hK => ?_) AllReadyH.nil
        have tq2 := AW.out.c3.2.2
        have tq3 := AW.out.drew.c3.2.2
        have tq4 := (AW.out.alloc (.cells #[.int .i64 r] 3)).c3.2.2
        have tq5 := (AW.out.alloc (.cells #[.int .i64 r] 3)).drew.c3.2.2
        go_simp
        clear tq2 tq3 tq4 tq5
        refine hK.out _ _ ?_ (fun hHeld => ?_)
        · (try dsimp only); (with_reducible first | exact FS.out _ (GW.out) | exact FS.out _ ((GW.out).drew) | exact FS.out _ (((GW.out).drew).drew) | exact FS.out _ ((((GW.out).drew).drew).drew) | exact FS.out _ ((GW.out).alloc _) | exact FS.out _ (((GW.out).alloc _).drew) | exact FS.out _ ((((GW.out).alloc _).drew).drew) | exact FS.out _ (((GW.out).drew).alloc _) | exact FS.out _ ((((GW.out).drew).alloc _).drew) | exact FS.out _ (((((GW.out).drew).alloc _).drew).drew) | exact FS.out _ ((((GW.out).drew).drew).alloc _) | exact FS.out _ (((((GW.out).drew).drew).alloc _).drew) | exact FS.out _ ((((((GW.out).drew).drew).alloc _).drew).drew) | exact FS.out _ ((GW.out).set lG _ _) | exact FS.out _ (((GW.out).drew).set lG _ _) | exact FS.out _ ((((GW.out).drew).drew).set lG _ _) | exact FS.out _ (((GW.out).set lG _ _).drew) | exact FS.out _ ((((GW.out).drew).set lG _ _).drew) | exact FS.out _ (((((GW.out).drew).drew).set lG _ _).drew))
        clear hK K
        refine wpAnyH_ready (rs := [11]) (by kernel_rfl) (by simp) ?_
        refine AllReadyH.cons rfl (fun K hK => ?_) AllReadyH.nil
        refine step_i1 _ (Gb + 1) (.slice ad1 k cap1) (LN.take k) r k wr.heap.size _ _ rfl rfl rfl rfl HLn.out (by have := HLen.out; omega) (by with_reducible first | exact (OW.out).alloc _ | exact ((OW.out).alloc _).drew | exact (((OW.out).alloc _).drew).drew | exact ((OW.out).drew).alloc _ | exact (((OW.out).drew).alloc _).drew | exact ((((OW.out).drew).alloc _).drew).drew | exact (((OW.out).drew).drew).alloc _ | exact ((((OW.out).drew).drew).alloc _).drew | exact (((((OW.out).drew).drew).alloc _).drew).drew) (by with_reducible first | exact At.new1 _ _ _ | exact At.new1d' _ _ _ | exact At.new1dd' _ _ _ | exact (At.new1 _ _ _).drew | exact (At.new1d' _ _ _).drew | exact (At.new1dd' _ _ _).drew | exact ((At.new1 _ _ _).drew).drew | exact ((At.new1d' _ _ _).drew).drew | exact ((At.new1dd' _ _ _).drew).drew) (by have := SK.out; simp; omega) ?_
        intro g2 cap2 w2 hown2 hgrow2
        obtain ⟨A2, _, G2, S2⟩ := app_facts OW.out hgrow2 (by with_reducible first | exact (Gr.refl wr).alloc _ | exact ((Gr.refl wr).alloc _).drew | exact (((Gr.refl wr).alloc _).drew).drew | exact ((Gr.refl wr).drew).alloc _ | exact (((Gr.refl wr).drew).alloc _).drew | exact ((((Gr.refl wr).drew).alloc _).drew).drew | exact (((Gr.refl wr).drew).drew).alloc _ | exact ((((Gr.refl wr).drew).drew).alloc _).drew | exact (((((Gr.refl wr).drew).drew).alloc _).drew).drew) SK.out (by have := HGn.out; omega) (Nat.lt_succ_self _) (Nat.lt_succ_self _) AW.out AW.out GW.out
        obtain ⟨t0, t1, t2⟩ := A2.c3
        obtain ⟨f0, f1, f2⟩ := A2.f3
        have TH := A2.has (n := 3) rfl
        have HOW2 := hidb hown2
        have HA2 := hidb A2
        have HG2 := hidb G2
        have HS2 := hidb S2
        replace GW := hidb G2
        clear hgrow2 hown2 A2 G2 S2
        refine hK.out _ _ ?_ (fun hHeld => ?_)
        · (try dsimp only); (with_reducible first | exact FS.out _ (GW.out) | exact FS.out _ ((GW.out).drew) | exact FS.out _ (((GW.out).drew).drew) | exact FS.out _ ((((GW.out).drew).drew).drew) | exact FS.out _ ((GW.out).alloc _) | exact FS.out _ (((GW.out).alloc _).drew) | exact FS.out _ ((((GW.out).alloc _).drew).drew) | exact FS.out _ (((GW.out).drew).alloc _) | exact FS.out _ ((((GW.out).drew).alloc _).drew) | exact FS.out _ (((((GW.out).drew).alloc _).drew).drew) | exact FS.out _ ((((GW.out).drew).drew).alloc _) | exact FS.out _ (((((GW.out).drew).drew).alloc _).drew) | exact FS.out _ ((((((GW.out).drew).drew).alloc _).drew).drew) | exact FS.out _ ((GW.out).set lG _ _) | exact FS.out _ (((GW.out).drew).set lG _ _) | exact FS.out _ ((((GW.out).drew).drew).set lG _ _) | exact FS.out _ (((GW.out).set lG _ _).drew) | exact FS.out _ ((((GW.out).drew).set lG _ _).drew) | exact FS.out _ (((((GW.out).drew).drew).set lG _ _).drew))
        clear hK K
        refine wpAnyH_take (i := 12) (v := ?vg12x118) rfl (by kernel_rfl) (by kernel_rfl) (by kernel_rfl) (fun _ _ _ h => h) (Or.inl ⟨by kernel_rfl, ?hg12x118⟩) (by assumption) ?rg12x118
        case hg12x118 => (intro w hSw; (try dsimp only at hSw); go_simp; try with_reducible rfl)
        (try simp only [Act.put, List.getElem_toArray, List.getElem_cons_zero, List.getElem_cons_succ, List.setIfInBounds_toArray, List.set_cons_zero, List.set_cons_succ])
        refine wpAnyH_ready (rs := [13]) (by kernel_rfl) (by simp) ?_
        refine AllReadyH.cons rfl (fun K hK => ?_) AllReadyH.nil
        go_simp
        refine hK.out _ _ ?_ (fun hHeld => ?_)
        · (try dsimp only); (with_reducible first | exact FS.out _ (GW.out) | exact FS.out _ ((GW.out).drew) | exact FS.out _ (((GW.out).drew).drew) | exact FS.out _ ((((GW.out).drew).drew).drew) | exact FS.out _ ((GW.out).alloc _) | exact FS.out _ (((GW.out).alloc _).drew) | exact FS.out _ ((((GW.out).alloc _).drew).drew) | exact FS.out _ (((GW.out).drew).alloc _) | exact FS.out _ ((((GW.out).drew).alloc _).drew) | exact FS.out _ (((((GW.out).drew).alloc _).drew).drew) | exact FS.out _ ((((GW.out).drew).drew).alloc _) | exact FS.out _ (((((GW.out).drew).drew).alloc _).drew) | exact FS.out _ ((((((GW.out).drew).drew).alloc _).drew).drew) | exact FS.out _ ((GW.out).set lG _ _) | exact FS.out _ (((GW.out).drew).set lG _ _) | exact FS.out _ ((((GW.out).drew).drew).set lG _ _) | exact FS.out _ (((GW.out).set lG _ _).drew) | exact FS.out _ ((((GW.out).drew).set lG _ _).drew) | exact FS.out _ (((((GW.out).drew).drew).set lG _ _).drew))
        clear hK K
        refine wpAnyH_done (by kernel_rfl) ?_ _
        clear ix t0 t1 t2 f0 f1 f2 TH
        obtain ⟨p0, p1, p2⟩ := (RA.out.below (Gr.step T.out.gr ((HG2.out.set lG 2 (.slice (some ⟨g2, 0, none⟩) (k + 1) cap2))).out)).pt
        go_wp2
        go_roundw
        case rel =>
          refine ⟨k + 1, some ⟨g2, 0, none⟩, cap2, by omega, rfl, ?_, ?_, ?_, ?_⟩
          · with_reducible first | exact hidb (HA2.out.put2c _) | exact hidb ((HA2.out.put2c _).drew) | exact hidb (((HA2.out.put2c _).drew).drew) | exact hidb ((((HA2.out.put2c _).drew).drew).drew)
          · rw [← HT2.out]; with_reducible first | exact hidb (own_set HOW2.out (Nat.lt_succ_self _) _ _) | exact hidb ((own_set HOW2.out (Nat.lt_succ_self _) _ _).drew) | exact hidb (((own_set HOW2.out (Nat.lt_succ_self _) _ _).drew).drew) | exact hidb ((((own_set HOW2.out (Nat.lt_succ_self _) _ _).drew).drew).drew)
          · with_reducible first | exact hidb (HG2.out.set lG _ _) | exact hidb ((HG2.out.set lG _ _).drew) | exact hidb (((HG2.out.set lG _ _).drew).drew) | exact hidb ((((HG2.out.set lG _ _).drew).drew).drew)
          · have := HS2.out; show _ ≤ _; simpa using this
        case measure => simp [intOf]; omega
    · have h1' : ¬ (k : Int) < (l.length : Int) := by omega
      have hkl : k = l.length := by omega
      have OW2 : Hid (wr.ownsRow (Gb + 1) 3 1 (.slice ad1 l.length cap1) l.length (ir LN)) := by
        have h := OW.out
        rw [hkl, HNt.out] at h
        exact h
      have AW2 : At wr Gb [.int .i64 m, .int .i64 n, .slice ad1 l.length cap1] := by
        have h := AW.out
        rw [hkl] at h
        exact h
      obtain ⟨gd, cd, hv, hR⟩ := own_rs2 OW2.out (by have := HLen.out; omega)
      have AW3 : Hid (At wr Gb [.int .i64 m, .int .i64 n, .slice (some ⟨gd, 0, none⟩) l.length cd]) := by
        have hv' : ad1 = some ⟨gd, 0, none⟩ ∧ cap1 = cd := by
          simp only [Value.slice.injEq] at hv
          exact ⟨hv.1, hv.2.2⟩
        rw [hv'.1, hv'.2] at AW2
        exact AW2
      clear AW AW2 OW2 hv hkl
      have HR := hidb hR
      have GG := hidb (Gr.step T.out.gr GW.out.out)
      replace T := hidb (T.out.below GW.out.out)
      clear hR OW GW SK hk h1
      obtain ⟨q0, q1, q2⟩ := AW3.out.c3
      go_wp2_with fail
      refine (C5.out _ gd _ GG.out HR.out).mono ?_
      rintro e w4 ⟨BH, rfl, hA, hB⟩
      replace T := hidb (T.out.below hB.out)
      have HA := hidb hA
      clear hA hB q0 q1 q2 p0 p1 p2 AW3 HR GG
      go_upto_region 15 with fail
      have HH := hidb (At.new3 w4 (.int .i64 m) (.int .i64 n) (.slice (some ⟨BH, 0, none⟩) l.length l.length) 27)
      replace T := hidb (T.out.below ((Below.refl _ _).alloc (Nat.le_refl _) (.cells #[.int .i64 m, .int .i64 n, .slice (some ⟨BH, 0, none⟩) l.length l.length] 27)))
      replace HA := hidb (HA.out.alloc (.cells #[.int .i64 m, .int .i64 n, .slice (some ⟨BH, 0, none⟩) l.length l.length] 27))
      generalize w4.alloc (.cells #[.int .i64 m, .int .i64 n, .slice (some ⟨BH, 0, none⟩) l.length l.length] 27) = w5 at *
      generalize w4.heap.size = Hb at *
      obtain ⟨p0, p1, p2⟩ := (RA.out.below T.out.gr).pt
      obtain ⟨c0, c1, c2⟩ := T.out.c0.c3
      obtain ⟨d0, d1, d2⟩ := T.out.d0.c3
      obtain ⟨q0, q1, q2⟩ := HH.out.c3
      go_quiet (fail)
      rename_i nq
      clear p0 p1 p2 c0 c1 c2 d0 d1 d2 q0 q1 q2
      have GQ := hidb ((Gr.refl w5).drewN nq)
      go_wp2
      go_loopw [19] (fun t wr => ∃ (k : Nat), k ≤ l.length ∧ t = .int .i64 (k : Int) ∧ Hid (Gr w5 wr)) (fun t _ => l.length - (intOf t).toNat)
      case atStart => exact ⟨0, Nat.zero_le _, rfl, GQ⟩
      case round =>
        clear GQ
        obtain ⟨k, hk, rfl, GQ⟩ := hrel
        have T2 := hidb (T.out.below GQ.out.out)
        obtain ⟨p0, p1, p2⟩ := (RA.out.below T2.out.gr).pt
        by_cases h1 : k < l.length
        · have h1' : (k : Int) < (l.length : Int) := by omega
          have hLn := HLen.out
          have e1 : IntKind.i64.wrap ((k : Int) + 1) = ((k + 1 : Nat) : Int) := wrap_in (by omega) (by omega)
          have ix := iindex b o l.length cap k h1
          have ixC := iindex BC 0 l.length l.length k h1
          have ixD := iindex BD 0 l.length l.length k h1
          have ixH := iindex BH 0 l.length l.length k h1
          simp only [Nat.zero_add] at ixC ixD ixH
          obtain ⟨m1, m2, m3⟩ := HCmp.out k h1
          have bC := HHc.out k
          have cA := (HRs.out.below T2.out.gr.out).get h1
          have cC := (At.rs T2.out.bc (Nat.le_refl _)).get (show k < LC.length by omega)
          have cD := (At.rs T2.out.bd (Nat.le_refl _)).get (show k < LD.length by omega)
          have cH := (At.rs (At.below GQ.out.out HA.out) (Nat.le_refl _)).get (show k < LH.length by omega)
          simp only [Nat.zero_add] at cC cD cH
          obtain ⟨c0, c1, c2⟩ := T2.out.c0.c3
          obtain ⟨d0, d1, d2⟩ := T2.out.d0.c3
          obtain ⟨q0, q1, q2⟩ := (At.below GQ.out.out HH.out).c3
          obtain ⟨zc, hzc, e2⟩ : ∃ q : Int, q = -gl LC k ∧ IntKind.i64.wrap (-gl LC k) = q := ⟨_, rfl, wrap_in (by omega) (by omega)⟩
          rw [← hzc] at m3
          rw [m3] at cH
          have g1 : ¬ gl l k < gl LC k := by omega
          have g2 : ¬ gl LD k < gl l k := by omega
          generalize gl l k = xa at *
          generalize gl LC k = xc at *
          generalize gl LD k = xd at *
          have d1' : decide (xa < xc) = false := by simpa using g1
          have d2' : decide (xd < xa) = false := by simpa using g2
          clear hLn m1 m2 m3 bC hzc hk
          go_upto_region 20 with fail
          go_quiet (fail)
          rename_i nq
          have GQ2 := hidb (GQ.out.drewN nq)
          clear p0 p1 p2 c0 c1 c2 d0 d1 d2 q0 q1 q2 cA cC cD cH ix ixC ixD ixH
          go_wp2
          go_roundw
          case rel => exact ⟨k + 1, by omega, rfl, GQ2⟩
          case measure => simp [intOf]; omega
        · have h1' : ¬ (k : Int) < (l.length : Int) := by omega
          clear hk h1
          obtain ⟨c0, c1, c2⟩ := T2.out.c0.c3
          obtain ⟨d0, d1, d2⟩ := T2.out.e0.c3
          go_wp2_with fail
          refine (IC.out _ _ _ _ _ _ _ _ _ (At.isl T2.out.be _) (At.isl T2.out.bc _)).mono ?_
          rintro e w6 ⟨rfl, hB⟩
          replace T2 := hidb (T2.out.below hB.out)
          clear hB c0 c1 c2 d0 d1 d2 p0 p1 p2
          obtain ⟨c0, c1, c2⟩ := T2.out.d0.c3
          obtain ⟨d0, d1, d2⟩ := T2.out.f0.c3
          go_wp2_with fail
          refine (ID.out _ _ _ _ _ _ _ _ _ (At.isl T2.out.bf _) (At.isl T2.out.bd _)).mono ?_
          rintro e w7 ⟨rfl, hB⟩
          replace T2 := hidb (T2.out.below hB.out)
          clear hB c0 c1 c2 d0 d1 d2
          go_wp2
          go_ret
          exact ⟨rfl, T2.out.gr⟩
theorem fieldOpens_law (g : Nat → Addr) (n : Int) (a : Option Addr) (w : World) (hl : Lai w g) (ha : RArg w a) : Calls Tryd.prog 4 #[.pointer a, .int .i64 n] w fun e w' => e = .returned (.bool true) ∧ Gr w w' := by
  obtain ⟨s, c, k⟩ := small_arg ha
  cases s
  · exact opens_no g n _ w hl c
  · obtain ⟨pb, po, W, H, sd, b, o, cap, l, rfl, ra, hr, ll⟩ := k rfl
    by_cases hv : vcode W H l = 0
    · by_cases hn : 0 ≤ n ∧ n ≤ 20
      · obtain ⟨m, k, rfl, rfl, ok⟩ := ok_of hv
        have hp : 1 * 1 ≤ m * k := Nat.mul_le_mul ok.m1 ok.n1
        obtain ⟨rfl, hr2⟩ := hr (by have := ok.len; omega)
        obtain ⟨q, rfl⟩ : ∃ q : Nat, n = q := ⟨n.toNat, by omega⟩
        exact opens_B g w hl ra hr2 ok ll (by omega)
      · exact opens_A g n w hl ra ll (.inr ⟨hv, by omega⟩)
    · exact opens_A g n w hl ra ll (.inl hv)
end Go.Proofs.YtphpfongdbidoaaDoor
