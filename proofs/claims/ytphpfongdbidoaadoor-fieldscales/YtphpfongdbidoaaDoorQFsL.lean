/-
  FieldScales: right rasters.
-/
import Derived.Test.YtphpfongdbidoaaDoorQFsK
namespace Go.Proofs.YtphpfongdbidoaaDoor
open Go.RowKit
attribute [local go_sem ↓] Go.wp_at_zero Go.wp_at_succ

/-- What the law has made: the coarse raster and its cells, the fine one. -/
structure ScF (w W : World) (C D B : Nat) (kc kd : List Value) (L : List Int) : Prop where
  c0 : At W C kc
  d0 : At W D kd
  b0 : At W B (ir L)
  gr : Gr w W
theorem ScF.below {w W w' : World} {C D B : Nat} {kc kd : List Value} {L : List Int} (h : ScF w W C D B kc kd L) (hB : Below W.heap.size W w') : ScF w w' C D B kc kd L := ⟨h.c0.below hB, h.d0.below hB, h.b0.below hB, Gr.step h.gr hB⟩
theorem ScF.drew {w W : World} {C D B : Nat} {kc kd : List Value} {L : List Int} (h : ScF w W C D B kc kd L) : ScF w W.drew C D B kc kd L := ⟨h.c0, h.d0, h.b0, h.gr.drew⟩
theorem ScF.drewN {w W : World} {C D B : Nat} {kc kd : List Value} {L : List Int} (h : ScF w W C D B kc kd L) (n : Nat) : ScF w (W.drewN n) C D B kc kd L := ⟨h.c0.drewN n, h.d0.drewN n, h.b0.drewN n, h.gr.drewN n⟩
theorem scode_ok {m n by' : Nat} {l : List Int} (hv : vcode m n l = 0) (hb1 : 1 ≤ by') (hb2 : by' ≤ 128) : scode m n l by' = 0 := by
  unfold scode
  rw [if_pos hv, if_pos ?_]
  unfold inI
  simp
  omega
theorem ok_vcode {m n : Nat} {l : List Int} (ok : Ok l m n) : vcode m n l = 0 := by
  have h1 := ok.m1
  have h2 := ok.m2
  have h3 := ok.n1
  have h4 := ok.n2
  unfold vcode
  rw [if_neg (by omega), if_neg ?_, if_pos ?_]
  · intro x hx
    obtain ⟨i, hi, rfl⟩ := List.getElem_of_mem hx
    rw [gl_get hi]
    exact ok.hi i
  · rintro (h | h)
    · omega
    · exact h (by rw [ok.len, Int.natCast_mul])
set_option maxRecDepth 4000 in
set_option maxHeartbeats 16000000 in
theorem scales_B (g : Nat → Addr) {m n by' pb po b o cap : Nat} {l : List Int} (w : World) (hl : Laid w g) (ra : Rin w pb po m n (some ⟨b, o, none⟩) b o cap l) (hr : Rs w b o cap l) (ok : Ok l m n) (ll : l.length ≤ 200) (hb1 : 1 ≤ by') (hb2 : by' ≤ 128) (hbig : 128 < m * by' ∨ 128 < n * by') : Calls Tryd.prog 5 #[.pointer (some ⟨pb, po, none⟩), .int .i64 (by' : Int)] w fun e w' => e = .returned (.bool true) ∧ Gr w w' := by
  have ok0 := ok
  have hsc := scode_ok (ok_vcode ok) hb1 hb2
  have RA := hidb ra
  have CR := hidb (rasters_any g w hl)
  have S1 := hidb (fun W1 (hG : Gr w W1) => small_any pb po m n (some ⟨b, o, none⟩) l.length cap W1 (ra.below hG).pt)
  rw [decide_eq_true ll] at S1
  obtain ⟨LC, hLC⟩ : ∃ L, L = coL l m n by' (many n by' * many m by') := ⟨_, rfl⟩
  have hLl : LC.length = many n by' * many m by' := by rw [hLC, coL_len]
  have CC : Hid (∀ W1, Gr w W1 → Calls Tryd.prog 18 #[raV m n (.slice (some ⟨b, o, none⟩) l.length cap), .int .i64 (by' : Int)] W1 fun e w' => ∃ B, e = .returned (.tuple #[raV ((many m by' : Nat) : Int) ((many n by' : Nat) : Int) (.slice (some ⟨B, 0, none⟩) LC.length LC.length), .nilIface]) ∧ At w' B (ir LC) ∧ Gr W1 w') := fun W1 hG => by
    refine (coarse_ok g W1 (hr.below hG.out) ok (hl.below hG.out) hsc hb1 hb2).mono ?_
    rintro e w' ⟨B, K, rfl, hK, hA, _, hB⟩
    rw [hK, ← hLC] at hA
    rw [hK, ← hLl]
    exact ⟨B, rfl, hA, hB⟩
  have CO : Hid (∀ W1, Gr w W1 → Calls Tryd.prog 20 #[.pointer (some ⟨pb, po, none⟩), .int .i64 (by' : Int)] W1 fun e w' => ∃ ad b2 cap2, e = .returned (.slice ad LC.length cap2) ∧ ISl w' ad b2 0 cap2 LC ∧ Gr W1 w') := fun W1 hG => by
    refine (coarseOf_any W1 (ra.below hG).pt (hr.below hG.out) ok hb1 hb2).mono ?_
    rintro e w' ⟨v, rfl, hO, hB⟩
    rw [← hLC] at hO
    obtain ⟨ad, b2, cap2, rfl, hI⟩ := own_isl2 hO
    exact ⟨ad, b2, cap2, rfl, hI, hB⟩
  have lcl : LC.length ≤ 20000 := by
    rw [hLl]
    have h1 := many_le (by' := by') ok.m1
    have h2 := many_le (by' := by') ok.n1
    have h3 := ok.m2
    have h4 := ok.n2
    exact Nat.le_trans (Nat.mul_le_mul (show many n by' ≤ 128 by omega) (show many m by' ≤ 128 by omega)) (by decide)
  have CI := hidb (fun W1 (ad ad' : Option Addr) b1 b2 o1 o2 c1 c2 h1 h2 => is_any ((many m by' : Nat) : Int) ((many n by' : Nat) : Int) (ad := ad) (ad' := ad') (b := b1) (b' := b2) (o := o1) (o' := o2) (cap := c1) (cap' := c2) lcl W1 h1 h2)
  have CW := hidb (fun W1 (hG : Gr w W1) => rasterError_any pb po m n (some ⟨b, o, none⟩) b o cap l W1 (ra.below hG).pt (ra.below hG).sl (by omega))
  rw [ok_vcode ok] at CW
  have hm1 := ok.m1
  have hm2 := ok.m2
  have hn1 := ok.n1
  have hn2 := ok.n2
  have pm : m * by' ≤ 128 * 128 := Nat.mul_le_mul hm2 hb2
  have pn : n * by' ≤ 128 * 128 := Nat.mul_le_mul hn2 hb2
  obtain ⟨P, hP⟩ : ∃ P, P = m * by' := ⟨_, rfl⟩
  obtain ⟨Q, hQ⟩ : ∃ P, P = n * by' := ⟨_, rfl⟩
  have CF := hidb (fun W1 (hG : Gr w W1) => fine_big g W1 (ra.below hG).sl ok (hl.below hG.out) hsc hb2 hbig)
  have CN := hidb (fun W1 (hG : Gr w W1) => coded_evc g 2 (by decide) W1 (hl.below hG.out))
  rw [show evc g 2 = errV g 1 from rfl] at CN
  rw [← hP] at pm hbig
  rw [← hQ] at pn hbig
  obtain ⟨bI, hbI⟩ : ∃ q : Int, q = (by' : Int) := ⟨_, rfl⟩
  have e1 : IntKind.i64.wrap ((m : Int) * bI) = (P : Int) := by rw [hbI, ← Int.natCast_mul, ← hP]; exact wrap_in (by omega) (by omega)
  have e2 : IntKind.i64.wrap ((n : Int) * bI) = (Q : Int) := by rw [hbI, ← Int.natCast_mul, ← hQ]; exact wrap_in (by omega) (by omega)
  obtain ⟨x1, hx1, e3⟩ : ∃ q : Int, q = ((m - 1 : Nat) : Int) ∧ IntKind.i64.wrap ((m : Int) - 1) = q := ⟨_, rfl, by rw [show (m : Int) - 1 = ((m - 1 : Nat) : Int) by omega]; exact wrap_in (by omega) (by omega)⟩
  obtain ⟨y1, hy1, e4⟩ : ∃ q : Int, q = ((n - 1 : Nat) : Int) ∧ IntKind.i64.wrap ((n : Int) - 1) = q := ⟨_, rfl, by rw [show (n : Int) - 1 = ((n - 1 : Nat) : Int) by omega]; exact wrap_in (by omega) (by omega)⟩
  obtain ⟨t1, t2, t3, t4⟩ := nat_q hx1 hbI (by omega)
  obtain ⟨u1, u2, u3, u4⟩ := nat_q hy1 hbI (by omega)
  have v1 : (m - 1) / by' ≤ 128 := Nat.le_trans (Nat.div_le_self _ _) (by omega)
  have v2 : (n - 1) / by' ≤ 128 := Nat.le_trans (Nat.div_le_self _ _) (by omega)
  have k1 : many m by' = (m - 1) / by' + 1 := rfl
  have k2 : many n by' = (n - 1) / by' + 1 := rfl
  generalize (m - 1) / by' = qm at *
  generalize (n - 1) / by' = qn at *
  generalize many m by' = Wm at *
  generalize many n by' = Wn at *
  have e5 : IntKind.i64.wrap ((qm : Int) + 1) = (Wm : Int) := by rw [show (qm : Int) + 1 = (Wm : Int) by omega]; exact wrap_in (by omega) (by omega)
  have e6 : IntKind.i64.wrap ((qn : Int) + 1) = (Wn : Int) := by rw [show (qn : Int) + 1 = (Wn : Int) by omega]; exact wrap_in (by omega) (by omega)
  have z0 : ¬ bI = 0 := by omega
  have l1 : ¬ bI < 1 := by omega
  have l2 : ¬ 128 < bI := by omega
  have c1 : (128 : Int) < (P : Int) ∨ (¬ (128 : Int) < (P : Int) ∧ (128 : Int) < (Q : Int)) := by omega
  rw [← hbI] at CC CO CF
  rw [← hbI]
  clear ok ok0 hl ra hr hsc hb1 hb2 hLC hLl lcl hm1 hm2 hn1 hn2 pm pn hx1 hy1 t2 t4 u2 u4 v1 v2 k1 k2 hP hQ hbig hbI
  go_enter Tryd.func5, Tryd.ntmps5
  go_wp2_with fail
  refine CR.out.mono ?_
  rintro e w1 ⟨rfl, hB⟩
  have G := hidb hB
  clear hB
  go_wp2_with fail
  refine (S1.out _ G.out).mono ?_
  rintro e w2 ⟨rfl, rfl⟩
  obtain ⟨p0, p1, p2⟩ := (RA.out.below G.out).pt
  go_wp2_with fail
  refine (CC.out _ G.out).mono ?_
  rintro e w3 ⟨B, rfl, hAB, hB⟩
  replace G := hidb (Gr.step G.out hB.out)
  have HAB := hidb hAB
  clear hB p0 p1 p2 hAB
  go_upto_region 6 with fail
  have HC := hidb (At.new3 w3 (.int .i64 Wm) (.int .i64 Wn) (.slice (some ⟨B, 0, none⟩) LC.length LC.length) 27)
  replace G := hidb (G.out.alloc (.cells #[.int .i64 Wm, .int .i64 Wn, .slice (some ⟨B, 0, none⟩) LC.length LC.length] 27))
  replace HAB := hidb (HAB.out.alloc (.cells #[.int .i64 Wm, .int .i64 Wn, .slice (some ⟨B, 0, none⟩) LC.length LC.length] 27))
  generalize w3.alloc (.cells #[.int .i64 Wm, .int .i64 Wn, .slice (some ⟨B, 0, none⟩) LC.length LC.length] 27) = w4 at *
  generalize w3.heap.size = C at *
  obtain ⟨p0, p1, p2⟩ := (RA.out.below G.out).pt
  go_wp2_with fail
  refine (CF.out _ G.out).mono ?_
  rintro e w5 ⟨rfl, hB⟩
  replace G := hidb (Gr.step G.out hB.out)
  replace HC := hidb (At.below hB.out HC.out)
  replace HAB := hidb (At.below hB.out HAB.out)
  clear hB p0 p1 p2
  go_upto_region 7 with fail
  have T := hidb (show ScF w _ _ _ _ _ _ _ from ⟨HC.out.alloc (.cells #[.int .i64 0, .int .i64 0, .slice none 0 0] 27), At.new3 w5 (.int .i64 0) (.int .i64 0) (.slice none 0 0) 27, HAB.out.alloc (.cells #[.int .i64 0, .int .i64 0, .slice none 0 0] 27), G.out.alloc (.cells #[.int .i64 0, .int .i64 0, .slice none 0 0] 27)⟩)
  clear G HC HAB
  generalize w5.alloc (.cells #[.int .i64 0, .int .i64 0, .slice none 0 0] 27) = w6 at *
  generalize w5.heap.size = D at *
  go_wp2_with fail
  refine (CW.out _ T.out.gr).mono ?_
  rintro e w7 ⟨rfl, hB⟩
  replace T := hidb (T.out.below hB.out)
  clear hB
  go_upto_region 12 with fail
  go_cut [12] from 71 to 95 (fun s12 wx => s12 = .bool true ∧ Hid (ScF w wx C D B [.int .i64 Wm, .int .i64 Wn, .slice (some ⟨B, 0, none⟩) LC.length LC.length] [.int .i64 0, .int .i64 0, .slice none 0 0] LC))
  case first =>
    have E := T.out
    clear T
    go_region_held (fun w' => (w'.cell? ⟨pb, po, none⟩ = some (.int .i64 m) ∧ w'.cell? ⟨pb, po + 1, none⟩ = some (.int .i64 n) ∧ w'.cell? ⟨pb, po + 2, none⟩ = some (.slice (some ⟨b, o, none⟩) l.length cap)) ∧ (w'.cell? ⟨C, 0, none⟩ = some (.int .i64 Wm) ∧ w'.cell? ⟨C, 1, none⟩ = some (.int .i64 Wn) ∧ w'.cell? ⟨C, 2, none⟩ = some (.slice (some ⟨B, 0, none⟩) LC.length LC.length)))
      (with_reducible first | exact ⟨(RA.out.below E.gr).pt.all, E.c0.c3⟩ | exact ⟨(RA.out.below E.drew.gr).pt.all, E.drew.c0.c3⟩)
      ((first
        | (go_at_call 20; with_reducible refine (CO.out _ (by with_reducible first | exact E.gr | exact E.drew.gr)).mono ?_; rintro e w8 ⟨ad8, b8, cap8, rfl, hI8, hB8⟩; (with_reducible first | (replace E := E.below hB8.out) | (replace E := E.drew.below hB8.out)); clear hB8)
        | (go_at_call 14; with_reducible refine (CI.out _ _ _ _ _ _ _ _ _ (At.isl E.b0 _) hI8).mono ?_; rintro e w9 ⟨rfl, hB8⟩; replace E := E.below hB8.out; clear hB8)))
    all_goals
      go_wp2_with fail
      go_meet
      exact ⟨rfl, E⟩
  case rest =>
    clear T
    obtain ⟨rfl, T⟩ := hcut
    obtain ⟨p0, p1, p2⟩ := (RA.out.below T.out.gr).pt
    rcases c1 with c1 | ⟨c1, c2⟩
    all_goals
      go_wp2_with fail
      refine (CN.out _ T.out.gr).mono ?_
      rintro e w10 ⟨rfl, hB⟩
      replace T := hidb (T.out.below hB.out)
      clear hB p0 p1 p2
      obtain ⟨q0, q1, q2⟩ := T.out.d0.c3
      go_wp2_with fail
      refine (nothing_any _).mono ?_
      rintro e w11 ⟨rfl, hB⟩
      replace T := hidb (T.out.below hB.out)
      clear hB q0 q1 q2
      go_wp2
      go_ret
      exact ⟨rfl, T.out.gr⟩
theorem At.rs {W : World} {B cap : Nat} {l : List Int} (h : At W B (ir l)) (hc : l.length ≤ cap) : Rs W B 0 cap l :=
  ⟨fun i hi => by have := (h.1 i (by simpa [ir] using hi)).1; simpa [ir] using this, h.lt, hc⟩
set_option maxRecDepth 4000 in
set_option maxHeartbeats 16000000 in
theorem scales_C (g : Nat → Addr) {m n by' pb po b o cap : Nat} {l : List Int} (w : World) (hl : Laid w g) (ra : Rin w pb po m n (some ⟨b, o, none⟩) b o cap l) (hr : Rs w b o cap l) (ok : Ok l m n) (ll : l.length ≤ 200) (hb1 : 1 ≤ by') (hb2 : by' ≤ 128) (hbig : m * by' ≤ 128 ∧ n * by' ≤ 128) : Calls Tryd.prog 5 #[.pointer (some ⟨pb, po, none⟩), .int .i64 (by' : Int)] w fun e w' => e = .returned (.bool true) ∧ Gr w w' := by
  have ok0 := ok
  have hsc := scode_ok (ok_vcode ok) hb1 hb2
  have RA := hidb ra
  have CR := hidb (rasters_any g w hl)
  have S1 := hidb (fun W1 (hG : Gr w W1) => small_any pb po m n (some ⟨b, o, none⟩) l.length cap W1 (ra.below hG).pt)
  rw [decide_eq_true ll] at S1
  obtain ⟨LC, hLC⟩ : ∃ L, L = coL l m n by' (many n by' * many m by') := ⟨_, rfl⟩
  have hLl : LC.length = many n by' * many m by' := by rw [hLC, coL_len]
  have CC : Hid (∀ W1, Gr w W1 → Calls Tryd.prog 18 #[raV m n (.slice (some ⟨b, o, none⟩) l.length cap), .int .i64 (by' : Int)] W1 fun e w' => ∃ B, e = .returned (.tuple #[raV ((many m by' : Nat) : Int) ((many n by' : Nat) : Int) (.slice (some ⟨B, 0, none⟩) LC.length LC.length), .nilIface]) ∧ At w' B (ir LC) ∧ Gr W1 w') := fun W1 hG => by
    refine (coarse_ok g W1 (hr.below hG.out) ok (hl.below hG.out) hsc hb1 hb2).mono ?_
    rintro e w' ⟨B, K, rfl, hK, hA, _, hB⟩
    rw [hK, ← hLC] at hA
    rw [hK, ← hLl]
    exact ⟨B, rfl, hA, hB⟩
  have CO : Hid (∀ W1, Gr w W1 → Calls Tryd.prog 20 #[.pointer (some ⟨pb, po, none⟩), .int .i64 (by' : Int)] W1 fun e w' => ∃ ad b2 cap2, e = .returned (.slice ad LC.length cap2) ∧ ISl w' ad b2 0 cap2 LC ∧ Gr W1 w') := fun W1 hG => by
    refine (coarseOf_any W1 (ra.below hG).pt (hr.below hG.out) ok hb1 hb2).mono ?_
    rintro e w' ⟨v, rfl, hO, hB⟩
    rw [← hLC] at hO
    obtain ⟨ad, b2, cap2, rfl, hI⟩ := own_isl2 hO
    exact ⟨ad, b2, cap2, rfl, hI, hB⟩
  have lcl : LC.length ≤ 20000 := by
    rw [hLl]
    have h1 := many_le (by' := by') ok.m1
    have h2 := many_le (by' := by') ok.n1
    have h3 := ok.m2
    have h4 := ok.n2
    exact Nat.le_trans (Nat.mul_le_mul (show many n by' ≤ 128 by omega) (show many m by' ≤ 128 by omega)) (by decide)
  have CI := hidb (fun W1 (ad ad' : Option Addr) b1 b2 o1 o2 c1 c2 h1 h2 => is_any ((many m by' : Nat) : Int) ((many n by' : Nat) : Int) (ad := ad) (ad' := ad') (b := b1) (b' := b2) (o := o1) (o' := o2) (cap := c1) (cap' := c2) lcl W1 h1 h2)
  have CW := hidb (fun W1 (hG : Gr w W1) => rasterError_any pb po m n (some ⟨b, o, none⟩) b o cap l W1 (ra.below hG).pt (ra.below hG).sl (by omega))
  rw [ok_vcode ok] at CW
  have hm1 := ok.m1
  have hm2 := ok.m2
  have hn1 := ok.n1
  have hn2 := ok.n2
  have pm : m * by' ≤ 128 * 128 := Nat.mul_le_mul hm2 hb2
  have pn : n * by' ≤ 128 * 128 := Nat.mul_le_mul hn2 hb2
  obtain ⟨P, hP⟩ : ∃ P, P = m * by' := ⟨_, rfl⟩
  obtain ⟨Q, hQ⟩ : ∃ P, P = n * by' := ⟨_, rfl⟩
  obtain ⟨LD, hLD⟩ : ∃ L, L = fiL l m by' ((m * by') * (n * by')) := ⟨_, rfl⟩
  have hLdl : LD.length = (m * by') * (n * by') := by rw [hLD]; simp [fiL]
  have okF := fiL_ok ok hb1 hbig.1 hbig.2
  have hscF := scode_ok (ok_vcode okF) hb1 hb2
  rw [← hLD] at okF hscF
  have CF : Hid (∀ W1, Gr w W1 → Calls Tryd.prog 19 #[raV m n (.slice (some ⟨b, o, none⟩) l.length cap), .int .i64 (by' : Int)] W1 fun e w' => ∃ B, e = .returned (.tuple #[raV ((m * by' : Nat) : Int) ((n * by' : Nat) : Int) (.slice (some ⟨B, 0, none⟩) LD.length LD.length), .nilIface]) ∧ At w' B (ir LD) ∧ Gr W1 w') := fun W1 hG => by
    refine (fine_ok g W1 (hr.below hG.out) ok (hl.below hG.out) hsc hb1 hbig.1 hbig.2).mono ?_
    rintro e w' ⟨B, K, rfl, hK, hA, _, hB⟩
    have hA2 : At w' B (ir LD) := by rw [hLD]; unfold fiL; rw [← hK]; exact hA
    rw [hK, ← hLdl]
    exact ⟨B, rfl, hA2, hB⟩
  have CB : Hid (∀ W1 BD, Gr w W1 → At W1 BD (ir LD) → Calls Tryd.prog 18 #[raV ((m * by' : Nat) : Int) ((n * by' : Nat) : Int) (.slice (some ⟨BD, 0, none⟩) LD.length LD.length), .int .i64 (by' : Int)] W1 fun e w' => ∃ B, e = .returned (.tuple #[raV m n (.slice (some ⟨B, 0, none⟩) l.length l.length), .nilIface]) ∧ At w' B (ir l) ∧ Gr W1 w') := fun W1 BD hG hA => by
    refine (coarse_ok g W1 (At.rs hA (Nat.le_refl _)) okF (hl.below hG.out) hscF hb1 hb2).mono ?_
    rintro e w' ⟨B, K, rfl, hK, hA, _, hB⟩
    rw [many_mul ok.m1 hb1, many_mul ok.n1 hb1] at *
    rw [hK, hLD, fi_co ok hb1] at hA
    rw [show K = l.length by rw [hK, ok.len, Nat.mul_comm]]
    exact ⟨B, rfl, hA, hB⟩
  have CJ := hidb (fun W1 (ad ad' : Option Addr) b1 b2 o1 o2 c1 c2 h1 h2 => is_any (l := l) (m : Int) (n : Int) (ad := ad) (ad' := ad') (b := b1) (b' := b2) (o := o1) (o' := o2) (cap := c1) (cap' := c2) (by omega) W1 h1 h2)
  have CX := hidb (fun W1 (hG : Gr w W1) => (ra.below hG).sl)
  have HRs := hidb hr
  have HFi : Hid (∀ i, i < LD.length → fiC m by' i < l.length ∧ ∃ hi : i < LD.length, LD[i] = gl l (fiC m by' i)) := fun i hi => by
    refine ⟨(fi_at ok hb1 (by omega)).2.2, hi, ?_⟩
    rw [gl_get hi, hLD]
    exact fiL_at (by omega)
  have HFd := hidb (fun i => show fiC m by' i = i / (m * by') / by' * m + i % (m * by') / by' from rfl)
  have pp : 1 * 1 ≤ m * by' := Nat.mul_le_mul ok.m1 hb1
  have pl : (m * by') * (n * by') ≤ 128 * 128 := Nat.mul_le_mul hbig.1 hbig.2
  rw [← hP] at CF CB HFd pp
  rw [← hQ] at CF CB
  rw [← hP, ← hQ] at hLdl pl
  rw [← hP] at pm hbig
  rw [← hQ] at pn hbig
  obtain ⟨bI, hbI⟩ : ∃ q : Int, q = (by' : Int) := ⟨_, rfl⟩
  have e1 : IntKind.i64.wrap ((m : Int) * bI) = (P : Int) := by rw [hbI, ← Int.natCast_mul, ← hP]; exact wrap_in (by omega) (by omega)
  have e2 : IntKind.i64.wrap ((n : Int) * bI) = (Q : Int) := by rw [hbI, ← Int.natCast_mul, ← hQ]; exact wrap_in (by omega) (by omega)
  obtain ⟨x1, hx1, e3⟩ : ∃ q : Int, q = ((m - 1 : Nat) : Int) ∧ IntKind.i64.wrap ((m : Int) - 1) = q := ⟨_, rfl, by rw [show (m : Int) - 1 = ((m - 1 : Nat) : Int) by omega]; exact wrap_in (by omega) (by omega)⟩
  obtain ⟨y1, hy1, e4⟩ : ∃ q : Int, q = ((n - 1 : Nat) : Int) ∧ IntKind.i64.wrap ((n : Int) - 1) = q := ⟨_, rfl, by rw [show (n : Int) - 1 = ((n - 1 : Nat) : Int) by omega]; exact wrap_in (by omega) (by omega)⟩
  obtain ⟨t1, t2, t3, t4⟩ := nat_q hx1 hbI (by omega)
  obtain ⟨u1, u2, u3, u4⟩ := nat_q hy1 hbI (by omega)
  have v1 : (m - 1) / by' ≤ 128 := Nat.le_trans (Nat.div_le_self _ _) (by omega)
  have v2 : (n - 1) / by' ≤ 128 := Nat.le_trans (Nat.div_le_self _ _) (by omega)
  have k1 : many m by' = (m - 1) / by' + 1 := rfl
  have k2 : many n by' = (n - 1) / by' + 1 := rfl
  generalize (m - 1) / by' = qm at *
  generalize (n - 1) / by' = qn at *
  generalize many m by' = Wm at *
  generalize many n by' = Wn at *
  have e5 : IntKind.i64.wrap ((qm : Int) + 1) = (Wm : Int) := by rw [show (qm : Int) + 1 = (Wm : Int) by omega]; exact wrap_in (by omega) (by omega)
  have e6 : IntKind.i64.wrap ((qn : Int) + 1) = (Wn : Int) := by rw [show (qn : Int) + 1 = (Wn : Int) by omega]; exact wrap_in (by omega) (by omega)
  have z0 : ¬ bI = 0 := by omega
  have l1 : ¬ bI < 1 := by omega
  have l2 : ¬ 128 < bI := by omega
  have c1 : ¬ (128 : Int) < (P : Int) := by omega
  have c2 : ¬ (128 : Int) < (Q : Int) := by omega
  have e7 : IntKind.i64.wrap ((P : Int) * (Q : Int)) = (LD.length : Int) := by rw [← Int.natCast_mul, ← hLdl]; exact wrap_in (by omega) (by omega)
  have HB := hidb (show 1 ≤ m ∧ m ≤ 128 ∧ 1 ≤ P ∧ P ≤ 128 ∧ LD.length ≤ 16384 ∧ 1 ≤ by' ∧ by' ≤ 128 ∧ l.length ≤ 200 from ⟨hm1, hm2, by omega, by omega, by omega, hb1, hb2, ll⟩)
  have HbI := hidb hbI
  rw [← hbI] at CC CO CF CB
  rw [← hbI]
  clear ok ok0 hl ra hr hsc hb1 hb2 hLC hLl lcl hm1 hm2 hn1 hn2 pm pn hx1 hy1 t2 t4 u2 u4 v1 v2 k1 k2 hP hQ hbig hbI hLD hLdl okF hscF pp pl ll
  go_enter Tryd.func5, Tryd.ntmps5
  go_wp2_with fail
  refine CR.out.mono ?_
  rintro e w1 ⟨rfl, hB⟩
  have G := hidb hB
  clear hB
  go_wp2_with fail
  refine (S1.out _ G.out).mono ?_
  rintro e w2 ⟨rfl, rfl⟩
  obtain ⟨p0, p1, p2⟩ := (RA.out.below G.out).pt
  go_wp2_with fail
  refine (CC.out _ G.out).mono ?_
  rintro e w3 ⟨B, rfl, hAB, hB⟩
  replace G := hidb (Gr.step G.out hB.out)
  have HAB := hidb hAB
  clear hB p0 p1 p2 hAB
  go_upto_region 6 with fail
  have HC := hidb (At.new3 w3 (.int .i64 Wm) (.int .i64 Wn) (.slice (some ⟨B, 0, none⟩) LC.length LC.length) 27)
  replace G := hidb (G.out.alloc (.cells #[.int .i64 Wm, .int .i64 Wn, .slice (some ⟨B, 0, none⟩) LC.length LC.length] 27))
  replace HAB := hidb (HAB.out.alloc (.cells #[.int .i64 Wm, .int .i64 Wn, .slice (some ⟨B, 0, none⟩) LC.length LC.length] 27))
  generalize w3.alloc (.cells #[.int .i64 Wm, .int .i64 Wn, .slice (some ⟨B, 0, none⟩) LC.length LC.length] 27) = w4 at *
  generalize w3.heap.size = C at *
  obtain ⟨p0, p1, p2⟩ := (RA.out.below G.out).pt
  go_wp2_with fail
  refine (CF.out _ G.out).mono ?_
  rintro e w5 ⟨BD, rfl, hAD, hB⟩
  replace G := hidb (Gr.step G.out hB.out)
  replace HC := hidb (At.below hB.out HC.out)
  replace HAB := hidb (At.below hB.out HAB.out)
  have HAD := hidb hAD
  clear hAD
  clear hB p0 p1 p2
  go_upto_region 7 with fail
  have T := hidb (show ScF w _ _ _ _ _ _ _ from ⟨HC.out.alloc (.cells #[.int .i64 P, .int .i64 Q, .slice (some ⟨BD, 0, none⟩) LD.length LD.length] 27), At.new3 w5 (.int .i64 P) (.int .i64 Q) (.slice (some ⟨BD, 0, none⟩) LD.length LD.length) 27, HAB.out.alloc (.cells #[.int .i64 P, .int .i64 Q, .slice (some ⟨BD, 0, none⟩) LD.length LD.length] 27), G.out.alloc (.cells #[.int .i64 P, .int .i64 Q, .slice (some ⟨BD, 0, none⟩) LD.length LD.length] 27)⟩)
  replace HAD := hidb (HAD.out.alloc (.cells #[.int .i64 P, .int .i64 Q, .slice (some ⟨BD, 0, none⟩) LD.length LD.length] 27))
  clear G HC HAB
  generalize w5.alloc (.cells #[.int .i64 P, .int .i64 Q, .slice (some ⟨BD, 0, none⟩) LD.length LD.length] 27) = w6 at *
  generalize w5.heap.size = D at *
  go_wp2_with fail
  refine (CW.out _ T.out.gr).mono ?_
  rintro e w7 ⟨rfl, hB⟩
  replace T := hidb (T.out.below hB.out)
  replace HAD := hidb (At.below hB.out HAD.out)
  clear hB
  go_upto_region 12 with fail
  go_cut [12] from 71 to 95 (fun s12 wx => s12 = .bool true ∧ Hid (ScF w wx C D B [.int .i64 Wm, .int .i64 Wn, .slice (some ⟨B, 0, none⟩) LC.length LC.length] [.int .i64 P, .int .i64 Q, .slice (some ⟨BD, 0, none⟩) LD.length LD.length] LC ∧ At wx BD (ir LD)))
  case first =>
    have E := T.out
    have AD := HAD.out
    clear HAD
    clear T
    go_region_held (fun w' => (w'.cell? ⟨pb, po, none⟩ = some (.int .i64 m) ∧ w'.cell? ⟨pb, po + 1, none⟩ = some (.int .i64 n) ∧ w'.cell? ⟨pb, po + 2, none⟩ = some (.slice (some ⟨b, o, none⟩) l.length cap)) ∧ (w'.cell? ⟨C, 0, none⟩ = some (.int .i64 Wm) ∧ w'.cell? ⟨C, 1, none⟩ = some (.int .i64 Wn) ∧ w'.cell? ⟨C, 2, none⟩ = some (.slice (some ⟨B, 0, none⟩) LC.length LC.length)))
      (with_reducible first | exact ⟨(RA.out.below E.gr).pt.all, E.c0.c3⟩ | exact ⟨(RA.out.below E.drew.gr).pt.all, E.drew.c0.c3⟩)
      ((first
        | (go_at_call 20; with_reducible refine (CO.out _ (by with_reducible first | exact E.gr | exact E.drew.gr)).mono ?_; rintro e w8 ⟨ad8, b8, cap8, rfl, hI8, hB8⟩; (with_reducible first | (replace E := E.below hB8.out; replace AD := At.below hB8.out AD) | (replace E := E.drew.below hB8.out; replace AD := At.below hB8.out AD.drew)); clear hB8)
        | (go_at_call 14; with_reducible refine (CI.out _ _ _ _ _ _ _ _ _ (At.isl E.b0 _) hI8).mono ?_; rintro e w9 ⟨rfl, hB8⟩; replace E := E.below hB8.out; replace AD := At.below hB8.out AD; clear hB8)))
    all_goals
      go_wp2_with fail
      go_meet
      exact ⟨rfl, ⟨E, AD⟩⟩
  case rest =>
    clear T HAD e3 e4 t1 t3 u1 u3 e5 e6 CC CO CI CF
    obtain ⟨rfl, TT⟩ := hcut
    have T := hidb TT.out.1
    have HAD := hidb TT.out.2
    clear TT
    obtain ⟨p0, p1, p2⟩ := (RA.out.below T.out.gr).pt
    obtain ⟨d0, d1, d2⟩ := T.out.d0.c3
    go_upto_region 15 with fail
    go_quiet (fail)
    rename_i nq
    replace T := hidb (T.out.drewN nq)
    replace HAD := hidb (HAD.out.drewN nq)
    generalize hwq : World.drewN _ nq = wq at *
    clear hwq p0 p1 p2 d0 d1 d2
    go_wp2
    go_loopw [13] (fun t wr => ∃ (k : Nat), k ≤ LD.length ∧ t = .int .i64 (k : Int) ∧ Hid (ScF w wr C D B [.int .i64 Wm, .int .i64 Wn, .slice (some ⟨B, 0, none⟩) LC.length LC.length] [.int .i64 P, .int .i64 Q, .slice (some ⟨BD, 0, none⟩) LD.length LD.length] LC) ∧ Hid (At wr BD (ir LD))) (fun t _ => LD.length - (intOf t).toNat)
    case atStart => exact ⟨0, Nat.zero_le _, rfl, T, HAD⟩
    case round =>
      clear T HAD
      obtain ⟨k, hk, rfl, T, HAD⟩ := hrel
      obtain ⟨p0, p1, p2⟩ := (RA.out.below T.out.gr).pt
      obtain ⟨d0, d1, d2⟩ := T.out.d0.c3
      by_cases h1 : k < LD.length
      · have h1' : (k : Int) < (LD.length : Int) := by omega
        obtain ⟨j3, _, jv⟩ := HFi.out k h1
        rw [HFd.out k] at j3 jv
        obtain ⟨t1, t2, t3, t4⟩ := nat_q (x := (k : Int)) (d := (P : Int)) rfl rfl (by have := HB.out; omega)
        obtain ⟨q, hq⟩ : ∃ q, q = k / P := ⟨_, rfl⟩
        obtain ⟨s, hs⟩ : ∃ q, q = k % P := ⟨_, rfl⟩
        have qle : q ≤ k := by rw [hq]; exact Nat.div_le_self _ _
        have sle : s ≤ k := by rw [hs]; exact Nat.mod_le _ _
        rw [← hq] at t1 t3
        rw [← hs] at t2 t4
        obtain ⟨v1, _, v3, _⟩ := nat_q (x := (q : Int)) (d := bI) rfl HbI.out (by have := HB.out; omega)
        obtain ⟨u1, _, u3, _⟩ := nat_q (x := (s : Int)) (d := bI) rfl HbI.out (by have := HB.out; omega)
        rw [← hq, ← hs] at j3 jv
        obtain ⟨r, hrr⟩ : ∃ r, r = q / by' := ⟨_, rfl⟩
        obtain ⟨c, hcc⟩ : ∃ r, r = s / by' := ⟨_, rfl⟩
        rw [← hrr] at v1 v3 j3 jv
        rw [← hcc] at u1 u3 j3 jv
        obtain ⟨i1, hi1⟩ : ∃ i, i = r * m + c := ⟨_, rfl⟩
        rw [← hi1] at j3 jv
        have z1 : ¬ (P : Int) = 0 := by have := HB.out; omega
        obtain ⟨k0, hk0, w0⟩ : ∃ z : Int, z = ((r * m : Nat) : Int) ∧ IntKind.i64.wrap ((r : Int) * (m : Int)) = z := ⟨_, rfl, by rw [← Int.natCast_mul]; exact wrap_in (by omega) (by have := HB.out; omega)⟩
        have w1' : IntKind.i64.wrap (k0 + (c : Int)) = (i1 : Int) := by rw [show k0 + (c : Int) = (i1 : Int) by omega]; exact wrap_in (by omega) (by have := HB.out; omega)
        have e8 : IntKind.i64.wrap ((k : Int) + 1) = ((k + 1 : Nat) : Int) := wrap_in (by omega) (by have := HB.out; omega)
        have ix := iindex b o l.length cap i1 j3
        have ixD := iindex BD 0 LD.length LD.length k h1
        simp only [Nat.zero_add] at ixD
        have cI := (HRs.out.below T.out.gr.out).get j3
        have cD : wr.cell? ⟨BD, k, none⟩ = some (.int .i64 (gl l i1)) := by
          have := ((At.rs HAD.out (Nat.le_refl _)).get h1)
          rw [← gl_get h1, jv, Nat.zero_add] at this
          exact this
        generalize gl l i1 = x at *
        clear hk0 hi1 hrr hcc hq hs qle sle j3 jv hk
        go_upto_region 20 with fail
        go_quiet (fail)
        rename_i nq
        have T2 := hidb (T.out.drewN nq)
        have HAD2 := hidb (HAD.out.drewN nq)
        clear p0 p1 p2 d0 d1 d2 cI cD
        go_wp2
        go_roundw
        case rel => exact ⟨k + 1, by omega, rfl, T2, HAD2⟩
        case measure => simp [intOf]; omega
      · have h1' : ¬ (k : Int) < (LD.length : Int) := by omega
        clear hk h1
        go_wp2_with fail
        refine (CB.out _ BD T.out.gr HAD.out).mono ?_
        rintro e w11 ⟨BB, rfl, hAB, hB⟩
        have G := hidb (Gr.step T.out.gr hB.out)
        have HAB := hidb hAB
        clear hB hAB p0 p1 p2 d0 d1 d2 T HAD
        go_upto_region 23 with fail
        have HE := hidb (At.new3 w11 (.int .i64 m) (.int .i64 n) (.slice (some ⟨BB, 0, none⟩) l.length l.length) 27)
        replace G := hidb (G.out.alloc (.cells #[.int .i64 m, .int .i64 n, .slice (some ⟨BB, 0, none⟩) l.length l.length] 27))
        replace HAB := hidb (HAB.out.alloc (.cells #[.int .i64 m, .int .i64 n, .slice (some ⟨BB, 0, none⟩) l.length l.length] 27))
        generalize w11.alloc (.cells #[.int .i64 m, .int .i64 n, .slice (some ⟨BB, 0, none⟩) l.length l.length] 27) = w12 at *
        generalize w11.heap.size = E0 at *
        have E := G.out
        have A := HE.out
        have AB := HAB.out
        clear G HE HAB
        go_region_held (fun w' => (w'.cell? ⟨pb, po, none⟩ = some (.int .i64 m) ∧ w'.cell? ⟨pb, po + 1, none⟩ = some (.int .i64 n) ∧ w'.cell? ⟨pb, po + 2, none⟩ = some (.slice (some ⟨b, o, none⟩) l.length cap)) ∧ (w'.cell? ⟨E0, 0, none⟩ = some (.int .i64 m) ∧ w'.cell? ⟨E0, 1, none⟩ = some (.int .i64 n) ∧ w'.cell? ⟨E0, 2, none⟩ = some (.slice (some ⟨BB, 0, none⟩) l.length l.length)))
          (with_reducible first | exact ⟨(RA.out.below E).pt.all, A.c3⟩ | exact ⟨(RA.out.below E.drew).pt.all, A.drew.c3⟩)
          ((go_at_call 14; with_reducible first | (refine (CJ.out _ _ _ _ _ _ _ _ _ (At.isl AB _) (CX.out _ E)).mono ?_; rintro e w13 ⟨rfl, hB8⟩; replace E := Gr.step E hB8.out; replace A := At.below hB8.out A; clear hB8) | (refine (CJ.out _ _ _ _ _ _ _ _ _ (At.isl AB.drew _) (CX.out _ E.drew)).mono ?_; rintro e w13 ⟨rfl, hB8⟩; replace E := Gr.step E.drew hB8.out; replace A := At.below hB8.out A.drew; clear hB8)))
        all_goals
          go_wp2
          go_ret
          exact ⟨rfl, E⟩
end Go.Proofs.YtphpfongdbidoaaDoor
