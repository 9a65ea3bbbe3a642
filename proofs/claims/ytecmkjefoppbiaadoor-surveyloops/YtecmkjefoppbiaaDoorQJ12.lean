/-
  Whole numbers of any length and sign: whole.signed, Of, Sign, Plus.; whole.Number: Plus, Less, Times.
-/
import Derived.Test.YtecmkjefoppbiaaDoorQWhL
import Derived.Test.YtecmkjefoppbiaaDoorQJ2
import Derived.Deep.DrawnRows
import Derived.Deep.RegionHeld3
namespace Go.Proofs.YtecmkjefoppbiaaDoor
open Go.RowKit WH
attribute [local go_sem ↓] Go.wp_at_zero Go.wp_at_succ

/-- The value stands for the number. -/
def Nm (w : World) (m : Bool) (v : Value) (z : Int) : Prop := Pt w v (WH.dn z.natAbs) ∧ m = decide (z < 0)
theorem Nm.below {W w' : World} {m : Bool} {v : Value} {z : Int} (h : Nm W m v z) (hB : Below W.heap.size W w') : Nm w' m v z := ⟨h.1.below hB, h.2⟩
theorem Nm.drew {W : World} {m : Bool} {v : Value} {z : Int} (h : Nm W m v z) : Nm W.drew m v z := h
theorem Nm.form {w : World} {m : Bool} {v : Value} {z : Int} (h : Nm w m v z) : ∃ ad L cap, v = .slice ad L cap := by
  obtain ⟨ad, cap, e⟩ := h.1.form
  exact ⟨ad, _, cap, e⟩
theorem Pt.alloc {w : World} {v : Value} {l : List Nat} (h : Pt w v l) (o : Obj) : Pt (w.alloc o) v l := h.below ((Below.refl _ _).alloc (Nat.le_refl _) o)
theorem Pt.setS {w : World} {v : Value} {l : List Nat} {B : Nat} {m : Bool} {x : Value} (h : Pt w v l) (hA : At w B [.bool m, x]) (o : Nat) (y : Value) : Pt (w.setCell ⟨B, o, none⟩ y) v l := by
  rcases h with h | ⟨b, cap, h1, h2, h3, h4, h5⟩
  · exact .inl h
  · refine .inr ⟨b, cap, h1, h2, h3, fun i hi => ?_, by simpa using h5⟩
    have hne : ¬ B = b := by
      intro e
      subst e
      have a := hA.c2.1
      have c := h4 0 (by omega)
      rw [a] at c; cases c
    have hne' : ¬ b = B := fun e => hne e.symm
    simp [go_sem, h4 i hi]
theorem Pt.setS2 {w : World} {v : Value} {l : List Nat} {B : Nat} {m m' : Bool} {x : Value} (h : Pt w v l) (hA : At w B [.bool m, x]) (y : Value) : Pt ((w.setCell ⟨B, 0, none⟩ (.bool m')).setCell ⟨B, 1, none⟩ y) v l := (h.setS hA 0 _).setS (hA.put 0 (.bool m')) 1 y
theorem wlen_pos (n : Nat) : decide (0 < ((WH.dn n).length : Int)) = decide (n ≠ 0) := by
  have h := WH.dn_empty (n := n)
  by_cases c : n = 0
  · subst c; rw [WH.dn_zero]; simp
  · have : (WH.dn n).length ≠ 0 := fun e => c (h.1 e)
    rw [decide_eq_true (by omega), decide_eq_true (by simpa using c)]
set_option maxHeartbeats 1000000 in
theorem signed_any {w : World} {v : Value} {n : Nat} (m : Bool) (h : Pt w v (WH.dn n)) : Calls Tryd.prog 43 #[.bool m, v] w fun e w' => e = .returned (.agg #[.bool (m && decide (n ≠ 0)), v]) ∧ Below w.heap.size w w' ∧ w.heap.size < w'.heap.size := by
  obtain ⟨ad, cap, rfl⟩ := h.form
  have HL := hidb (wlen_pos n)
  generalize hL : (WH.dn n).length = L at *
  clear hL h
  cases m with
  | false =>
    rw [Bool.false_and]
    go_enter Tryd.func43, Tryd.ntmps43
    go_wp2
    exact bodyPost_ret (v := .agg #[.bool false, .slice ad L cap]) (by simp [results, Tryd.results43, go_sem]) rfl ⟨rfl, (Below.refl _ _).alloc (Nat.le_refl _) _, by simp⟩
  | true =>
    rw [Bool.true_and, ← HL.out]
    go_enter Tryd.func43, Tryd.ntmps43
    go_wp2
    exact bodyPost_ret (v := .agg #[.bool (decide (0 < (L : Int))), .slice ad L cap]) (by simp [results, Tryd.results43, go_sem]) rfl ⟨rfl, (Below.refl _ _).alloc (Nat.le_refl _) _, by simp⟩
theorem sign_len (z : Int) : min ((WH.dn z.natAbs).length : Int) 1 = if z = 0 then 0 else 1 := by
  have h := WH.dn_empty (n := z.natAbs)
  split
  · rename_i c; subst c; rw [show (0 : Int).natAbs = 0 from rfl, WH.dn_zero]; rfl
  · have : (WH.dn z.natAbs).length ≠ 0 := fun e => by have := h.1 e; omega
    omega
/-- The sign: -1, 0, 1. -/
def sgn (z : Int) : Int := if z < 0 then -1 else if z = 0 then 0 else 1
set_option maxHeartbeats 1000000 in
theorem sign_nm {w : World} {m : Bool} {v : Value} {z : Int} (h : Nm w m v z) : Calls Tryd.prog 48 #[.agg #[.bool m, v]] w fun e w' => e = .returned (.int .i64 (sgn z)) ∧ Below w.heap.size w w' ∧ w.heap.size < w'.heap.size := by
  obtain ⟨hp, hm⟩ := h
  obtain ⟨ad, cap, rfl⟩ := hp.form
  clear hp
  by_cases c : z < 0
  · have hm' : m = true := by rw [hm]; simpa using c
    have HV : Hid (sgn z = -1) := by unfold sgn Hid; rw [if_pos c]
    clear hm
    subst hm'
    go_enter Tryd.func48, Tryd.ntmps48
    go_wp2
    go_ret
    exact ⟨by rw [HV.out]; rfl, (Below.refl _ _).alloc (Nat.le_refl _) _, by simp⟩
  · have hm' : m = false := by rw [hm]; simpa using c
    clear hm
    subst hm'
    by_cases d : z = 0
    · have HV : Hid (sgn z = 0) := by unfold sgn Hid; rw [if_neg c, if_pos d]
      have HL : (WH.dn z.natAbs).length = 0 := WH.dn_empty.2 (by omega)
      rw [HL]
      clear HL c d
      go_enter Tryd.func48, Tryd.ntmps48
      go_wp2
      go_ret
      exact ⟨by rw [HV.out]; rfl, (Below.refl _ _).alloc (Nat.le_refl _) _, by simp⟩
    · have HV : Hid (sgn z = 1) := by unfold sgn Hid; rw [if_neg c, if_neg d]
      obtain ⟨L, hL⟩ : ∃ L, (WH.dn z.natAbs).length = L := ⟨_, rfl⟩
      have hl : ¬ (L : Int) < 1 := by
        have : L ≠ 0 := fun e => by rw [e] at hL; have := WH.dn_empty.1 hL; omega
        omega
      rw [hL]
      clear hL c d
      go_enter Tryd.func48, Tryd.ntmps48
      go_wp2
      · go_ret
        exact ⟨by rw [HV.out]; rfl, (Below.refl _ _).alloc (Nat.le_refl _) _, by simp⟩
      · obtain rfl : L = 1 := by omega
        go_ret
        exact ⟨by rw [HV.out]; rfl, (Below.refl _ _).alloc (Nat.le_refl _) _, by simp⟩
theorem At.pt1 {w : World} {B k : Nat} (h : At w B [.int .u64 (k : Int)]) : Pt w (.slice (some ⟨B, 0, none⟩) 1 1) [k] :=
  .inr ⟨B, 1, rfl, Nat.le_refl _, by decide, ⟨fun i hi => by match i, hi with | 0, _ => exact h.c1, h.2⟩⟩
set_option maxHeartbeats 1000000 in
theorem of_neg {n : Int} (h1 : -9223372036854775808 ≤ n) (c : n < 0) (w : World) : Calls Tryd.prog 30 #[.int .i64 n] w fun e w' => ∃ m v, e = .returned (.agg #[.bool m, v]) ∧ Nm w' m v n ∧ Below w.heap.size w w' ∧ w.heap.size < w'.heap.size := by
  have e1 : IntKind.u64.wrap n = n + 18446744073709551616 := by rw [IntKind.wrap_u64]; omega
  have e2 : IntKind.u64.wrap (-(n + 18446744073709551616)) = (n.natAbs : Int) := by rw [IntKind.wrap_u64]; omega
  have hl : n.natAbs < 18446744073709551616 := by omega
  have hz : n.natAbs ≠ 0 := by omega
  have hd : WH.dn n.natAbs = [n.natAbs] := by rw [WH.dn_pos hz, Nat.mod_eq_of_lt hl, Nat.div_eq_of_lt hl, WH.dn_zero]
  have HD := hidb hd
  have HK : Hid (n.natAbs = n.natAbs) := rfl
  obtain ⟨k, hk⟩ : ∃ k, k = n.natAbs := ⟨_, rfl⟩
  rw [← hk] at e2 HD
  have HN := hidb hk
  have HC0 := hidb c
  have HZ := hidb hz
  clear hd hk hz hl
  go_enter Tryd.func30, Tryd.ntmps30
  go_wp2_with fail
  have HP : Hid (Pt ((w.alloc (.cells #[.bool false, .slice none 0 0] 65)).alloc (.cells #[.int .u64 (k : Int)] 105)) (.slice (some ⟨w.heap.size + 1, 0, none⟩) 1 1) (WH.dn k)) := by
    rw [HD.out]; exact (At.nx1 _ _ _).pt1
  have HA := (At.new2 w (.bool false) (.slice none 0 0) 65).alloc (.cells #[.int .u64 (k : Int)] 105)
  have HG : Gr w ((w.alloc (.cells #[.bool false, .slice none 0 0] 65)).alloc (.cells #[.int .u64 (k : Int)] 105)) := ((Gr.refl w).alloc _).alloc _
  refine (signed_any true HP.out).mono ?_
  rintro e w1 ⟨rfl, hB, hlt⟩
  replace HA := At.below hB HA
  replace HG := Gr.step HG hB
  have HP2 := hidb (HP.out.below hB)
  rw [Bool.true_and, decide_eq_true (show k ≠ 0 by rw [HN.out]; exact HZ.out)]
  clear hB HP
  obtain ⟨c0, c1⟩ := HA.c2
  obtain ⟨f0, f1⟩ := HA.f2
  go_wp2
  exact bodyPost_ret (v := .agg #[.bool true, .slice (some ⟨w.heap.size + 1, 0, none⟩) 1 1]) (by simp [results, Tryd.results30, go_sem, c0, c1]) rfl ⟨true, _, rfl, ⟨by rw [← HN.out]; exact HP2.out.setS2 HA _, by simp [HC0.out]⟩, (HG.set (Nat.le_refl _) _ _).set (Nat.le_refl _) _ _, by have := HA.lt; simp; omega⟩
set_option maxHeartbeats 1000000 in
theorem of_pos {k : Nat} (h2 : (k : Int) ≤ 9223372036854775807) (w : World) : Calls Tryd.prog 30 #[.int .i64 (k : Int)] w fun e w' => ∃ m v, e = .returned (.agg #[.bool m, v]) ∧ Nm w' m v (k : Int) ∧ Below w.heap.size w w' ∧ w.heap.size < w'.heap.size := by
  have e1 : IntKind.u64.wrap (k : Int) = (k : Int) := by rw [IntKind.wrap_u64]; omega
  have hl : k < 18446744073709551616 := by omega
  have hdg : WH.Dg [k] := by intro d hd; rw [List.mem_singleton.1 hd]; exact hl
  have hdv : WH.dv [k] = k := by simp [WH.dv]
  have HDG := hidb hdg
  have HDV := hidb hdv
  have h0 : ¬ (k : Int) < 0 := by omega
  clear hdg hdv hl
  go_enter Tryd.func30, Tryd.ntmps30
  go_wp2_with fail
  have HP : Hid (Pt ((w.alloc (.cells #[.bool false, .slice none 0 0] 65)).alloc (.cells #[.int .u64 (k : Int)] 105)) (.slice (some ⟨w.heap.size + 1, 0, none⟩) 1 1) [k]) := (At.nx1 _ _ _).pt1
  have HA := (At.new2 w (.bool false) (.slice none 0 0) 65).alloc (.cells #[.int .u64 (k : Int)] 105)
  have HG : Gr w ((w.alloc (.cells #[.bool false, .slice none 0 0] 65)).alloc (.cells #[.int .u64 (k : Int)] 105)) := ((Gr.refl w).alloc _).alloc _
  refine (wtrim_any HDG.out HP.out).mono ?_
  rintro e w1 ⟨v, rfl, hv, rfl⟩
  rw [HDV.out] at hv
  have HV := hidb hv
  clear hv HP
  go_wp2_with fail
  refine (signed_any false HV.out).mono ?_
  rintro e w1 ⟨rfl, hB, hlt⟩
  replace HA := At.below hB HA
  replace HG := Gr.step HG hB
  have HP2 := hidb (HV.out.below hB)
  rw [Bool.false_and]
  obtain ⟨ad, cap, hf⟩ := HV.out.form
  rw [hf] at HP2 ⊢
  clear hB HV hf
  obtain ⟨c0, c1⟩ := HA.c2
  obtain ⟨f0, f1⟩ := HA.f2
  generalize (WH.dn k).length = L at *
  go_wp2
  exact bodyPost_ret (v := .agg #[.bool false, .slice ad L cap]) (by simp [results, Tryd.results30, go_sem, c0, c1]) rfl ⟨false, _, rfl, ⟨by rw [Int.natAbs_natCast]; exact HP2.out.setS2 HA _, by simp⟩, (HG.set (Nat.le_refl _) _ _).set (Nat.le_refl _) _ _, by have := HA.lt; simp; omega⟩
theorem of_any {n : Int} (h1 : -9223372036854775808 ≤ n) (h2 : n ≤ 9223372036854775807) (w : World) : Calls Tryd.prog 30 #[.int .i64 n] w fun e w' => ∃ m v, e = .returned (.agg #[.bool m, v]) ∧ Nm w' m v n ∧ Below w.heap.size w w' ∧ w.heap.size < w'.heap.size := by
  by_cases c : n < 0
  · exact of_neg h1 c w
  · obtain ⟨k, rfl⟩ : ∃ k : Nat, n = k := ⟨n.natAbs, by omega⟩
    exact of_pos h2 w
end Go.Proofs.YtecmkjefoppbiaaDoor
namespace Go.Proofs.YtecmkjefoppbiaaDoor
open Go.RowKit WH
attribute [local go_sem ↓] Go.wp_at_zero Go.wp_at_succ

theorem Gr.strict {w W w' : World} {b : Nat} (_h : Gr w W) (hb : b < W.heap.size) (k : Below W.heap.size W w') : b < w'.heap.size := Nat.lt_of_lt_of_le hb k.size
set_option maxRecDepth 4000 in
set_option maxHeartbeats 4000000 in
theorem plus_nm {w : World} {m n : Bool} {u v : Value} {x y : Int} (lx : x.natAbs < wlid) (ly : y.natAbs < wlid) (h : Nm w m u x) (k : Nm w n v y) : Calls Tryd.prog 34 #[.agg #[.bool m, u], .agg #[.bool n, v]] w fun e w' => ∃ o t, e = .returned (.agg #[.bool o, t]) ∧ Nm w' o t (x + y) ∧ Below w.heap.size w w' ∧ w.heap.size < w'.heap.size := by
  obtain ⟨hb, hm⟩ := h
  obtain ⟨kb, hn⟩ := k
  have HB := hidb hb
  have KB := hidb kb
  have hge : w.heap.size ≤ w.heap.size + 1 + 1 := by omega
  by_cases c : m = n
  · subst c
    obtain ⟨e1, e2⟩ := add_same (x := x) (y := y) (hm.symm.trans hn)
    have HE := hidb e1
    have HS : Hid ((m && decide (x.natAbs + y.natAbs ≠ 0)) = decide (x + y < 0)) := by
      show _ = _
      rw [e2, hm]
      by_cases c : x < 0
      · rw [decide_eq_true c, decide_eq_true (by omega)]; rfl
      · rw [decide_eq_false c]; rfl
    have HP := hidb (fun w (h : Pt w u (WH.dn x.natAbs)) (k : Pt w v (WH.dn y.natAbs)) => wsum_any lx ly h k)
    clear hb kb hm hn lx ly e1 e2
    have hmm : (m == m) = true := by simp
    go_enter Tryd.func34, Tryd.ntmps34
    go_upto_region 2 with fail
    have VV := SF.init w m m u v 65
    have HC : Gr w (((w.alloc (.cells #[.bool m, u] 65)).alloc (.cells #[.bool m, v] 65)).alloc (.cells #[.bool false, .slice none 0 0] 65)) := (((Gr.refl w).alloc _).alloc _).alloc _
    generalize ((w.alloc (.cells #[.bool m, u] 65)).alloc (.cells #[.bool m, v] 65)).alloc (.cells #[.bool false, .slice none 0 0] 65) = w1 at *
    go_region_held (fun w' => w'.cell? ⟨w.heap.size, 0, none⟩ = some (.bool m) ∧ w'.cell? ⟨w.heap.size, 1, none⟩ = some u ∧ w'.cell? ⟨w.heap.size + 1, 0, none⟩ = some (.bool m) ∧ w'.cell? ⟨w.heap.size + 1, 1, none⟩ = some v)
      (first | (with_reducible exact VV.four) | (with_reducible exact VV.keep _ _) | exact VV.four)
      ((first
        | (go_at_call 52; refine (HP.out _ (HB.out.below HC.out.drew) (KB.out.below HC.out.drew)).mono ?_; rintro e w5 ⟨t, rfl, ht, hB5⟩; replace hB5 := hB5.out; (with_reducible first | replace hB5 := undr hB5 | skip); replace VV := VV.below hB5; replace HC := Gr.step HC hB5; obtain ⟨ad, cap, hf⟩ := ht.form; have HT := hidb ht; rw [hf] at HT ⊢; clear ht hf hB5)
        | (go_at_call 43; refine (signed_any _ HT.out).mono ?_; rintro e w6 ⟨rfl, hB6, hlt⟩; (with_reducible first | replace hB6 := undr hB6 | skip); replace VV := VV.below hB6; replace HC := Gr.step HC hB6; replace HT := hidb (HT.out.below hB6); clear hB6 hlt; obtain ⟨r0, r1⟩ := VV.fr.c2; obtain ⟨f0, f1⟩ := VV.fr.f2)))
    go_wp2
    exact bodyPost_ret (v := .agg #[.bool (m && decide (x.natAbs + y.natAbs ≠ 0)), .slice ad (WH.dn (x.natAbs + y.natAbs)).length cap]) (by simp [results, Tryd.results34, go_sem, r0, r1]) rfl ⟨_, _, rfl, ⟨by rw [HE.out]; exact HT.out.setS2 VV.fr _, HS.out⟩, (HC.set hge _ _).set hge _ _, by have := VV.fr.lt; simp; omega⟩
  have hmn : (m == n) = false := by simp [c]
  have hd : decide (x < 0) ≠ decide (y < 0) := by rw [← hm, ← hn]; exact c
  have HQ := hidb (fun w (h : Pt w u (WH.dn x.natAbs)) (k : Pt w v (WH.dn y.natAbs)) => wcmp_any lx ly h k)
  by_cases g : y.natAbs ≤ x.natAbs
  · obtain ⟨e1, e2⟩ := add_first hd g
    have HE := hidb e1
    have HS : Hid ((m && decide (x.natAbs - y.natAbs ≠ 0)) = decide (x + y < 0)) := by rw [hm]; exact e2.symm
    have HP := hidb (fun w (h : Pt w u (WH.dn x.natAbs)) (k : Pt w v (WH.dn y.natAbs)) => wdiff_any lx g h k)
    have hcm := cm_ge g
    generalize cm x.natAbs y.natAbs = cc at *
    clear hb kb hm hn lx ly e1 e2 hd
    go_enter Tryd.func34, Tryd.ntmps34
    go_upto_region 3 with fail
    have VV := SF.init w m n u v 65
    have HC : Gr w (((w.alloc (.cells #[.bool m, u] 65)).alloc (.cells #[.bool n, v] 65)).alloc (.cells #[.bool false, .slice none 0 0] 65)) := (((Gr.refl w).alloc _).alloc _).alloc _
    generalize ((w.alloc (.cells #[.bool m, u] 65)).alloc (.cells #[.bool n, v] 65)).alloc (.cells #[.bool false, .slice none 0 0] 65) = w1 at *
    obtain ⟨a0, a1, b0, b1⟩ := VV.four
    go_wp2_with fail
    refine (HQ.out _ (HB.out.below HC.out) (KB.out.below HC.out)).mono ?_
    rintro e w2 ⟨rfl, hB⟩
    replace VV := VV.below hB
    replace HC := Gr.step HC hB
    clear hB a0 a1 b0 b1
    go_upto_region 5 with fail
    go_region_held (fun w' => w'.cell? ⟨w.heap.size, 0, none⟩ = some (.bool m) ∧ w'.cell? ⟨w.heap.size, 1, none⟩ = some u ∧ w'.cell? ⟨w.heap.size + 1, 0, none⟩ = some (.bool n) ∧ w'.cell? ⟨w.heap.size + 1, 1, none⟩ = some v)
      (first | (with_reducible exact VV.four) | (with_reducible exact VV.keep _ _) | exact VV.four)
      ((first
        | (go_at_call 54; refine (HP.out _ (HB.out.below HC.out.drew) (KB.out.below HC.out.drew)).mono ?_; rintro e w5 ⟨t, rfl, ht, hB5⟩; replace hB5 := hB5.out; (with_reducible first | replace hB5 := undr hB5 | skip); replace VV := VV.below hB5; replace HC := Gr.step HC hB5; obtain ⟨ad, cap, hf⟩ := ht.form; have HT := hidb ht; rw [hf] at HT ⊢; clear ht hf hB5)
        | (go_at_call 43; refine (signed_any _ HT.out).mono ?_; rintro e w6 ⟨rfl, hB6, hlt⟩; (with_reducible first | replace hB6 := undr hB6 | skip); replace VV := VV.below hB6; replace HC := Gr.step HC hB6; replace HT := hidb (HT.out.below hB6); clear hB6 hlt; obtain ⟨r0, r1⟩ := VV.fr.c2; obtain ⟨f0, f1⟩ := VV.fr.f2)))
    go_wp2
    exact bodyPost_ret (v := .agg #[.bool (m && decide (x.natAbs - y.natAbs ≠ 0)), .slice ad (WH.dn (x.natAbs - y.natAbs)).length cap]) (by simp [results, Tryd.results34, go_sem, r0, r1]) rfl ⟨_, _, rfl, ⟨by rw [HE.out]; exact HT.out.setS2 VV.fr _, HS.out⟩, (HC.set hge _ _).set hge _ _, by have := VV.fr.lt; simp; omega⟩
  · obtain ⟨e1, e2⟩ := add_second hd (by omega)
    have HE := hidb e1
    have HS : Hid ((n && decide (y.natAbs - x.natAbs ≠ 0)) = decide (x + y < 0)) := by
      rw [e2, hn, decide_eq_true (show y.natAbs - x.natAbs ≠ 0 by omega), Bool.and_true]; rfl
    have HP := hidb (fun w (h : Pt w v (WH.dn y.natAbs)) (k : Pt w u (WH.dn x.natAbs)) => wdiff_any ly (by omega) h k)
    have hcm := cm_lt (m := x.natAbs) (n := y.natAbs) (by omega)
    rw [hcm] at HQ
    clear hb kb hm hn lx ly e1 e2 hd hcm
    go_enter Tryd.func34, Tryd.ntmps34
    go_upto_region 3 with fail
    have VV := SF.init w m n u v 65
    have HC : Gr w (((w.alloc (.cells #[.bool m, u] 65)).alloc (.cells #[.bool n, v] 65)).alloc (.cells #[.bool false, .slice none 0 0] 65)) := (((Gr.refl w).alloc _).alloc _).alloc _
    generalize ((w.alloc (.cells #[.bool m, u] 65)).alloc (.cells #[.bool n, v] 65)).alloc (.cells #[.bool false, .slice none 0 0] 65) = w1 at *
    obtain ⟨a0, a1, b0, b1⟩ := VV.four
    go_wp2_with fail
    refine (HQ.out _ (HB.out.below HC.out) (KB.out.below HC.out)).mono ?_
    rintro e w2 ⟨rfl, hB⟩
    replace VV := VV.below hB
    replace HC := Gr.step HC hB
    clear hB a0 a1 b0 b1
    go_upto_region 4 with fail
    go_region_held (fun w' => w'.cell? ⟨w.heap.size, 0, none⟩ = some (.bool m) ∧ w'.cell? ⟨w.heap.size, 1, none⟩ = some u ∧ w'.cell? ⟨w.heap.size + 1, 0, none⟩ = some (.bool n) ∧ w'.cell? ⟨w.heap.size + 1, 1, none⟩ = some v)
      (first | (with_reducible exact VV.four) | (with_reducible exact VV.keep _ _) | exact VV.four)
      ((first
        | (go_at_call 54; refine (HP.out _ (KB.out.below HC.out.drew) (HB.out.below HC.out.drew)).mono ?_; rintro e w5 ⟨t, rfl, ht, hB5⟩; replace hB5 := hB5.out; (with_reducible first | replace hB5 := undr hB5 | skip); replace VV := VV.below hB5; replace HC := Gr.step HC hB5; obtain ⟨ad, cap, hf⟩ := ht.form; have HT := hidb ht; rw [hf] at HT ⊢; clear ht hf hB5)
        | (go_at_call 43; refine (signed_any _ HT.out).mono ?_; rintro e w6 ⟨rfl, hB6, hlt⟩; (with_reducible first | replace hB6 := undr hB6 | skip); replace VV := VV.below hB6; replace HC := Gr.step HC hB6; replace HT := hidb (HT.out.below hB6); clear hB6 hlt; obtain ⟨r0, r1⟩ := VV.fr.c2; obtain ⟨f0, f1⟩ := VV.fr.f2)))
    go_wp2
    exact bodyPost_ret (v := .agg #[.bool (n && decide (y.natAbs - x.natAbs ≠ 0)), .slice ad (WH.dn (y.natAbs - x.natAbs)).length cap]) (by simp [results, Tryd.results34, go_sem, r0, r1]) rfl ⟨_, _, rfl, ⟨by rw [HE.out]; exact HT.out.setS2 VV.fr _, HS.out⟩, (HC.set hge _ _).set hge _ _, by have := VV.fr.lt; simp; omega⟩
set_option maxRecDepth 4000 in
set_option maxHeartbeats 4000000 in
theorem times_nm {w : World} {m n : Bool} {u v : Value} {x y : Int} (lx : x.natAbs < wlid) (ly : y.natAbs < wlid) (h : Nm w m u x) (k : Nm w n v y) : Calls Tryd.prog 32 #[.agg #[.bool m, u], .agg #[.bool n, v]] w fun e w' => ∃ o t, e = .returned (.agg #[.bool o, t]) ∧ Nm w' o t (x * y) ∧ Below w.heap.size w w' ∧ w.heap.size < w'.heap.size := by
  obtain ⟨hb, hm⟩ := h
  obtain ⟨kb, hn⟩ := k
  have HB := hidb hb
  have KB := hidb kb
  have hge : w.heap.size ≤ w.heap.size + 1 + 1 := by omega
  have HS : Hid (((m != n) && decide (x.natAbs * y.natAbs ≠ 0)) = decide (x * y < 0)) := by rw [hm, hn]; exact (mul_sign x y).symm
  have HE : Hid ((x * y).natAbs = x.natAbs * y.natAbs) := Int.natAbs_mul x y
  have HP := hidb (fun w (h : Pt w u (WH.dn x.natAbs)) (k : Pt w v (WH.dn y.natAbs)) => wmul_any lx ly h k)
  clear hb kb hm hn lx ly
  go_enter Tryd.func32, Tryd.ntmps32
  go_upto_region 1 with fail
  have VV := SF.init w m n u v 65
  have HC : Gr w (((w.alloc (.cells #[.bool m, u] 65)).alloc (.cells #[.bool n, v] 65)).alloc (.cells #[.bool false, .slice none 0 0] 65)) := (((Gr.refl w).alloc _).alloc _).alloc _
  generalize ((w.alloc (.cells #[.bool m, u] 65)).alloc (.cells #[.bool n, v] 65)).alloc (.cells #[.bool false, .slice none 0 0] 65) = w1 at *
  go_region_held (fun w' => w'.cell? ⟨w.heap.size, 0, none⟩ = some (.bool m) ∧ w'.cell? ⟨w.heap.size, 1, none⟩ = some u ∧ w'.cell? ⟨w.heap.size + 1, 0, none⟩ = some (.bool n) ∧ w'.cell? ⟨w.heap.size + 1, 1, none⟩ = some v)
      (first | (with_reducible exact VV.four) | (with_reducible exact VV.keep _ _) | exact VV.four)
      ((first
        | (go_at_call 47; refine (HP.out _ (HB.out.below HC.out.drew) (KB.out.below HC.out.drew)).mono ?_; rintro e w5 ⟨t, rfl, ht, hB5⟩; replace hB5 := hB5.out; (with_reducible first | replace hB5 := undr hB5 | skip); replace VV := VV.below hB5; replace HC := Gr.step HC hB5; obtain ⟨ad, cap, hf⟩ := ht.form; have HT := hidb ht; rw [hf] at HT ⊢; clear ht hf hB5)
        | (go_at_call 43; refine (signed_any _ HT.out).mono ?_; rintro e w6 ⟨rfl, hB6, hlt⟩; (with_reducible first | replace hB6 := undr hB6 | skip); replace VV := VV.below hB6; replace HC := Gr.step HC hB6; replace HT := hidb (HT.out.below hB6); clear hB6 hlt; obtain ⟨r0, r1⟩ := VV.fr.c2; obtain ⟨f0, f1⟩ := VV.fr.f2)))
  go_wp2
  exact bodyPost_ret (v := .agg #[.bool ((m != n) && decide (x.natAbs * y.natAbs ≠ 0)), .slice ad (WH.dn (x.natAbs * y.natAbs)).length cap]) (by simp [results, Tryd.results32, go_sem, r0, r1]; rfl) rfl ⟨_, _, rfl, ⟨by rw [HE.out]; exact HT.out.setS2 VV.fr _, HS.out⟩, (HC.set hge _ _).set hge _ _, by have := VV.fr.lt; simp; omega⟩
theorem neg_sign (z : Int) (m : Bool) (h : m = decide (z < 0)) : ((!m) && decide (z.natAbs ≠ 0)) = decide (-z < 0) := by rw [h]; exact (back_sign z).symm
set_option maxRecDepth 4000 in
set_option maxHeartbeats 4000000 in
theorem less_nm {w : World} {m n : Bool} {u v : Value} {x y : Int} (lx : x.natAbs < wlid) (ly : y.natAbs < wlid) (h : Nm w m u x) (k : Nm w n v y) : Calls Tryd.prog 45 #[.agg #[.bool m, u], .agg #[.bool n, v]] w fun e w' => ∃ o t, e = .returned (.agg #[.bool o, t]) ∧ Nm w' o t (x - y) ∧ Below w.heap.size w w' ∧ w.heap.size < w'.heap.size := by
  have HB := hidb h
  have KB := hidb k.1
  obtain ⟨nb, hnb⟩ : ∃ nb, nb = ((!n) && decide (y.natAbs ≠ 0)) := ⟨_, rfl⟩
  have HN : Hid (nb = decide (-y < 0)) := hnb.trans (neg_sign y n k.2)
  have HSG : Hid (∀ w, Pt w v (WH.dn y.natAbs) → Calls Tryd.prog 43 #[.bool (!n), v] w fun e w' => e = .returned (.agg #[.bool nb, v]) ∧ Below w.heap.size w w' ∧ w.heap.size < w'.heap.size) := fun w h => by
    have := signed_any (!n) h
    rw [← hnb] at this
    exact this
  have hge : w.heap.size ≤ w.heap.size + 1 + 1 := by omega
  have LX := hidb lx
  have LY : Hid ((-y).natAbs < wlid) := by rw [Int.natAbs_neg]; exact ly
  clear h k lx ly hnb
  go_enter Tryd.func45, Tryd.ntmps45
  go_upto_region 1 with fail
  have VV := SF.init w m n u v 65
  have HC : Gr w (((w.alloc (.cells #[.bool m, u] 65)).alloc (.cells #[.bool n, v] 65)).alloc (.cells #[.bool false, .slice none 0 0] 65)) := (((Gr.refl w).alloc _).alloc _).alloc _
  generalize ((w.alloc (.cells #[.bool m, u] 65)).alloc (.cells #[.bool n, v] 65)).alloc (.cells #[.bool false, .slice none 0 0] 65) = w1 at *
  go_region_held (fun w' => w'.cell? ⟨w.heap.size, 0, none⟩ = some (.bool m) ∧ w'.cell? ⟨w.heap.size, 1, none⟩ = some u ∧ w'.cell? ⟨w.heap.size + 1, 0, none⟩ = some (.bool n) ∧ w'.cell? ⟨w.heap.size + 1, 1, none⟩ = some v)
      (first | (with_reducible exact VV.four) | (with_reducible exact VV.keep _ _) | exact VV.four)
      ((first
        | (go_at_call 43; refine (HSG.out _ (KB.out.below HC.out.drew)).mono ?_; rintro e w6 ⟨rfl, hB6, hlt⟩; (with_reducible first | replace hB6 := undr hB6 | skip); have HT : Hid (Nm w6 nb v (-y)) := ⟨by rw [Int.natAbs_neg]; exact KB.out.below (HC.out.trans (hB6.mono HC.out.size)), HN.out⟩; replace VV := VV.below hB6; replace HC := Gr.step HC hB6; clear hB6 hlt)
        | (go_at_call 34; with_reducible refine (plus_nm LX.out LY.out (HB.out.below HC.out) HT.out).mono ?_; rintro e w5 ⟨o, t, rfl, ht, hB5, hlt⟩; (with_reducible first | replace hB5 := undr hB5 | skip); replace VV := VV.below hB5; replace HC := Gr.step HC hB5; rw [← Int.sub_eq_add_neg] at ht; obtain ⟨ad, L, cap, hf⟩ := ht.form; have HT5 := hidb ht; rw [hf] at HT5 ⊢; clear ht hf hB5 hlt; obtain ⟨r0, r1⟩ := VV.fr.c2; obtain ⟨f0, f1⟩ := VV.fr.f2)))
  all_goals
    go_wp2
    exact bodyPost_ret (v := .agg #[.bool o, .slice ad L cap]) (by simp [results, Tryd.results45, go_sem, r0, r1]) rfl ⟨_, _, rfl, ⟨HT5.out.1.setS2 VV.fr _, HT5.out.2⟩, (HC.set hge _ _).set hge _ _, by have := VV.fr.lt; simp; omega⟩
end Go.Proofs.YtecmkjefoppbiaaDoor
