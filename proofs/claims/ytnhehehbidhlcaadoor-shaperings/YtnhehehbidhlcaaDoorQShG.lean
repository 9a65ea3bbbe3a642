/-
  ShapeTurned: the law by its ways.
-/
import Derived.Test.YtnhehehbidhlcaaDoorQShF
namespace Go.Proofs.YtnhehehbidhlcaaDoor
open Go.RowKit
attribute [local go_sem ↓] Go.wp_at_zero Go.wp_at_succ

/-- A slice of points that the law is handed. -/
def SArg (w : World) (ad : Option Addr) (n cap : Nat) : Prop := ∃ (b o : Nat) (l : List Sp), l.length = n ∧ SSl w ad b o cap l
set_option maxRecDepth 4000 in
set_option maxHeartbeats 4000000 in
theorem turned_few (g : Nat → Addr) (ad : Option Addr) (n cap : Nat) (p q : Sp) (k : Int) (w : World) (hl : Lb w g) (hf : ¬ fwP n) : Calls Tryd.prog 4 #[.slice ad n cap, sv p, .int .i64 k, sv q] w fun e w' => e = .returned (.bool true) ∧ Gr w w' := by
  obtain ⟨p1, p2⟩ := p
  obtain ⟨q1, q2⟩ := q
  have HG := ((Gr.refl w).alloc (.cells #[.int .i64 p1, .int .i64 p2] 24)).alloc (.cells #[.int .i64 q1, .int .i64 q2] 24)
  have HR := hidb (ringed_any g _ (hl.below HG.out))
  have HG2 := hidb HG
  have HF := hidb (few_any ad n cap)
  rw [decide_eq_false hf] at HF
  clear hl HG hf
  go_enter Tryd.func4, Tryd.ntmps4
  go_wp2_with fail
  refine HR.out.mono ?_
  rintro e w2 ⟨rfl, hB⟩
  replace HG2 := hidb (Gr.step HG2.out hB.out)
  clear hB
  go_wp2_with fail
  refine (HF.out _).mono ?_
  rintro e w3 ⟨rfl, rfl⟩
  go_wp2
  go_ret
  exact ⟨rfl, HG2.out⟩
set_option maxRecDepth 4000 in
set_option maxHeartbeats 4000000 in
theorem turned_bad (g : Nat → Addr) (ad : Option Addr) (b o cap : Nat) (l : List Sp) (p q : Sp) (k : Int) (w : World) (hl : Lb w g) (h : SSl w ad b o cap l) (hf : fwP l.length) (hc : ¬ rcd l = 0) : Calls Tryd.prog 4 #[.slice ad l.length cap, sv p, .int .i64 k, sv q] w fun e w' => e = .returned (.bool true) ∧ Gr w w' := by
  obtain ⟨p1, p2⟩ := p
  obtain ⟨q1, q2⟩ := q
  have HG := ((Gr.refl w).alloc (.cells #[.int .i64 p1, .int .i64 p2] 24)).alloc (.cells #[.int .i64 q1, .int .i64 q2] 24)
  have HR := hidb (ringed_any g _ (hl.below HG.out))
  have HG2 := hidb HG
  have HF := hidb (few_any ad l.length cap)
  rw [decide_eq_true hf] at HF
  have HE := hidb (fun W (hW : Gr w W) => ringError_any (by unfold fwP at hf; omega) W (h.gr hW))
  have c1 : (0 : Int) < (rcd l : Int) := by omega
  clear hl HG hf h hc
  generalize l.length = n at *
  generalize (rcd l : Int) = r at *
  go_enter Tryd.func4, Tryd.ntmps4
  go_wp2_with fail
  refine HR.out.mono ?_
  rintro e w2 ⟨rfl, hB⟩
  replace HG2 := hidb (Gr.step HG2.out hB.out)
  clear hB
  go_wp2_with fail
  refine (HF.out _).mono ?_
  rintro e w3 ⟨rfl, rfl⟩
  go_wp2_with fail
  refine (HE.out _ HG2.out).mono ?_
  rintro e w4 ⟨rfl, hB⟩
  replace HG2 := hidb (Gr.step HG2.out hB.out)
  clear hB
  go_wp2
  go_ret
  exact ⟨rfl, HG2.out⟩
set_option maxRecDepth 4000 in
set_option maxHeartbeats 4000000 in
theorem turned_out (g : Nat → Addr) (ad : Option Addr) (b o cap : Nat) (l : List Sp) (p q : Sp) (k : Int) (w : World) (hl : Lb w g) (h : SSl w ad b o cap l) (hf : fwP l.length) (hc : rcd l = 0) (hk : k < 0 ∨ (l.length : Int) ≤ k) : Calls Tryd.prog 4 #[.slice ad l.length cap, sv p, .int .i64 k, sv q] w fun e w' => e = .returned (.bool true) ∧ Gr w w' := by
  obtain ⟨p1, p2⟩ := p
  obtain ⟨q1, q2⟩ := q
  have HG := ((Gr.refl w).alloc (.cells #[.int .i64 p1, .int .i64 p2] 24)).alloc (.cells #[.int .i64 q1, .int .i64 q2] 24)
  have HR := hidb (ringed_any g _ (hl.below HG.out))
  have HG2 := hidb HG
  have HF := hidb (few_any ad l.length cap)
  rw [decide_eq_true hf] at HF
  have HE := hidb (fun W (hW : Gr w W) => ringError_any (by unfold fwP at hf; omega) W (h.gr hW))
  rw [hc] at HE
  clear hl HG hf h hc
  generalize l.length = n at *
  push_cast at HE
  by_cases c1 : k < 0
  · clear hk
    go_enter Tryd.func4, Tryd.ntmps4
    go_wp2_with fail
    refine HR.out.mono ?_
    rintro e w2 ⟨rfl, hB⟩
    replace HG2 := hidb (Gr.step HG2.out hB.out)
    clear hB
    go_wp2_with fail
    refine (HF.out _).mono ?_
    rintro e w3 ⟨rfl, rfl⟩
    go_wp2_with fail
    refine (HE.out _ HG2.out).mono ?_
    rintro e w4 ⟨rfl, hB⟩
    replace HG2 := hidb (Gr.step HG2.out hB.out)
    clear hB
    go_wp2
    go_ret
    exact ⟨rfl, HG2.out⟩
  · have c2 : (n : Int) ≤ k := by omega
    clear hk
    go_enter Tryd.func4, Tryd.ntmps4
    go_wp2_with fail
    refine HR.out.mono ?_
    rintro e w2 ⟨rfl, hB⟩
    replace HG2 := hidb (Gr.step HG2.out hB.out)
    clear hB
    go_wp2_with fail
    refine (HF.out _).mono ?_
    rintro e w3 ⟨rfl, rfl⟩
    go_wp2_with fail
    refine (HE.out _ HG2.out).mono ?_
    rintro e w4 ⟨rfl, hB⟩
    replace HG2 := hidb (Gr.step HG2.out hB.out)
    clear hB
    go_wp2
    go_ret
    exact ⟨rfl, HG2.out⟩
/-- What lies in memory when both rings are made. -/
structure LE (w W : World) (B : Nat) (p z : Sp) (ad : Option Addr) (b o cap : Nat) (l : List Sp) (ad1 : Option Addr) (b1 cap1 : Nat) (R : List Sp) (ad2 : Option Addr) (b2 cap2 : Nat) (M : List Sp) : Prop where
  p : At W w.heap.size (sc p)
  z : At W B (sc z)
  s : SSl W ad b o cap l
  r : SSl W ad1 b1 0 cap1 R
  m : SSl W ad2 b2 0 cap2 M
  gr : Gr w W
theorem LE.below {w W w' : World} {B : Nat} {p z : Sp} {ad : Option Addr} {b o cap : Nat} {l : List Sp} {ad1 : Option Addr} {b1 cap1 : Nat} {R : List Sp} {ad2 : Option Addr} {b2 cap2 : Nat} {M : List Sp} (h : LE w W B p z ad b o cap l ad1 b1 cap1 R ad2 b2 cap2 M) (hB : Below W.heap.size W w') : LE w w' B p z ad b o cap l ad1 b1 cap1 R ad2 b2 cap2 M :=
  ⟨At.below hB h.p, At.below hB h.z, h.s.below hB, h.r.below hB, h.m.below hB, Gr.step h.gr hB⟩
theorem eg_bd {l : List Sp} (h : rcd l = 0) (h30 : l.length ≤ 30) : -9223372036854775807 ≤ sw (eg l) ∧ sw (eg l) ≤ 9223372036854775807 := by
  obtain ⟨_, hr⟩ := rcd_ok h
  have h3 := hr.1
  have := sw_bd (eg l) (eg_ok (rg_ok hr) (by omega))
  rw [eg_len (by omega)] at this
  omega
/-- The first i points, turned around, moved. -/
def rvK (l : List Sp) (i : Nat) : List Sp := (List.range i).map fun j => sx l (l.length - 1 - j)
def mvK (d : Sp) (k : Nat) (l : List Sp) (i : Nat) : List Sp := (List.range i).map fun j => mv d (sx l ((j + k) % l.length))
theorem rvK_succ (l : List Sp) (i : Nat) : rvK l (i + 1) = rvK l i ++ [sx l (l.length - 1 - i)] := by simp [rvK, List.range_succ]
theorem mvK_succ (d : Sp) (k : Nat) (l : List Sp) (i : Nat) : mvK d k l (i + 1) = mvK d k l i ++ [mv d (sx l ((i + k) % l.length))] := by simp [mvK, List.range_succ]
theorem rvK_len (l : List Sp) (i : Nat) : (rvK l i).length = i := by simp [rvK]
theorem mvK_len (d : Sp) (k : Nat) (l : List Sp) (i : Nat) : (mvK d k l i).length = i := by simp [mvK]
set_option maxRecDepth 4000 in
set_option maxHeartbeats 16000000 in
theorem turned_ok (g : Nat → Addr) (ad : Option Addr) (b o cap : Nat) (l : List Sp) (p q : Sp) (k : Nat) (w : World) (hl : Lb w g) (h : SSl w ad b o cap l) (hf : fwP l.length) (hc : rcd l = 0) (hk : k < l.length) (hp1 : -9223372036854775808 ≤ p.1 ∧ p.1 ≤ 9223372036854775807) (hp2 : -9223372036854775808 ≤ p.2 ∧ p.2 ≤ 9223372036854775807) : Calls Tryd.prog 4 #[.slice ad l.length cap, sv p, .int .i64 (k : Int), sv q] w fun e w' => e = .returned (.bool true) ∧ Gr w w' := by
  obtain ⟨l4, hrg⟩ := rcd_ok hc
  have hn1 := hrg.1
  have hn30 : l.length ≤ 30 := by unfold fwP at hf; omega
  have hb := ((h.row 0 (by omega)).2)
  obtain ⟨p1, p2⟩ := p
  obtain ⟨q1, q2⟩ := q
  have HG := ((Gr.refl w).alloc (.cells #[.int .i64 p1, .int .i64 p2] 24)).alloc (.cells #[.int .i64 q1, .int .i64 q2] 24)
  have A1 := (At.new2 w (.int .i64 p1) (.int .i64 p2) 24).alloc (.cells #[.int .i64 q1, .int .i64 q2] 24)
  have A2 := At.nx2 (W := w) (.cells #[.int .i64 p1, .int .i64 p2] 24) (.int .i64 q1) (.int .i64 q2) 24
  have HR := hidb (ringed_any g _ (hl.below HG.out))
  have HF := hidb (few_any ad l.length cap)
  rw [decide_eq_true hf] at HF
  have HE := hidb (fun W (hW : Gr w W) => ringError_any (by omega) W (h.gr hW))
  rw [hc] at HE
  push_cast at HE
  have HLb := hidb hl
  have HS := hidb h
  have HB := hidb hb
  have HRk := hidb (rvK_succ l)
  have HMk := hidb (fun d => mvK_succ d k l)
  have HOK := hidb (rg_ok hrg)
  have HC := hidb hc
  have HP := hidb (show _ ∧ _ from ⟨hp1, hp2⟩)
  dsimp only at HP
  obtain ⟨n, hn⟩ : ∃ n, n = l.length := ⟨_, rfl⟩
  have HX := hidb (fun k (hk : k < n) => h.ix k (by rw [← hn]; exact hk))
  have HNn := hidb hn
  rw [← hn] at HF HX HE HRk HMk hk hn30 hn1 HOK ⊢
  have c1 : ¬ (k : Int) < 0 := by omega
  have c2 : ¬ (n : Int) ≤ (k : Int) := by omega
  have HNk := hidb (show k < n ∧ 3 ≤ n ∧ n ≤ 30 from ⟨hk, hn1, hn30⟩)
  have HGW := hidb HG
  have HA1 := hidb A1
  have HA2 := hidb A2
  clear hl hf h hc hn l4 hrg hk hn1 hn30 hb HG A1 A2 hp1 hp2
  go_enter Tryd.func4, Tryd.ntmps4
  go_wp2_with fail
  refine HR.out.mono ?_
  rintro e w2 ⟨rfl, hB⟩
  replace HGW := hidb (Gr.step HGW.out hB.out)
  replace HA1 := hidb (At.below hB.out HA1.out)
  replace HA2 := hidb (At.below hB.out HA2.out)
  clear hB HR
  go_wp2_with fail
  refine (HF.out _).mono ?_
  rintro e w3 ⟨rfl, rfl⟩
  go_wp2_with fail
  refine (HE.out _ HGW.out).mono ?_
  rintro e w4 ⟨rfl, hB⟩
  replace HGW := hidb (Gr.step HGW.out hB.out)
  replace HA1 := hidb (At.below hB.out HA1.out)
  replace HA2 := hidb (At.below hB.out HA2.out)
  have E0 : Hid (LT w w4 w4.heap.size (p1, p2) (q1, q2) ad b o cap l (.slice none 0 0) (rvK l 0) (.slice none 0 0) (mvK (thM q1, thM q2) k l 0)) :=
    ⟨HA1.out, HA2.out, HS.out.gr HGW.out, Tw.nil _ _, HGW.out, by have := HA2.out.lt; exact this, Nat.le_refl _, Nat.lt_of_lt_of_le HB.out HGW.out.out.size⟩
  clear hB HF HE HGW HA1 HA2 HB
  go_wp2
  go_loopw [11, 12, 13] (fun v u t wr => ∃ (i : Nat), i ≤ n ∧ t = .int .i64 (i : Int) ∧ Hid (LT w wr w4.heap.size (p1, p2) (q1, q2) ad b o cap l v (rvK l i) u (mvK (thM q1, thM q2) k l i))) (fun _ _ t _ => n - (intOf t).toNat)
  case atStart => exact ⟨0, Nat.zero_le _, rfl, E0⟩
  case round =>
    clear E0
    obtain ⟨i, hi, rfl, E⟩ := hrel
    obtain ⟨ad1, cap1, e1⟩ := own_sh E.out.tw.r1
    obtain ⟨ad2, cap2, e2⟩ := own_sh E.out.tw.r2
    rw [rvK_len] at e1
    rw [mvK_len] at e2
    subst e1 e2
    by_cases h1 : ¬ i < n
    · have h1' : ¬ (i : Int) < (n : Int) := by omega
      obtain rfl : i = n := by omega
      clear h1
      have hlen := HNn.out
      have hR : rvK l i = rvL l := by unfold rvK rvL; rw [hlen]
      have hM : mvK (thM q1, thM q2) k l i = mvL (thM q1, thM q2) k l := by unfold mvK mvL; rw [hlen]
      rw [hR, hM] at E
      have hRl : (rvL l).length = i := by rw [rvL_len, hlen]
      have hMl : (mvL (thM q1, thM q2) k l).length = i := by rw [mvL_len, hlen]
      obtain ⟨ad1', b1, cap1', hv1, S1⟩ := own_ssl E.out.tw.r1 rfl
      rw [hRl] at hv1
      cases hv1
      obtain ⟨ad2', b2, cap2', hv2, S2⟩ := own_ssl E.out.tw.r2 rfl
      rw [hMl] at hv2
      cases hv2
      have hl1 : 1 ≤ l.length := by have := HNk.out; omega
      have hRc := rcd_rv HC.out
      have hbd := eg_bd HC.out (by have := HNk.out; omega)
      have f1 := sw_rv hl1
      have f2 := sw_mvL hl1 (thM q1, thM q2) k
      have f3 := wh_rv hl1 (p1, p2)
      have f4 := wh_mvL hl1 (thM q1, thM q2) k (p1, p2)
      have hd1 := thM_bd q1
      have hd2 := thM_bd q2
      obtain ⟨z1, hz1⟩ : ∃ z, z = IntKind.i64.wrap (p1 + thM q1) := ⟨_, rfl⟩
      obtain ⟨z2, hz2⟩ : ∃ z, z = IntKind.i64.wrap (p2 + thM q2) := ⟨_, rfl⟩
      have hzz : okS (p1, p2) → (z1, z2) = mv (thM q1, thM q2) (p1, p2) := fun ho => by
        unfold okS okC at ho
        dsimp only at ho
        rw [hz1, hz2, wr_in (by omega) (by omega), wr_in (by omega) (by omega)]
        rfl
      obtain ⟨d1, hd1e⟩ : ∃ d, d = thM q1 := ⟨_, rfl⟩
      obtain ⟨d2, hd2e⟩ : ∃ d, d = thM q2 := ⟨_, rfl⟩
      have t1 : q1.tmod 1000 = d1 := by rw [hd1e]; rfl
      have t2 : q2.tmod 1000 = d2 := by rw [hd2e]; rfl
      have u1 : IntKind.i64.wrap (p1 + d1) = z1 := by rw [hd1e]; exact hz1.symm
      have u2 : IntKind.i64.wrap (p2 + d2) = z2 := by rw [hd2e]; exact hz2.symm
      have HL0 : Hid (LE w (wr.alloc (.cells #[.int .i64 z1, .int .i64 z2] 24)) wr.heap.size (p1, p2) (z1, z2) ad b o cap l ad1 b1 cap1 (rvL l) ad2 b2 cap2 (mvL (thM q1, thM q2) k l)) :=
        ⟨E.out.p.alloc _, At.new2 _ _ _ _, (E.out.alloc _).s, S1.below ((Below.refl _ _).alloc (Nat.le_refl _) _), S2.below ((Below.refl _ _).alloc (Nat.le_refl _) _), E.out.gr.alloc _⟩
      obtain ⟨a0, a1⟩ := E.out.p.c2
      obtain ⟨a2, a3⟩ := E.out.q.c2
      have HZZ := hidb hzz
      have HRc := hidb hRc
      have Hbd := hidb hbd
      have HF1 := hidb f1
      have HF2 := hidb f2
      have HF3 := hidb f3
      have HF4 := hidb f4
      have HLen := hidb (show l.length = i ∧ (rvL l).length = i ∧ (mvL (thM q1, thM q2) k l).length = i from ⟨hlen.symm, hRl, hMl⟩)
      generalize mvL (thM q1, thM q2) k l = M at *
      generalize rvL l = R at *
      clear hlen hR hM hRl hMl S1 S2 hl1 hRc hbd f1 f2 f3 f4 hd1 hd2 hz1 hz2 hzz hd1e hd2e
      go_upto_region 14 with fail
      clear a0 a1 a2 a3
      generalize wr.alloc (.cells #[.int .i64 z1, .int .i64 z2] 24) = w5 at *
      obtain ⟨a0, a1⟩ := HL0.out.p.c2
      go_wp2_with fail
      refine (isPlace_any (p1, p2) _).mono ?_
      rintro e w6 ⟨rfl, hB⟩
      replace HL0 := hidb (HL0.out.below hB.out)
      clear hB a0 a1
      obtain ⟨a0, a1⟩ := HL0.out.z.c2
      go_wp2_with fail
      refine (isPlace_any (z1, z2) _).mono ?_
      rintro e w7 ⟨rfl, hB⟩
      replace HL0 := hidb (HL0.out.below hB.out)
      clear hB a0 a1
      have HRE := hidb (fun W (hW : SSl W ad2 b2 0 cap2 M) => ringError_any (by have := HLen.out; have := HNk.out; omega) W hW)
      rw [HLen.out.2.2] at HRE
      by_cases c3 : rcd M = 0
      · rw [c3] at HRE
        push_cast at HRE
        have HC3 := hidb c3
        clear c3
        by_cases c4 : okS (p1, p2)
        · rw [decide_eq_true c4]
          have HC4 := hidb c4
          by_cases c5 : okS (z1, z2)
          · rw [decide_eq_true c5]
            have HC5 := hidb c5
            have hz := HZZ.out c4
            clear c4 c5
            have HAl := hidb (fun W (hW : LE w W wr.heap.size (p1, p2) (z1, z2) ad b o cap l ad1 b1 cap1 R ad2 b2 cap2 M) => area_ok g HC.out W hW.s (HLb.out.below hW.gr.out))
            have HAr := hidb (fun W (hW : LE w W wr.heap.size (p1, p2) (z1, z2) ad b o cap l ad1 b1 cap1 R ad2 b2 cap2 M) => area_ok g HRc.out W hW.r (HLb.out.below hW.gr.out))
            have HAm := hidb (fun W (hW : LE w W wr.heap.size (p1, p2) (z1, z2) ad b o cap l ad1 b1 cap1 R ad2 b2 cap2 M) => area_ok g HC3.out W hW.m (HLb.out.below hW.gr.out))
            have HWl := hidb (fun W (hW : LE w W wr.heap.size (p1, p2) (z1, z2) ad b o cap l ad1 b1 cap1 R ad2 b2 cap2 M) => where_ok g HC.out _ HC4.out W hW.s (HLb.out.below hW.gr.out))
            have HWr := hidb (fun W (hW : LE w W wr.heap.size (p1, p2) (z1, z2) ad b o cap l ad1 b1 cap1 R ad2 b2 cap2 M) => where_ok g HRc.out _ HC4.out W hW.r (HLb.out.below hW.gr.out))
            have HWm := hidb (fun W (hW : LE w W wr.heap.size (p1, p2) (z1, z2) ad b o cap l ad1 b1 cap1 R ad2 b2 cap2 M) => where_ok g HC3.out _ HC5.out W hW.m (HLb.out.below hW.gr.out))
            have f1 := HF1.out
            have f4 := HF4.out
            rw [← hz] at f4
            rw [HLen.out.1] at HAl HWl
            rw [HLen.out.2.1] at HAr HWr
            rw [HLen.out.2.2] at HAm HWm
            rw [HF2.out] at HAm
            rw [HF3.out] at HWr
            rw [f4] at HWm
            obtain ⟨nA, hnA⟩ : ∃ nA, nA = - sw (eg l) := ⟨_, rfl⟩
            rw [f1, ← hnA] at HAr
            have hw : IntKind.i64.wrap (- sw (eg l)) = nA := by rw [hnA]; exact wr_in (by have := Hbd.out; omega) (by have := Hbd.out; omega)
            generalize sw (eg l) = A at *
            generalize whP (eg l) (p1, p2) = V at *
            clear f1 f4 hz hnA HF1 HF2 HF3 HF4 Hbd
            go_wp2_with fail
            refine (HRE.out _ HL0.out.m).mono ?_
            rintro e w8 ⟨rfl, hB⟩
            replace HL0 := hidb (HL0.out.below hB.out)
            clear hB
            go_wp2_with fail
            refine (HAl.out _ HL0.out).mono ?_
            rintro e w9 ⟨rfl, hB⟩
            replace HL0 := hidb (HL0.out.below hB.out)
            clear hB
            go_wp2_with fail
            refine (HAr.out _ HL0.out).mono ?_
            rintro e w10 ⟨rfl, hB⟩
            replace HL0 := hidb (HL0.out.below hB.out)
            clear hB
            go_wp2_with fail
            refine (HAm.out _ HL0.out).mono ?_
            rintro e w11 ⟨rfl, hB⟩
            replace HL0 := hidb (HL0.out.below hB.out)
            clear hB
            obtain ⟨a0, a1⟩ := HL0.out.p.c2
            go_wp2_with fail
            refine (HWl.out _ HL0.out).mono ?_
            rintro e w12 ⟨rfl, hB⟩
            replace HL0 := hidb (HL0.out.below hB.out)
            clear hB a0 a1
            obtain ⟨a0, a1⟩ := HL0.out.p.c2
            go_wp2_with fail
            refine (HWr.out _ HL0.out).mono ?_
            rintro e w13 ⟨rfl, hB⟩
            replace HL0 := hidb (HL0.out.below hB.out)
            clear hB a0 a1
            obtain ⟨a0, a1⟩ := HL0.out.z.c2
            go_wp2_with fail
            refine (HWm.out _ HL0.out).mono ?_
            rintro e w14 ⟨rfl, hB⟩
            replace HL0 := hidb (HL0.out.below hB.out)
            clear hB a0 a1
            go_wp2
            go_ret
            exact ⟨rfl, HL0.out.gr⟩
          · rw [decide_eq_false c5]
            clear c4 c5
            go_wp2_with fail
            refine (HRE.out _ HL0.out.m).mono ?_
            rintro e w8 ⟨rfl, hB⟩
            replace HL0 := hidb (HL0.out.below hB.out)
            clear hB
            go_wp2
            go_ret
            exact ⟨rfl, HL0.out.gr⟩
        · rw [decide_eq_false c4]
          clear c4
          generalize decide (okS (z1, z2)) = bz
          go_wp2_with fail
          refine (HRE.out _ HL0.out.m).mono ?_
          rintro e w8 ⟨rfl, hB⟩
          replace HL0 := hidb (HL0.out.below hB.out)
          clear hB
          go_wp2
          go_ret
          exact ⟨rfl, HL0.out.gr⟩
      · have c3' : (0 : Int) < (rcd M : Int) := by omega
        clear c3
        generalize (rcd M : Int) = rM at *
        generalize decide (okS (z1, z2)) = bz
        generalize decide (okS (p1, p2)) = bp
        go_wp2_with fail
        refine (HRE.out _ HL0.out.m).mono ?_
        rintro e w8 ⟨rfl, hB⟩
        replace HL0 := hidb (HL0.out.below hB.out)
        clear hB
        go_wp2
        go_ret
        exact ⟨rfl, HL0.out.gr⟩
    · have h1' : (i : Int) < (n : Int) := by omega
      have HIN := hidb (show i < n by omega)
      have hn0 : ¬ n = 0 := by omega
      have hn0' : ¬ (n : Int) = 0 := by omega
      obtain ⟨j, hj⟩ : ∃ j, j = n - 1 - i := ⟨_, rfl⟩
      obtain ⟨s1, hs1⟩ : ∃ s : Int, s = (n : Int) - 1 := ⟨_, rfl⟩
      have w1 : IntKind.i64.wrap ((n : Int) - 1) = s1 := by rw [hs1]; exact wr_in (by have := HNk.out; omega) (by have := HNk.out; omega)
      have w2' : IntKind.i64.wrap (s1 - (i : Int)) = (j : Int) := by rw [hs1, show (n : Int) - 1 - (i : Int) = (j : Int) by omega]; exact wr_in (by omega) (by have := HNk.out; omega)
      obtain ⟨s2, hs2⟩ : ∃ s : Int, s = (i : Int) + (k : Int) := ⟨_, rfl⟩
      have w3' : IntKind.i64.wrap ((i : Int) + (k : Int)) = s2 := by rw [hs2]; exact wr_in (by omega) (by have := HNk.out; omega)
      obtain ⟨m, hm⟩ : ∃ m, m = (i + k) % n := ⟨_, rfl⟩
      have w4' : s2.tmod (n : Int) = (m : Int) := by rw [hs2, hm, Int.tmod_eq_emod_of_nonneg (by omega)]; push_cast; rfl
      have e1 : IntKind.i64.wrap ((i : Int) + 1) = ((i + 1 : Nat) : Int) := by rw [show (i : Int) + 1 = ((i + 1 : Nat) : Int) by omega]; exact wr_in (by omega) (by have := HNk.out; omega)
      have HE1 := hidb e1
      have hjn : j < n := by omega
      have hmn : m < n := by rw [hm]; exact Nat.mod_lt _ (by omega)
      have HRi := hidb (HRk.out i)
      have HMi := hidb (HMk.out (thM q1, thM q2) i)
      rw [← hj] at HRi
      rw [← hm] at HMi
      have ix := HX.out j hjn
      have ixm := HX.out m hmn
      have HCj := hidb (fun W (hW : SSl W ad b o cap l) => (hW.row j (by rw [← HNn.out]; exact hjn)).1)
      have HCm := hidb (fun W (hW : SSl W ad b o cap l) => (hW.row m (by rw [← HNn.out]; exact hmn)).1)
      have hokm := HOK.out m hmn
      have HL1 := hidb (rvK_len l i)
      have HL2 := hidb (mvK_len (thM q1, thM q2) k l i)
      obtain ⟨c0, c1⟩ := HCj.out _ E.out.s
      have hd1 := thM_bd q1
      have hd2 := thM_bd q2
      obtain ⟨d1, hd1e⟩ : ∃ d, d = thM q1 := ⟨_, rfl⟩
      obtain ⟨d2, hd2e⟩ : ∃ d, d = thM q2 := ⟨_, rfl⟩
      have t1 : q1.tmod 1000 = d1 := by rw [hd1e]; rfl
      have t2 : q2.tmod 1000 = d2 := by rw [hd2e]; rfl
      rw [← hd1e, ← hd2e] at E HMi HL2
      rw [← hd1e] at hd1
      rw [← hd2e] at hd2
      have HD := hidb (show d1 = thM q1 ∧ d2 = thM q2 from ⟨hd1e, hd2e⟩)
      generalize sx l j = x at *
      generalize sx l m = y at *
      obtain ⟨x1, x2⟩ := x
      obtain ⟨y1, y2⟩ := y
      obtain ⟨z1, hz1⟩ : ∃ z, z = y1 + d1 := ⟨_, rfl⟩
      obtain ⟨z2, hz2⟩ : ∃ z, z = y2 + d2 := ⟨_, rfl⟩
      have v1 : IntKind.i64.wrap (y1 + d1) = z1 := by rw [hz1]; exact wr_in (by unfold okS okC at hokm; omega) (by unfold okS okC at hokm; omega)
      have v2 : IntKind.i64.wrap (y2 + d2) = z2 := by rw [hz2]; exact wr_in (by unfold okS okC at hokm; omega) (by unfold okS okC at hokm; omega)
      have HMi2 : Hid (mvK (d1, d2) k l (i + 1) = mvK (d1, d2) k l i ++ [(z1, z2)]) := by show _ = _; rw [HMi.out, hz1, hz2]; rfl
      have HI30 := hidb (show i ≤ 10000 by have := HNk.out; omega)
      dsimp only at c0 c1
      clear h1 hj hs1 hs2 hm e1 hjn hmn hokm hd1 hd2 hd1e hd2e hz1 hz2 HMi
      go_upto_region 12 with (at_builtin; refine wpList_s2 _ w4.heap.size (.slice ad1 i cap1) (rvK l i) (x1, x2) i wr.heap.size _ _ rfl rfl rfl rfl HL1.out HI30.out (by have := E.out.tw.r1; rw [HL1.out] at this; exact this.alloc _) (At.new2 _ _ _ _) (by have := E.out.lt; simp; omega) ?_; intro g1 cap3 w5 hown hgrow hat; have E2 := hidb ((E.out.alloc _).app1 HL1.out hown.out hgrow.out hat.out); rw [← HRi.out] at E2; clear hown hgrow hat E c0 c1 ix; obtain ⟨c0, c1⟩ := HCm.out _ E2.out.s)
      have E3 := hidb (E2.out.alloc (.cells #[.int .i64 y1, .int .i64 y2] 24))
      have FY := At.new2 w5 (.int .i64 y1) (.int .i64 y2) 24
      clear c0 c1 E2
      generalize w5.alloc (.cells #[.int .i64 y1, .int .i64 y2] 24) = w6 at *
      obtain ⟨f0, f1⟩ := FY.c2
      obtain ⟨b0, b1⟩ := E3.out.q.c2
      have e1 := HE1.out
      go_wp2_with (at_builtin; refine wpList_s2 _ w4.heap.size (.slice ad2 i cap2) (mvK (d1, d2) k l i) (z1, z2) i w6.heap.size _ _ rfl rfl rfl rfl HL2.out HI30.out (by have := E3.out.tw.r2; rw [HL2.out] at this; exact this.alloc _) (At.new2 _ _ _ _) (by have := E3.out.lt; simp; omega) ?_; intro g2 cap4 w7 hown hgrow hat; have E4 := hidb ((E3.out.alloc _).app2 HL2.out hown.out hgrow.out hat.out); rw [← HMi2.out, HD.out.1, HD.out.2] at E4; clear hown hgrow hat E3 f0 f1 b0 b1 FY)
      go_roundw
      case rel => exact ⟨_, _, _, ⟨i + 1, HIN.out, by go_num, E4⟩, rfl, rfl, rfl⟩
      case measure => have := HIN.out; simp [intOf]; omega
theorem shapeTurned_law (g : Nat → Addr) (ad : Option Addr) (n cap : Nat) (p1 p2 : Int) (k : Int) (q1 q2 : Int) (w : World) (hl : Lb w g) (ha : SArg w ad n cap) (hp1 : -9223372036854775808 ≤ p1 ∧ p1 ≤ 9223372036854775807) (hp2 : -9223372036854775808 ≤ p2 ∧ p2 ≤ 9223372036854775807) : Calls Tryd.prog 4 #[.slice ad n cap, .agg #[.int .i64 p1, .int .i64 p2], .int .i64 k, .agg #[.int .i64 q1, .int .i64 q2]] w fun e w' => e = .returned (.bool true) ∧ Gr w w' := by
  obtain ⟨b, o, l, rfl, hs⟩ := ha
  by_cases c1 : fwP l.length
  · by_cases c2 : rcd l = 0
    · by_cases c3 : k < 0 ∨ (l.length : Int) ≤ k
      · exact turned_out g ad b o cap l (p1, p2) (q1, q2) k w hl hs c1 c2 c3
      · obtain ⟨m, rfl⟩ : ∃ m : Nat, k = (m : Int) := ⟨k.toNat, by omega⟩
        exact turned_ok g ad b o cap l (p1, p2) (q1, q2) m w hl hs c1 c2 (by omega) hp1 hp2
    · exact turned_bad g ad b o cap l (p1, p2) (q1, q2) k w hl hs c1 c2
  · exact turned_few g ad l.length cap (p1, p2) (q1, q2) k w hl c1
end Go.Proofs.YtnhehehbidhlcaaDoor
