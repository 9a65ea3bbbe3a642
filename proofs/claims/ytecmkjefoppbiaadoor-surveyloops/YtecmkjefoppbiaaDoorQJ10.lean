/-
  whole.compare.; whole.sum, whole.difference.; whole.difference, whole.product.
-/
import Derived.Test.YtecmkjefoppbiaaDoorQWhA
import Derived.Deep.QuietTactic
import Derived.BigQuiet
import Derived.Deep.CutRange
import Derived.Test.YtecmkjefoppbiaaDoorQJ9
import Derived.Laws.CopyOwn
namespace Go.Proofs.YtecmkjefoppbiaaDoor
open Go.RowKit WH

set_option maxRecDepth 4000 in
set_option maxHeartbeats 4000000 in
theorem wcmp_len (ad bd : Option Addr) (m n ca cb la lb : Nat) (h : la ≠ lb) (_h1 : la ≤ 1000) (_h2 : lb ≤ 1000) (hl : (la < lb → m < n) ∧ (lb < la → n < m)) (w : World) : Calls Tryd.prog 53 #[.slice ad la ca, .slice bd lb cb] w fun e w' => e = .returned (.int .i64 (cm m n)) ∧ Gr w w' := by
  by_cases c : la < lb
  · have HE : Hid (cm m n = -1) := by unfold cm Hid; rw [if_pos (hl.1 c)]
    clear hl
    go_enter Tryd.func53, Tryd.ntmps53
    go_wp2
    go_ret
    exact ⟨by rw [HE.out]; rfl, Gr.refl _⟩
  · have HE : Hid (cm m n = 1) := by
      have := hl.2 (by omega)
      unfold cm Hid; rw [if_neg (by omega), if_pos this]
    clear hl
    go_enter Tryd.func53, Tryd.ntmps53
    go_wp2
    go_ret
    exact ⟨by rw [HE.out]; rfl, Gr.refl _⟩
set_option maxRecDepth 4000 in
set_option maxHeartbeats 4000000 in
theorem wcmp_same (ad bd : Option Addr) (ba bb : Nat) (a b : List Nat) (ca cb : Nat) (hda : Dg a) (hdb : Dg b) (la : a.length ≤ 1000) (hlen : a.length = b.length) (w : World) (ra : Rd w w.heap.size ad ba ca a) (rb : Rd w w.heap.size bd bb cb b) :
    Calls Tryd.prog 53 #[.slice ad a.length ca, .slice bd b.length cb] w fun e w' => e = .returned (.int .i64 (cm (dv a) (dv b))) ∧ Gr w w' := by
  have HA := hidb hda
  have HB := hidb hdb
  have RA := hidb ra
  have RB := hidb rb
  clear rb ra hda hdb
  obtain ⟨n, hn⟩ : ∃ n, n = a.length := ⟨_, rfl⟩
  have hnb : b.length = n := by omega
  rw [← hn, hnb]
  have HN := hidb hn
  have HNB := hidb hnb
  rw [← hn] at la
  clear hn hnb hlen
  go_enter Tryd.func53, Tryd.ntmps53
  go_wp2
  go_loopw [5] (fun t wr => ∃ k : Nat, k ≤ n ∧ Hid (a.drop k = b.drop k) ∧ t = .int .i64 ((k : Int) - 1) ∧ Hid (Gr w wr)) (fun t _ => (intOf t + 1).toNat)
  case atStart => exact ⟨n, Nat.le_refl _, by show a.drop n = b.drop n; rw [List.drop_of_length_le (by rw [HN.out]; exact Nat.le_refl _), List.drop_of_length_le (by rw [HNB.out]; exact Nat.le_refl _)], rfl, Gr.refl _⟩
  case round =>
    obtain ⟨k, hk, HD, rfl, HG⟩ := hrel
    rcases Nat.eq_zero_or_pos k with rfl | hp
    · have HE : Hid (cm (dv a) (dv b) = 0) := by
        have : a = b := by simpa using HD.out
        unfold cm Hid; rw [this, if_neg (by omega), if_neg (by omega)]
      clear HD RA RB HA HB HN HNB
      go_wp2
      go_ret
      exact ⟨by rw [HE.out]; rfl, HG.out⟩
    · obtain ⟨j, rfl⟩ : ∃ j, k = j + 1 := ⟨k - 1, by omega⟩
      have h1 : j < a.length := by rw [← HN.out]; omega
      have h2 : j < b.length := by rw [HNB.out]; omega
      have ho : Onl w.heap.size w wr := ⟨HG.out.1, HG.out.2, HG.out.3, HG.out.4, fun k hk _ => HG.out.5 k hk⟩
      have cella := RA.out.cell h1 ho
      have cellb := RB.out.cell h2 ho
      have ixa := RA.out.ix j h1
      have ixb := RB.out.ix j h2
      rw [← HN.out] at ixa
      rw [HNB.out] at ixb
      have ej : ((j + 1 : Nat) : Int) - 1 = (j : Int) := by omega
      rw [ej]
      have HC1 : Hid (a[j] < b[j] → cm (dv a) (dv b) = -1) := fun h => by
        unfold cm; rw [if_pos (dv_cmp HA.out HB.out h1 h2 HD.out h)]
      have HC2 : Hid (b[j] < a[j] → cm (dv a) (dv b) = 1) := fun h => by
        have := dv_cmp HB.out HA.out h2 h1 HD.out.symm h
        unfold cm; rw [if_neg (by omega), if_pos this]
      have HC3 : Hid (a[j] = b[j] → a.drop j = b.drop j) := fun h => drop_step h1 h2 HD.out h
      have hj0 : (0 : Int) ≤ (j : Int) := by omega
      clear HD RA RB HA HB HN HNB ho
      generalize a[j] = x at *
      generalize b[j] = y at *
      by_cases c1 : x < y
      · have HE := hidb (HC1.out c1)
        go_upto_region 8 with fail
        go_quiet (fail)
        go_wp2_with fail
        go_quiet (fail)
        go_wp2
        go_ret
        exact ⟨by rw [HE.out]; rfl, (HG.out.drewN _).drewN _⟩
      · by_cases c2 : y < x
        · have HE := hidb (HC2.out c2)
          go_upto_region 8 with fail
          go_quiet (fail)
          go_wp2_with fail
          go_quiet (fail)
          go_wp2
          go_ret
          exact ⟨by rw [HE.out]; rfl, (HG.out.drewN _).drewN _⟩
        · have hxy : x = y := by omega
          have HE := hidb (HC3.out hxy)
          subst hxy
          go_upto_region 8 with fail
          go_quiet (fail)
          go_wp2
          go_roundw
          case rel => exact ⟨j, by omega, HE.out, by go_num, HG.out.drewN _⟩
          case measure => simp [intOf]
theorem wlen_lt {m n : Nat} (h : (dn m).length < (dn n).length) : m < n := by
  rcases Nat.lt_or_ge m n with c | c
  · exact c
  · have := dn_len_mono c; omega
/-- How great the numbers are that are spoken of. -/
def wlid : Nat := 18446744073709551616 ^ 100
theorem wlid_len {n : Nat} (h : n < wlid) : (dn n).length ≤ 100 := dn_len_le h
theorem wcmp_any {w : World} {u v : Value} {m n : Nat} (lm : m < wlid) (ln : n < wlid) (ha : Pt w u (dn m)) (hb : Pt w v (dn n)) : Calls Tryd.prog 53 #[u, v] w fun e w' => e = .returned (.int .i64 (cm m n)) ∧ Gr w w' := by
  obtain ⟨ad, ba, ca, rfl, ra⟩ := ha.rd0
  obtain ⟨bd, bb, cb, rfl, rb⟩ := hb.rd0
  have l1 := wlid_len lm
  have l2 := wlid_len ln
  by_cases c : (dn m).length = (dn n).length
  · have := wcmp_same ad bd ba bb (dn m) (dn n) ca cb (dn_dg m) (dn_dg n) (by omega) c w ra rb
    rw [dv_dn, dv_dn] at this
    exact this
  · exact wcmp_len ad bd m n ca cb _ _ c (by omega) (by omega) ⟨fun h => wlen_lt h, fun h => wlen_lt h⟩ w
end Go.Proofs.YtecmkjefoppbiaaDoor
namespace Go.Proofs.YtecmkjefoppbiaaDoor
open Go.RowKit WH

theorem infoU : (Tryd.prog.info? 105).map (fun i => (i.zero, i.size, i.bytes)) = some (some (.int .u64 0), 1, 8) := by kernel_rfl
theorem undU : Tryd.prog.underlying 63 = some (.slice 105) := by kernel_rfl
theorem sizeU : (Tryd.prog.info? 105).map (·.size) = some 1 := by kernel_rfl
/-- The words are all that lies in the block. -/
def Blk (w : World) (g : Nat) (L : List Nat) : Prop := w.heap[g]? = some (.cells (us L).toArray 105 (0, 0))
theorem Blk.at {w : World} {g : Nat} {L : List Nat} (h : Blk w g L) : At w g (us L) := by
  have hlt : g < w.heap.size := by
    rcases Nat.lt_or_ge g w.heap.size with c | c
    · exact c
    · unfold Blk at h; rw [Array.getElem?_eq_none c] at h; cases h
  unfold Blk at h
  refine ⟨fun i hi => ?_, hlt⟩
  have hi' : i < L.length := by simpa using hi
  constructor
  · simp [World.cell?, h, hi']
  · simp [World.frozen?, h]
theorem own_blk {w : World} {base g n : Nat} {L : List Nat} (h : w.ownsRow base 105 1 (.slice (some ⟨g, 0, none⟩) n n) n (us L)) : Blk w g L := by
  obtain ⟨h1, h2⟩ := h
  rcases h2 with ⟨h2, _⟩ | ⟨g', cap, cur, hv, hb, hg, h3, h4, h5, h6⟩
  · cases h2
  · cases hv
    have : cur.toList = us L := by
      rw [← h6, List.take_of_length_le (by simp; omega)]
    show w.heap[g]? = _
    rw [hg, ← this]
theorem made_us (n : Nat) : (madeCells #[Value.int .u64 0] n).toList = us (List.replicate n 0) := by rw [toList_madeCells_one]; simp [us]
theorem splice_us (a : List Nat) (n : Nat) (_h : a.length ≤ n) : splice (us (List.replicate n 0)) 0 (us a) = us (a ++ List.replicate (n - a.length) 0) := by
  simp [splice, us]
theorem dv_pad (a : List Nat) (k : Nat) : dv (a ++ List.replicate k 0) = dv a := by rw [WH.dv_append, WH.dv_replicate]; simp
theorem dg_pad {a : List Nat} (h : Dg a) (k : Nat) : Dg (a ++ List.replicate k 0) := by
  intro d hd
  rcases List.mem_append.1 hd with hd | hd
  · exact h d hd
  · exact dg_replicate k d hd
theorem ones_us (l : List Nat) : ∀ u ∈ us l, u.oneCell' = true := by
  intro u hu
  obtain ⟨x, _, rfl⟩ := List.mem_map.1 hu
  rfl
/-- What copy wants to know of where it reads. -/
theorem Pt.src {w : World} {ad : Option Addr} {cap : Nat} {l : List Nat} (h : Pt w (.slice ad l.length cap) l) : 0 < l.length → ∃ a, ad = some a ∧ ∀ (j x : Nat), l[j]? = some x → w.cell? (a.add j) = some (.int .u64 (x : Int)) := by
  intro h0
  rcases h with ⟨_, rfl⟩ | ⟨b, cap', e, _, _, hr⟩
  · simp at h0
  · cases e
    refine ⟨_, rfl, fun j v hv => ?_⟩
    have hadd : (⟨b, 0, none⟩ : Addr).add j = ⟨b, j, none⟩ := by unfold Addr.add; split <;> simp_all
    obtain ⟨hj, rfl⟩ := List.getElem?_eq_some_iff.1 hv
    rw [hadd]
    exact hr.1 j hj
theorem sum_core {M A B P R c : Nat} (s : M + R * c = A + B) (hR : 2 * P ≤ R) (hA : A < P) (hB : B < P) (hc : c ≤ 1) : M = A + B := by
  rcases Nat.eq_zero_or_pos c with h | h
  · rw [h] at s; omega
  · obtain h : c = 1 := by omega
    rw [h] at s; omega
theorem pow_two {n : Nat} (h : 1 ≤ n) : 2 * 18446744073709551616 ^ (n - 1) ≤ 18446744073709551616 ^ n := by
  obtain ⟨m, rfl⟩ : ∃ m, n = m + 1 := ⟨n - 1, by omega⟩
  rw [Nat.pow_succ, Nat.mul_comm, Nat.add_sub_cancel]
  exact Nat.mul_le_mul_left _ (by decide)
theorem pw_mono {m n : Nat} (h : m ≤ n) : 18446744073709551616 ^ m ≤ 18446744073709551616 ^ n := Nat.pow_le_pow_right (by decide) h
theorem sum_end {a b M : List Nat} {n c : Nat} (ha : Dg a) (hb : Dg b) (la : a.length + 1 ≤ n) (lb : b.length + 1 ≤ n) (hc : c ≤ 1) (h : AddI (a ++ List.replicate (n - a.length) 0) b M 0 n c) : dv M = dv a + dv b := by
  have s := h.sum
  rw [dv_pad, List.take_of_length_le (by omega), Nat.zero_add, Nat.pow_zero, Nat.one_mul] at s
  exact sum_core s (pow_two (n := n) (by omega)) (Nat.lt_of_lt_of_le (dv_lt ha) (pw_mono (by omega))) (Nat.lt_of_lt_of_le (dv_lt hb) (pw_mono (by omega))) hc
set_option maxRecDepth 4000 in
set_option maxHeartbeats 4000000 in
theorem wsum_gen {w : World} {u v : Value} {a b : List Nat} {n : Nat} (hda : Dg a) (hdb : Dg b) (la : a.length ≤ 500) (lb : b.length ≤ 500) (ha : Pt w u a) (hb : Pt w v b) (hn : (a.length : Int) < (b.length : Int) ∧ n = b.length + 1 ∨ ¬ (a.length : Int) < (b.length : Int) ∧ n = a.length + 1) : Calls Tryd.prog 52 #[u, v] w fun e w' => ∃ r, e = .returned r ∧ Pt w' r (dn (dv a + dv b)) ∧ Gr w w' := by
  obtain ⟨ad, ca, rfl⟩ := ha.form
  have HS := hidb (fun w' (h : Below w.heap.size w w') => (ha.below h).src)
  obtain ⟨bd, bb, cb, rfl, rb⟩ := hb.rd0
  have RB := hidb rb
  have HA := hidb hda
  have HB := hidb hdb
  obtain ⟨i0, hi, hz0, hz1, hz2⟩ := info_parts infoU
  have n1 : a.length + 1 ≤ n := by omega
  have n2 : b.length + 1 ≤ n := by omega
  have n3 : n ≤ 501 := by omega
  clear ha hb rb hda hdb
  rcases hn with ⟨c, hn⟩ | ⟨c, hn⟩
  all_goals
    have HN := hidb hn
    clear hn
    go_enter Tryd.func52, Tryd.ntmps52
    go_wp2_with (refine wpList_make_full _ rfl _ _ 63 rfl w.heap.size 105 i0 (.int .u64 0) 1 undU hi hz0 hz1 .i64 .i64 _ _ n rfl rfl ?e1 ?e2 (by rw [hz2]; omega) (by unfold maxLen; omega) (Nat.le_refl _) ?_)
    case e1 => have := HN.out; omega
    case e2 => have := HN.out; omega
    intro w1 hown hgrow
    have HG : Hid (Below w.heap.size w w1) := (Below.refl _ _).grown hgrow (Nat.le_refl _) (by intro k hk; cases hk)
    have HK : Hid (Blk w1 w.heap.size (List.replicate n 0)) := by
      rw [made_us] at hown
      exact own_blk hown
    clear hown hgrow
    go_wp2_with (refine wpList_copy_splice rfl _ _ 63 63 rfl 105 undU sizeU _ _ _ _ _ _ rfl rfl w.heap.size 0 (us (List.replicate n 0)) 105 HK.out (us a) ?f1 ?f2 ?f3 (ones_us a) w.heap.size w HG.out (Nat.le_refl _) ?_)
    case f1 => have := Nat.min_eq_left (show a.length ≤ n by omega); simp [us]; exact this.symm
    case f2 =>
      intro h0
      exact HS.out w1 HG.out h0
    case f3 => simp [us]; omega
    intro w2 hk2 hB2
    rw [show List.replicate n (Value.int .u64 0) = us (List.replicate n 0) by simp [us], splice_us a n (by omega)] at hk2
    have HK2 : Hid (At w2 w.heap.size (us (a ++ List.replicate (n - a.length) 0))) := Blk.at hk2.out
    have HG2 := hidb hB2
    clear hk2 hB2 HK HG HS
    have HR2 : Hid (Rd w2 w.heap.size bd bb cb b) := by
      refine ⟨?_, RB.out.ix⟩
      rcases RB.out.row with ⟨h1, h2⟩ | h
      · exact .inl ⟨h1.below HG2.out, h2⟩
      · exact .inr h
    go_wp2_with fail
    refine (wadd_gen (some ⟨w.heap.size, 0, none⟩) bd w.heap.size 0 n n bb cb _ b w2 HK2.out (dg_pad HA.out _) HB.out (by simp; omega) (by omega) (by omega) HR2.out (fun k hk w' => uindex w.heap.size 0 n n k hk w')).mono ?_
    rintro e w3 ⟨M, c, rfl, hc, hA3, hI, hO⟩
    have HI := hidb hI
    have hM := sum_end HA.out HB.out n1 n2 hc HI.out
    have HE := hidb hM
    have ml : M.length = n := by rw [HI.out.like.len]; simp; omega
    have HP : Hid (Pt w3 (.slice (some ⟨w.heap.size, 0, none⟩) n n) M) := .inr ⟨w.heap.size, n, by rw [ml], by omega, by unfold maxLen; omega, hA3.urow⟩
    have HG3 := hidb (Onl.of HG2.out hO (Nat.le_refl _))
    clear hI hM hA3 hO HR2 HK2 HG2
    go_wp2_with fail
    refine (wtrim_any HI.out.dg HP.out).mono ?_
    rintro e w4 ⟨r, rfl, hr, rfl⟩
    rw [HE.out] at hr
    go_wp2
    go_ret
    exact ⟨_, rfl, hr, HG3.out⟩
theorem wsum_any {w : World} {u v : Value} {m n : Nat} (lm : m < wlid) (ln : n < wlid) (ha : Pt w u (dn m)) (hb : Pt w v (dn n)) : Calls Tryd.prog 52 #[u, v] w fun e w' => ∃ r, e = .returned r ∧ Pt w' r (dn (m + n)) ∧ Gr w w' := by
  have l1 := wlid_len lm
  have l2 := wlid_len ln
  by_cases c : ((dn m).length : Int) < ((dn n).length : Int)
  · have := wsum_gen (dn_dg m) (dn_dg n) (by omega) (by omega) ha hb (.inl ⟨c, rfl⟩)
    rw [dv_dn, dv_dn] at this
    exact this
  · have := wsum_gen (dn_dg m) (dn_dg n) (by omega) (by omega) ha hb (.inr ⟨c, rfl⟩)
    rw [dv_dn, dv_dn] at this
    exact this
end Go.Proofs.YtecmkjefoppbiaaDoor
namespace Go.Proofs.YtecmkjefoppbiaaDoor
open Go.RowKit WH

theorem Onl.grown {A : Nat} {w w' : World} (h : w.grownBy w' none) : Onl A w w' := ⟨h.os, h.tape, h.output, h.size, fun k hk _ => h.block k hk (by intro e; cases e)⟩
theorem diff_core {M A B R c : Nat} (s : M + B = A + R * c) (hM : M < R) (hB : B ≤ A) : M = A - B := by
  rcases Nat.eq_zero_or_pos c with h | h
  · rw [h] at s; omega
  · have : R * 1 ≤ R * c := Nat.mul_le_mul_left _ h
    omega
theorem diff_end {a b M : List Nat} {c r : Nat} (lb : b.length ≤ a.length) (hab : dv b ≤ dv a) (h : SubI (a ++ List.replicate (a.length - a.length) 0) b M 1 0 a.length c r) : dv M = dv a - dv b := by
  have s := h.sum
  have h0 := h.one (Nat.le_refl 1)
  rw [dv_pad, List.take_of_length_le lb, Nat.zero_add, Nat.pow_zero, Nat.one_mul, Nat.one_mul, h0, Nat.zero_add] at s
  refine diff_core s ?_ hab
  have := dv_lt h.dg
  rw [h.like.len] at this
  simpa using this
set_option maxRecDepth 4000 in
set_option maxHeartbeats 4000000 in
theorem wdiff_gen {w : World} {u v : Value} {a b : List Nat} (hda : Dg a) (hdb : Dg b) (la : a.length ≤ 500) (lb : b.length ≤ a.length) (hab : dv b ≤ dv a) (ha : Pt w u a) (hb : Pt w v b) : Calls Tryd.prog 54 #[u, v] w fun e w' => ∃ r, e = .returned r ∧ Pt w' r (dn (dv a - dv b)) ∧ Gr w w' := by
  obtain ⟨ad, ca, rfl⟩ := ha.form
  have HS := hidb (fun w' (h : Below w.heap.size w w') => (ha.below h).src)
  obtain ⟨bd, bb, cb, rfl, rb⟩ := hb.rd0
  have RB := hidb rb
  have HA := hidb hda
  have HB := hidb hdb
  have HAB := hidb hab
  obtain ⟨i0, hi, hz0, hz1, hz2⟩ := info_parts infoU
  clear ha hb rb hda hdb hab
  go_enter Tryd.func54, Tryd.ntmps54
  go_wp2_with (refine wpList_make_full _ rfl _ _ 63 rfl w.heap.size 105 i0 (.int .u64 0) 1 undU hi hz0 hz1 .i64 .i64 _ _ a.length rfl rfl rfl rfl (by rw [hz2]; omega) (by unfold maxLen; omega) (Nat.le_refl _) ?_)
  intro w1 hown hgrow
  have HG : Hid (Below w.heap.size w w1) := (Below.refl _ _).grown hgrow (Nat.le_refl _) (by intro k hk; cases hk)
  have HK : Hid (Blk w1 w.heap.size (List.replicate a.length 0)) := by
    rw [made_us] at hown
    exact own_blk hown
  clear hown hgrow
  go_wp2_with (refine wpList_copy_splice rfl _ _ 63 63 rfl 105 undU sizeU _ _ _ _ _ _ rfl rfl w.heap.size 0 (us (List.replicate a.length 0)) 105 HK.out (us a) ?f1 ?f2 ?f3 (ones_us a) w.heap.size w HG.out (Nat.le_refl _) ?_)
  case f1 => simp [us]
  case f2 =>
    intro h0
    exact HS.out w1 HG.out h0
  case f3 => simp [us]
  intro w2 hk2 hB2
  rw [show List.replicate a.length (Value.int .u64 0) = us (List.replicate a.length 0) by simp [us], splice_us a a.length (Nat.le_refl _)] at hk2
  have HK2 : Hid (At w2 w.heap.size (us (a ++ List.replicate (a.length - a.length) 0))) := Blk.at hk2.out
  have HG2 := hidb hB2
  clear hk2 hB2 HK HG HS
  have HR2 : Hid (Rd w2 w.heap.size bd bb cb b) := by
    refine ⟨?_, RB.out.ix⟩
    rcases RB.out.row with ⟨h1, h2⟩ | h
    · exact .inl ⟨h1.below HG2.out, h2⟩
    · exact .inr h
  go_wp2_with fail
  refine (wsub_gen (some ⟨w.heap.size, 0, none⟩) bd w.heap.size 0 a.length a.length bb cb 1 _ b w2 HK2.out (dg_pad HA.out _) HB.out (by simp) (by omega) (by omega) (by decide) HR2.out (fun k hk w' => uindex w.heap.size 0 _ _ k hk w')).mono ?_
  rintro e w3 ⟨M, c, r, rfl, hr, hA3, hI, hO⟩
  have HI := hidb hI
  have hM := diff_end lb HAB.out HI.out
  have HE := hidb hM
  have ml : M.length = a.length := by rw [HI.out.like.len]; simp
  have HP : Hid (Pt w3 (.slice (some ⟨w.heap.size, 0, none⟩) a.length a.length) M) := .inr ⟨w.heap.size, a.length, by rw [ml], by omega, by unfold maxLen; omega, hA3.urow⟩
  have HG3 := hidb (Onl.of HG2.out hO (Nat.le_refl _))
  clear hI hM hA3 hO HR2 HK2 HG2
  go_wp2_with fail
  refine (wtrim_any HI.out.dg HP.out).mono ?_
  rintro e w4 ⟨r', rfl, hr', rfl⟩
  rw [HE.out] at hr'
  go_wp2
  go_ret
  exact ⟨_, rfl, hr', HG3.out⟩
theorem wdiff_any {w : World} {u v : Value} {m n : Nat} (lm : m < wlid) (h : n ≤ m) (ha : Pt w u (dn m)) (hb : Pt w v (dn n)) : Calls Tryd.prog 54 #[u, v] w fun e w' => ∃ r, e = .returned r ∧ Pt w' r (dn (m - n)) ∧ Gr w w' := by
  have l1 := wlid_len lm
  have := wdiff_gen (dn_dg m) (dn_dg n) (by omega) (dn_len_mono h) (by rw [dv_dn, dv_dn]; exact h) ha hb
  rw [dv_dn, dv_dn] at this
  exact this
set_option maxRecDepth 4000 in
set_option maxHeartbeats 8000000 in
theorem wmul_gen {w : World} {u v : Value} {a b : List Nat} (hda : Dg a) (hdb : Dg b) (la : a.length ≤ 400) (lb : b.length ≤ 400) (ha : Pt w u a) (hb : Pt w v b) : Calls Tryd.prog 47 #[u, v] w fun e w' => ∃ r, e = .returned r ∧ Pt w' r (dn (dv a * dv b)) ∧ Gr w w' := by
  obtain ⟨ad, ba, ca, rfl, ra⟩ := ha.rd0
  obtain ⟨bd, bb, cb, rfl, rb⟩ := hb.rd0
  have RA := hidb ra
  have RB := hidb rb
  have HA := hidb hda
  have HB := hidb hdb
  obtain ⟨i0, hi, hz0, hz1, hz2⟩ := info_parts infoU
  clear ha hb ra rb hda hdb
  obtain ⟨p, hp⟩ : ∃ p, p = a.length := ⟨_, rfl⟩
  obtain ⟨q, hq⟩ : ∃ q, q = b.length := ⟨_, rfl⟩
  rw [← hp] at la
  rw [← hq] at lb
  rw [← hp, ← hq]
  have HP := hidb hp
  have HQ := hidb hq
  have IA := hidb RA.out.ix
  have IB := hidb RB.out.ix
  rw [← hp] at IA
  rw [← hq] at IB
  clear hp hq
  go_enter Tryd.func47, Tryd.ntmps47
  go_wp2_with (refine wpList_make_full _ rfl _ _ 63 rfl w.heap.size 105 i0 (.int .u64 0) 1 undU hi hz0 hz1 .i64 .i64 _ _ (p + q) rfl rfl (by omega) (by omega) (by rw [hz2]; omega) (by unfold maxLen; omega) (Nat.le_refl _) ?_)
  intro w1 hown hgrow
  have HG : Hid (Onl w.heap.size w w1) := Onl.grown hgrow
  have HK : Hid (At w1 w.heap.size (us (List.replicate (p + q) 0))) := by
    rw [made_us] at hown
    exact (own_blk hown).at
  clear hown hgrow
  have IX : Hid (∀ k : Nat, k < p + q → ∀ w', (Instr.indexAt 63 (.slice (some ⟨w.heap.size, 0, none⟩) (p + q) (p + q)) (.int .i64 k)).run Tryd.prog w' = .ok (.pointer (some ⟨w.heap.size, k, none⟩)) w') := fun k hk w' => uindex0 _ _ _ k hk w'
  obtain ⟨sv, hsv⟩ : ∃ sv, sv = Value.slice (some ⟨w.heap.size, 0, none⟩) (p + q) (p + q) := ⟨_, rfl⟩
  rw [← hsv] at IX ⊢
  have SV := hidb hsv
  clear hsv
  go_wp2
  go_loopw [22] (fun t wr => ∃ (i : Nat) (o : List Nat), i ≤ p ∧ t = .int .i64 (i : Int) ∧ Hid (WH.MO a b o i) ∧ Hid (At wr w.heap.size (us o)) ∧ Hid (Onl w.heap.size w wr)) (fun t _ => p - (intOf t).toNat)
  case atStart => exact ⟨0, List.replicate (p + q) 0, Nat.zero_le _, rfl, ⟨by rw [← HP.out, ← HQ.out]; simp, dg_replicate _, by rw [WH.dv_replicate]; simp [WH.dv], by intro j hj _; simp⟩, HK.out, HG.out⟩
  case round =>
    obtain ⟨i, o, hip, rfl, HM, HO, HW⟩ := hrel
    clear HK HG
    by_cases h1 : i < p
    · have h1a : i < a.length := by rw [← HP.out]; exact h1
      have cella := RA.out.cell h1a HW.out
      have xa := HA.out.get h1a
      have ixa := IA.out i h1
      obtain ⟨x, hx⟩ : ∃ x, x = a[i] := ⟨_, rfl⟩
      have HX := hidb hx.symm
      rw [← hx] at cella xa
      have HI0 := hidb (WH.mi_start (x := x) HM.out)
      clear hx HM
      go_wp2
      go_loopw [8, 29] (fun s t wr2 => ∃ (c k : Nat) (o : List Nat), c < 18446744073709551616 ∧ k ≤ q ∧ s = .int .u64 (c : Int) ∧ t = .int .i64 (k : Int) ∧ Hid (WH.MI a b o i k c x) ∧ Hid (At wr2 w.heap.size (us o)) ∧ Hid (Onl w.heap.size w wr2)) (fun _ t _ => q - (intOf t).toNat)
      case atStart => exact ⟨0, 0, o, by decide, Nat.zero_le _, rfl, rfl, HI0.out, HO.out, HW.out⟩
      case round =>
        clear HI0 HO HW cella
        obtain ⟨c, k, o, hc, hkq, rfl, rfl, HI, HO, HW⟩ := hrel
        by_cases h2 : k < q
        · have h2b : k < b.length := by rw [← HQ.out]; exact h2
          have cellb := RB.out.cell h2b HW.out
          have xb := HB.out.get h2b
          have ixb := IB.out k h2
          have hj : i + k < o.length := by rw [HI.out.len, ← HP.out, ← HQ.out]; omega
          obtain ⟨cello, fro⟩ := HO.out.ucell hj
          have zo := HI.out.dg.get hj
          have ixo : ∀ w', (Instr.indexAt 63 sv (.int .i64 ((i : Int) + (k : Int)))).run Tryd.prog w' = .ok (.pointer (some ⟨w.heap.size, i + k, none⟩)) w' := by
            intro w'
            have := IX.out (i + k) (by omega) w'
            rw [Int.natCast_add] at this; exact this
          obtain ⟨y, hy⟩ : ∃ y, y = b[k] := ⟨_, rfl⟩
          have HS := hidb (WH.mi_step (y := y) HI.out h2b hy.symm hj)
          rw [← hy] at cellb xb
          have HP2 := hidb (fun w => mul64N y x xb xa w)
          rw [Nat.mul_comm y x] at HP2
          obtain ⟨m1, m2, m3⟩ := mul_words (z := o[i + k]) xa xb zo hc
          generalize o[i + k] = z at *
          rw [← m1, ← m2] at HS
          rw [← m2] at m3
          clear m1 m2 hy HI
          obtain ⟨lo, hlo⟩ : ∃ d, d = x * y % 18446744073709551616 := ⟨_, rfl⟩
          obtain ⟨hi', hhi⟩ : ∃ d, d = x * y / 18446744073709551616 := ⟨_, rfl⟩
          rw [← hlo, ← hhi] at HS HP2 m3
          have ha1 := add64N0 lo c
          obtain ⟨d, hd⟩ : ∃ d, d = (lo + c) % 18446744073709551616 := ⟨_, rfl⟩
          obtain ⟨e1, he1⟩ : ∃ q, q = (lo + c) / 18446744073709551616 := ⟨_, rfl⟩
          rw [← hd, ← he1] at ha1 HS m3
          have ha2 := add64N0 z d
          obtain ⟨f, hf⟩ : ∃ f, f = (z + d) % 18446744073709551616 := ⟨_, rfl⟩
          obtain ⟨g, hg⟩ : ∃ q, q = (z + d) / 18446744073709551616 := ⟨_, rfl⟩
          rw [← hf, ← hg] at ha2 HS
          rw [← hg] at m3
          have hw1 : IntKind.u64.wrap ((hi' : Int) + (e1 : Int)) = ((hi' + e1 : Nat) : Int) := by rw [IntKind.wrap_u64]; omega
          have hw2 : IntKind.u64.wrap ((g : Int) + ((hi' + e1 : Nat) : Int)) = ((g + (hi' + e1) : Nat) : Int) := by rw [IntKind.wrap_u64]; omega
          obtain ⟨s1, hs1⟩ : ∃ s1, s1 = hi' + e1 := ⟨_, rfl⟩
          obtain ⟨s2, hs2⟩ : ∃ s2, s2 = g + (hi' + e1) := ⟨_, rfl⟩
          rw [← hs2] at HS hw2 m3
          rw [← hs1] at hw1 hw2
          clear hlo hhi hd he1 hf hg hs1 hs2
          go_wp2_with fail
          refine (HP2.out _).mono ?_
          rintro e w3 ⟨rfl, rfl⟩
          go_wp2_with (first | rw [ha1] | rw [ha2])
          go_roundw
          case rel => exact ⟨s2, k + 1, o.set (i + k) f, m3, by omega, by go_num, by go_num, HS.out, HO.out.uput (i + k) f, HW.out.set (i + k) _⟩
          case measure => simp [intOf]; omega
        · have hj : i + q < o.length := by rw [HI.out.len, ← HP.out, ← HQ.out]; omega
          have HE : Hid (WH.MO a b (o.set (i + q) c) (i + 1)) := by
            have hkq2 : k = b.length := by rw [← HQ.out]; omega
            have := HI.out
            rw [hkq2] at this
            show WH.MO a b (o.set (i + q) c) (i + 1)
            have hj2 : i + b.length < o.length := by rw [← HQ.out]; exact hj
            have := WH.mi_end this h1a HX.out hc hj2
            rw [← HQ.out] at this
            exact this
          obtain ⟨cello, fro⟩ := HO.out.ucell hj
          have ixo : ∀ w', (Instr.indexAt 63 sv (.int .i64 ((i : Int) + (q : Int)))).run Tryd.prog w' = .ok (.pointer (some ⟨w.heap.size, i + q, none⟩)) w' := by
            intro w'
            have := IX.out (i + q) (by omega) w'
            rw [Int.natCast_add] at this; exact this
          clear HI
          generalize o[i + q] = z at *
          go_wp2
          go_roundw
          case rel => exact ⟨i + 1, o.set (i + q) c, by omega, by go_num, HE.out, HO.out.uput (i + q) c, HW.out.set (i + q) _⟩
          case measure => simp [intOf]; omega
    · have hip2 : i = a.length := by rw [← HP.out]; omega
      have HE : Hid (dv o = dv a * dv b) := by
        have := HM.out.sum
        rw [hip2, List.take_of_length_le (Nat.le_refl _)] at this
        exact this
      have ml : o.length = p + q := by rw [HM.out.len, ← HP.out, ← HQ.out]
      have HPt : Hid (Pt wr sv o) := .inr ⟨w.heap.size, p + q, by rw [ml]; exact SV.out, by omega, by unfold maxLen; omega, HO.out.urow⟩
      clear hip2
      go_wp2_with fail
      refine (wtrim_any HM.out.dg HPt.out).mono ?_
      rintro e w4 ⟨r, rfl, hr, rfl⟩
      rw [HE.out] at hr
      go_wp2
      go_ret
      exact ⟨_, rfl, hr, Onl.of (Below.refl _ _) HW.out (Nat.le_refl _)⟩
theorem wmul_any {w : World} {u v : Value} {m n : Nat} (lm : m < wlid) (ln : n < wlid) (ha : Pt w u (dn m)) (hb : Pt w v (dn n)) : Calls Tryd.prog 47 #[u, v] w fun e w' => ∃ r, e = .returned r ∧ Pt w' r (dn (m * n)) ∧ Gr w w' := by
  have l1 := wlid_len lm
  have l2 := wlid_len ln
  have := wmul_gen (dn_dg m) (dn_dg n) (by omega) (by omega) ha hb
  rw [dv_dn, dv_dn] at this
  exact this
end Go.Proofs.YtecmkjefoppbiaaDoor
