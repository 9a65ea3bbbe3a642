/-
  whole.sum, whole.difference.
-/
import Derived.Test.YtehkonddgiakaaaDoorQJ10
import Derived.Test.YtehkonddgiakaaaDoorQWhE
import Derived.Laws.CopyOwn
namespace Go.Proofs.YtehkonddgiakaaaDoor
open Go.RowKit WH

theorem infoU : (Tryd.prog.info? 101).map (fun i => (i.zero, i.size, i.bytes)) = some (some (.int .u64 0), 1, 8) := by kernel_rfl
theorem undU : Tryd.prog.underlying 66 = some (.slice 101) := by kernel_rfl
theorem sizeU : (Tryd.prog.info? 101).map (·.size) = some 1 := by kernel_rfl
/-- The words are all that lies in the block. -/
def Blk (w : World) (g : Nat) (L : List Nat) : Prop := w.heap[g]? = some (.cells (us L).toArray 101 (0, 0))
theorem Blk.at {w : World} {g : Nat} {L : List Nat} (h : Blk w g L) : At w g (us L) := by
  have hlt : g < w.heap.size := by
    rcases Nat.lt_or_ge g w.heap.size with c | c
    · exact c
    · unfold Blk at h; rw [Array.getElem?_eq_none c] at h; cases h
  unfold Blk at h
  refine ⟨fun i hi => ?_, hlt⟩
  have hi' : i < L.length := by simpa using hi
  constructor
  · simp [World.cell?, h, hi']
  · simp [World.frozen?, h]
theorem own_blk {w : World} {base g n : Nat} {L : List Nat} (h : w.ownsRow base 101 1 (.slice (some ⟨g, 0, none⟩) n n) n (us L)) : Blk w g L := by
  obtain ⟨h1, h2⟩ := h
  rcases h2 with ⟨h2, _⟩ | ⟨g', cap, cur, hv, hb, hg, h3, h4, h5, h6⟩
  · cases h2
  · cases hv
    have : cur.toList = us L := by
      rw [← h6, List.take_of_length_le (by simp; omega)]
    show w.heap[g]? = _
    rw [hg, ← this]
theorem made_us (n : Nat) : (madeCells #[Value.int .u64 0] n).toList = us (List.replicate n 0) := by rw [toList_madeCells_one]; simp [us]
theorem splice_us (a : List Nat) (n : Nat) (_h : a.length ≤ n) : splice (us (List.replicate n 0)) 0 (us a) = us (a ++ List.replicate (n - a.length) 0) := by
  simp [splice, us]
theorem dv_pad (a : List Nat) (k : Nat) : dv (a ++ List.replicate k 0) = dv a := by rw [WH.dv_append, WH.dv_replicate]; simp
theorem dg_pad {a : List Nat} (h : Dg a) (k : Nat) : Dg (a ++ List.replicate k 0) := by
  intro d hd
  rcases List.mem_append.1 hd with hd | hd
  · exact h d hd
  · exact dg_replicate k d hd
theorem ones_us (l : List Nat) : ∀ u ∈ us l, u.oneCell' = true := by
  intro u hu
  obtain ⟨x, _, rfl⟩ := List.mem_map.1 hu
  rfl
/-- What copy wants to know of where it reads. -/
theorem Pt.src {w : World} {ad : Option Addr} {cap : Nat} {l : List Nat} (h : Pt w (.slice ad l.length cap) l) : 0 < l.length → ∃ a, ad = some a ∧ ∀ (j x : Nat), l[j]? = some x → w.cell? (a.add j) = some (.int .u64 (x : Int)) := by
  intro h0
  rcases h with ⟨_, rfl⟩ | ⟨b, cap', e, _, _, hr⟩
  · simp at h0
  · cases e
    refine ⟨_, rfl, fun j v hv => ?_⟩
    have hadd : (⟨b, 0, none⟩ : Addr).add j = ⟨b, j, none⟩ := by unfold Addr.add; split <;> simp_all
    obtain ⟨hj, rfl⟩ := List.getElem?_eq_some_iff.1 hv
    rw [hadd]
    exact hr.1 j hj
theorem sum_core {M A B P R c : Nat} (s : M + R * c = A + B) (hR : 2 * P ≤ R) (hA : A < P) (hB : B < P) (hc : c ≤ 1) : M = A + B := by
  rcases Nat.eq_zero_or_pos c with h | h
  · rw [h] at s; omega
  · obtain h : c = 1 := by omega
    rw [h] at s; omega
theorem pow_two {n : Nat} (h : 1 ≤ n) : 2 * 18446744073709551616 ^ (n - 1) ≤ 18446744073709551616 ^ n := by
  obtain ⟨m, rfl⟩ : ∃ m, n = m + 1 := ⟨n - 1, by omega⟩
  rw [Nat.pow_succ, Nat.mul_comm, Nat.add_sub_cancel]
  exact Nat.mul_le_mul_left _ (by decide)
theorem pw_mono {m n : Nat} (h : m ≤ n) : 18446744073709551616 ^ m ≤ 18446744073709551616 ^ n := Nat.pow_le_pow_right (by decide) h
theorem sum_end {a b M : List Nat} {n c : Nat} (ha : Dg a) (hb : Dg b) (la : a.length + 1 ≤ n) (lb : b.length + 1 ≤ n) (hc : c ≤ 1) (h : AddI (a ++ List.replicate (n - a.length) 0) b M 0 n c) : dv M = dv a + dv b := by
  have s := h.sum
  rw [dv_pad, List.take_of_length_le (by omega), Nat.zero_add, Nat.pow_zero, Nat.one_mul] at s
  exact sum_core s (pow_two (n := n) (by omega)) (Nat.lt_of_lt_of_le (dv_lt ha) (pw_mono (by omega))) (Nat.lt_of_lt_of_le (dv_lt hb) (pw_mono (by omega))) hc
set_option maxRecDepth 4000 in
set_option maxHeartbeats 4000000 in
theorem wsum_gen {w : World} {u v : Value} {a b : List Nat} {n : Nat} (hda : Dg a) (hdb : Dg b) (la : a.length ≤ 500) (lb : b.length ≤ 500) (ha : Pt w u a) (hb : Pt w v b) (hn : (a.length : Int) < (b.length : Int) ∧ n = b.length + 1 ∨ ¬ (a.length : Int) < (b.length : Int) ∧ n = a.length + 1) : Calls Tryd.prog 58 #[u, v] w fun e w' => ∃ r, e = .returned r ∧ Pt w' r (dn (dv a + dv b)) ∧ Gr w w' := by
  obtain ⟨ad, ca, rfl⟩ := ha.form
  have HS := hidb (fun w' (h : Below w.heap.size w w') => (ha.below h).src)
  obtain ⟨bd, bb, cb, rfl, rb⟩ := hb.rd0
  have RB := hidb rb
  have HA := hidb hda
  have HB := hidb hdb
  obtain ⟨i0, hi, hz0, hz1, hz2⟩ := info_parts infoU
  have n1 : a.length + 1 ≤ n := by omega
  have n2 : b.length + 1 ≤ n := by omega
  have n3 : n ≤ 501 := by omega
  clear ha hb rb hda hdb
  rcases hn with ⟨c, hn⟩ | ⟨c, hn⟩
  all_goals
    have HN := hidb hn
    clear hn
    go_enter Tryd.func58, Tryd.ntmps58
    go_wp2_with (refine wpList_make_full _ rfl _ _ 66 rfl w.heap.size 101 i0 (.int .u64 0) 1 undU hi hz0 hz1 .i64 .i64 _ _ n rfl rfl ?e1 ?e2 (by rw [hz2]; omega) (by unfold maxLen; omega) (Nat.le_refl _) ?_)
    case e1 => have := HN.out; omega
    case e2 => have := HN.out; omega
    intro w1 hown hgrow
    have HG : Hid (Below w.heap.size w w1) := (Below.refl _ _).grown hgrow (Nat.le_refl _) (by intro k hk; cases hk)
    have HK : Hid (Blk w1 w.heap.size (List.replicate n 0)) := by
      rw [made_us] at hown
      exact own_blk hown
    clear hown hgrow
    go_wp2_with (refine wpList_copy_splice rfl _ _ 66 66 rfl 101 undU sizeU _ _ _ _ _ _ rfl rfl w.heap.size 0 (us (List.replicate n 0)) 101 HK.out (us a) ?f1 ?f2 ?f3 (ones_us a) w.heap.size w HG.out (Nat.le_refl _) ?_)
    case f1 => have := Nat.min_eq_left (show a.length ≤ n by omega); simp [us]; exact this.symm
    case f2 =>
      intro h0
      exact HS.out w1 HG.out h0
    case f3 => simp [us]; omega
    intro w2 hk2 hB2
    rw [show List.replicate n (Value.int .u64 0) = us (List.replicate n 0) by simp [us], splice_us a n (by omega)] at hk2
    have HK2 : Hid (At w2 w.heap.size (us (a ++ List.replicate (n - a.length) 0))) := Blk.at hk2.out
    have HG2 := hidb hB2
    clear hk2 hB2 HK HG HS
    have HR2 : Hid (Rd w2 w.heap.size bd bb cb b) := by
      refine ⟨?_, RB.out.ix⟩
      rcases RB.out.row with ⟨h1, h2⟩ | h
      · exact .inl ⟨h1.below HG2.out, h2⟩
      · exact .inr h
    go_wp2_with fail
    refine (wadd_gen (some ⟨w.heap.size, 0, none⟩) bd w.heap.size 0 n n bb cb _ b w2 HK2.out (dg_pad HA.out _) HB.out (by simp; omega) (by omega) (by omega) HR2.out (fun k hk w' => uindex w.heap.size 0 n n k hk w')).mono ?_
    rintro e w3 ⟨M, c, rfl, hc, hA3, hI, hO⟩
    have HI := hidb hI
    have hM := sum_end HA.out HB.out n1 n2 hc HI.out
    have HE := hidb hM
    have ml : M.length = n := by rw [HI.out.like.len]; simp; omega
    have HP : Hid (Pt w3 (.slice (some ⟨w.heap.size, 0, none⟩) n n) M) := .inr ⟨w.heap.size, n, by rw [ml], by omega, by unfold maxLen; omega, hA3.urow⟩
    have HG3 := hidb (Onl.of HG2.out hO (Nat.le_refl _))
    clear hI hM hA3 hO HR2 HK2 HG2
    go_wp2_with fail
    refine (wtrim_any HI.out.dg HP.out).mono ?_
    rintro e w4 ⟨r, rfl, hr, rfl⟩
    rw [HE.out] at hr
    go_wp2
    go_ret
    exact ⟨_, rfl, hr, HG3.out⟩
theorem wsum_any {w : World} {u v : Value} {m n : Nat} (lm : m < wlid) (ln : n < wlid) (ha : Pt w u (dn m)) (hb : Pt w v (dn n)) : Calls Tryd.prog 58 #[u, v] w fun e w' => ∃ r, e = .returned r ∧ Pt w' r (dn (m + n)) ∧ Gr w w' := by
  have l1 := wlid_len lm
  have l2 := wlid_len ln
  by_cases c : ((dn m).length : Int) < ((dn n).length : Int)
  · have := wsum_gen (dn_dg m) (dn_dg n) (by omega) (by omega) ha hb (.inl ⟨c, rfl⟩)
    rw [dv_dn, dv_dn] at this
    exact this
  · have := wsum_gen (dn_dg m) (dn_dg n) (by omega) (by omega) ha hb (.inr ⟨c, rfl⟩)
    rw [dv_dn, dv_dn] at this
    exact this
end Go.Proofs.YtehkonddgiakaaaDoor
