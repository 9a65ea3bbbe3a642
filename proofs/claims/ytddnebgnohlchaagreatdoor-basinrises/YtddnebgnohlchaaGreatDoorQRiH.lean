/-
  mercatorref4.held; what a height must be.
-/
import Derived.Test.YtddnebgnohlchaaGreatDoorQRiG
namespace Go.Proofs.YtddnebgnohlchaaGreatDoor
open Go.RowKit
attribute [local go_sem ↓] Go.wp_at_zero Go.wp_at_succ

/-- The wet ones of the first k cells. -/
def wtL (L : List Bool) (k : Nat) : List Nat := (List.range k).filter (fun i => glb L i)
theorem wtL_succ (L : List Bool) (k : Nat) : wtL L (k + 1) = if glb L k then wtL L k ++ [k] else wtL L k := by
  unfold wtL
  rw [List.range_succ, List.filter_append]
  cases h : glb L k <;> simp [h]
theorem wtL_len (L : List Bool) (k : Nat) : (wtL L k).length ≤ k := by
  unfold wtL
  have := List.length_filter_le (fun i => glb L i) (List.range k)
  simpa using this
theorem sL_perm {l : List Int} {S T : List Nat} (p : S.Perm T) : sL l S = sL l T := by
  induction p with
  | nil => rfl
  | cons x _ ih => rw [sL_cons, sL_cons, ih]
  | swap x y l => rw [sL_cons, sL_cons, sL_cons, sL_cons]; omega
  | trans _ _ i1 i2 => exact i1.trans i2
theorem wtL_perm {m c N : Nat} {l : List Int} {t : Int} {L : List Bool} {O : List Nat} (hN : N = l.length) (hL : ∀ k, glb L k = true ↔ Rch m l t c k) (hd : O.Nodup) (hO : ∀ k, k ∈ O ↔ Rch m l t c k) : (wtL L N).Perm O := by
  refine (List.perm_ext_iff_of_nodup (List.Pairwise.filter _ List.nodup_range) hd).2 (fun k => ?_)
  rw [hO, ← hL]
  show k ∈ (List.range N).filter (fun i => glb L i) ↔ _
  rw [List.mem_filter, List.mem_range]
  exact ⟨fun h => h.2, fun h => ⟨by rw [hN]; exact ((hL k).1 h).le.2, h⟩⟩
/-- What held answers. -/
def HAns (m n N : Nat) (l : List Int) (L : List Bool) (num den : Int) (w w' : World) (e : Ending) : Prop := ∃ r : Bool, e = .returned (.tuple #[.int .i64 (num * (wtL L N).length - den * sL l (wtL L N)), .bool r]) ∧ (r = true ↔ ∃ k ∈ wtL L N, rim m n k) ∧ Gr w w'
set_option maxRecDepth 4000 in
set_option maxHeartbeats 4000000 in
theorem held_any {m n pb po Lb Lo Lcap B N : Nat} {l : List Int} {L : List Bool} (num den : Int) (hnum : -1125899906842624 ≤ num ∧ num ≤ 1125899906842624) (hden : 1 ≤ den ∧ den ≤ 1048576) (hN : N = l.length) (hN2 : N ≤ 1000) (hLl : L.length = N) (w : World) (hp : PtR w pb po m n (.slice (some ⟨Lb, Lo, none⟩) N Lcap)) (hR : Rs w Lb Lo Lcap l) (ok : Ok l m n) (hB : At w B (br L)) : Calls Tryz.prog 39 #[.pointer (some ⟨pb, po, none⟩), .slice (some ⟨B, 0, none⟩) N N, .int .i64 num, .int .i64 den] w fun e w' => HAns m n N l L num den w w' e := by
  have HIm := hidb (fun k (hk : k < N) W (hG : Gr w W) => isRim_any (pb := pb) (po := po) (m := m) (n := n) (H := n) N k ok.m1 (by rw [hN]; exact ok.len) (by omega) hk W (hp.below hG.out))
  have HPt := hidb (fun W (hG : Gr w W) => (hp.below hG.out).all)
  have HRs := hidb (fun W (hG : Gr w W) => hR.below hG.out)
  have HBs := hidb (fun W (hG : Gr w W) => At.below hG.out hB)
  have HHi := hidb ok.hi
  have HBd := hidb (fun S : List Nat => sL_bd ok.hi S)
  have HN := hidb (show N = l.length ∧ N ≤ 1000 ∧ L.length = N from ⟨hN, hN2, hLl⟩)
  have HM := hidb (show (-1125899906842624 ≤ num ∧ num ≤ 1125899906842624) ∧ 1 ≤ den ∧ den ≤ 1048576 from ⟨hnum, hden⟩)
  clear hp hR ok hB hN hN2 hLl hnum hden
  go_enter Tryz.func39, Tryz.ntmps39
  go_wp2
  go_loopw [10, 11, 12] (fun s t u wr => ∃ (k : Nat) (r : Bool) (x : Int), k ≤ N ∧ s = .int .i64 x ∧ t = .bool r ∧ u = .int .i64 (k : Int) ∧ Hid (x = num * (wtL L k).length - den * sL l (wtL L k)) ∧ Hid (r = true ↔ ∃ j ∈ wtL L k, rim m n j) ∧ Hid (Gr w wr)) (fun _ _ u _ => N - (intOf u).toNat)
  case atStart => exact ⟨0, false, 0, Nat.zero_le _, rfl, rfl, rfl, hidb (by simp [wtL, sL]), hidb (by simp [wtL]), hidb (Gr.refl w)⟩
  case round =>
    obtain ⟨k, r, x, hk, rfl, rfl, rfl, HX, HRi, G⟩ := hrel
    obtain ⟨p0, p1, p2⟩ := HPt.out _ G.out
    by_cases h1 : ¬ k < N
    · have h1' : ¬ (k : Int) < (N : Int) := by omega
      obtain rfl : k = N := by omega
      clear h1
      go_wp2
      go_ret2
      exact ⟨r, by rw [← HX.out]; rfl, HRi.out, G.out⟩
    · have h1' : (k : Int) < (N : Int) := by omega
      have hkN : k < N := by omega
      have HkN := hidb hkN
      have e1 : IntKind.i64.wrap ((k : Int) + 1) = ((k + 1 : Nat) : Int) := by rw [show (k : Int) + 1 = ((k + 1 : Nat) : Int) by omega]; exact wrap_in (by have := HN.out; omega) (by have := HN.out; omega)
      have ixB := bindex B N N k hkN
      obtain ⟨cB, -⟩ := (HBs.out _ G.out).getb (j := k) (by rw [HN.out.2.2]; exact hkN)
      have HSc := hidb (wtL_succ L k)
      cases hb : glb L k with
      | false =>
        rw [hb] at cB
        have HS2 : Hid (wtL L (k + 1) = wtL L k) := by show _ = _; rw [HSc.out, hb]; rfl
        clear hb h1 hkN
        go_wp2
        go_roundw
        case rel => exact ⟨k + 1, r, x, HkN.out, rfl, rfl, by go_num, by rw [HS2.out]; exact HX, by rw [HS2.out]; exact HRi, G⟩
        case measure => have := HkN.out; simp [intOf]; omega
      | true =>
        rw [hb] at cB
        have HS2 : Hid (wtL L (k + 1) = wtL L k ++ [k]) := by show _ = _; rw [HSc.out, hb]; rfl
        have ixL := iindex Lb Lo N Lcap k hkN
        have cL := (HRs.out _ G.out).get (i := k) (by rw [← HN.out.1]; exact hkN)
        have hw1 := wtL_len L k
        have hs1 := HBd.out (wtL L k)
        have hx := HX.out
        have hm := HM.out
        have hn2 := HN.out.2.1
        have hh := HHi.out k
        unfold hiI at hh
        have b1 : -1152921504606846976 ≤ num * ((wtL L k).length : Int) ∧ num * ((wtL L k).length : Int) ≤ 1152921504606846976 := mulB (A := 1125899906842624) (B := 1000) (by omega) (by omega) (by omega) (by omega) (by decide)
        have b2 : -1152921504606846976 ≤ den * sL l (wtL L k) ∧ den * sL l (wtL L k) ≤ 1152921504606846976 := by
          rw [Int.mul_comm]; exact mulB (A := 1073741824) (B := 1048576) (by omega) (by omega) (by omega) (by omega) (by decide)
        have b3 : -1099511627776 ≤ gl l k * den ∧ gl l k * den ≤ 1099511627776 := mulB (A := 1048576) (B := 1048576) (by omega) (by omega) (by omega) (by omega) (by decide)
        obtain ⟨x1, hx1, e2⟩ : ∃ z, z = x + num ∧ IntKind.i64.wrap (x + num) = z := ⟨_, rfl, wrap_in (by omega) (by omega)⟩
        obtain ⟨x2, hx2, e3⟩ : ∃ z, z = gl l k * den ∧ IntKind.i64.wrap (gl l k * den) = z := ⟨_, rfl, wrap_in (by omega) (by omega)⟩
        obtain ⟨y, hy, e4⟩ : ∃ y, y = num * (wtL L (k + 1)).length - den * sL l (wtL L (k + 1)) ∧ IntKind.i64.wrap (x1 - x2) = y := by
          refine ⟨_, rfl, ?_⟩
          rw [wrap_in (by omega) (by omega), HS2.out, List.length_append, sL_snoc, hx1, hx2, hx]
          simp only [List.length_cons, List.length_nil, Nat.zero_add, Int.natCast_add, Int.cast_ofNat_Int, Int.mul_add, Int.mul_one]
          rw [Int.mul_comm (gl l k) den]
          omega
        have Hy := hidb hy
        have HI := hidb (HIm.out k hkN wr G.out)
        have HRn : Hid ((r || decide (rim m n k)) = true ↔ ∃ j ∈ wtL L (k + 1), rim m n j) := by
          show _ ↔ _
          rw [HS2.out, Bool.or_eq_true, HRi.out, decide_eq_true_iff]
          constructor
          · rintro (⟨j, h1, h2⟩ | h)
            · exact ⟨j, List.mem_append.2 (.inl h1), h2⟩
            · exact ⟨k, by simp, h⟩
          · rintro ⟨j, h1, h2⟩
            rcases List.mem_append.1 h1 with h1 | h1
            · exact .inl ⟨j, h1, h2⟩
            · rw [List.mem_singleton.1 h1] at h2; exact .inr h2
        generalize decide (rim m n k) = rk at *
        generalize gl l k = gk at *
        clear hb h1 hkN hy hw1 hs1 hx hm hn2 hh b1 b2 b3 hx1 hx2
        go_wp2_with fail
        refine HI.out.mono ?_
        rintro e w2 ⟨rfl, hG2⟩
        have G2 := hidb (Gr.step G.out hG2.out)
        clear hG2 p0 p1 p2 cB cL
        cases r <;> cases rk
        all_goals
          go_wp2
          go_roundw
          case rel => exact ⟨k + 1, _, y, HkN.out, rfl, rfl, by go_num, Hy, HRn, G2⟩
          case measure => have := HkN.out; simp [intOf]; omega
/-- What is to be known of the height that rise answers. -/
structure UpF (l : List Int) (c : Nat) (water top a b : Int) (O : List Nat) : Prop where
  rgt : Rgt a b
  a1 : -1125899906842624 ≤ a ∧ a ≤ 1125899906842624
  b1 : 1 ≤ b ∧ b ≤ 1048576
  lo : gl l c * b < a
  thr : ∀ h, lwB a b false h = decide (h ≤ top - 1)
  sum : a * O.length - b * sL l O ≤ water * b
  eq : a * O.length - b * sL l O = water * b ∨ (a = top ∧ b = 1)
theorem upF {m n c : Nat} {l : List Int} {water top a b : Int} {O : List Nat} (ok : Ok l m n) (hN : l.length ≤ 1000) (hw : 0 ≤ water ∧ water ≤ 1099511627776) (ht : gl l c < top ∧ top ≤ 1048576 ∧ 1 ≤ O.length) (p : Pool m n l c water (top - 1) O) (h : Low a b (min (water + sL l O) (top * O.length)) O.length) : UpF l c water top a b O := by
  have hlen : O.length ≤ l.length := nodup_len p.nd (fun x hx => ((p.all x).1 hx).le.2)
  have hs := sL_bd ok.hi O
  have hlow := p.low
  rw [vol_sL, Int.sub_mul, Int.one_mul] at hlow
  have hgl := ok.hi c
  unfold hiI at hgl
  obtain ⟨q, hq⟩ : ∃ q : Int, q = (O.length : Int) := ⟨_, rfl⟩
  have hq1 : 1 ≤ q ∧ q ≤ 1000 := by omega
  obtain ⟨hb, he, hcop, hle⟩ := h
  rw [← hq] at hs hlow he hb
  obtain ⟨S, hS⟩ : ∃ S, S = sL l O := ⟨_, rfl⟩
  rw [← hS] at hs hlow he hle
  have htq : -1152921504606846976 ≤ top * q ∧ top * q ≤ 1152921504606846976 := mulB (A := 1048576) (B := 1048576) (by omega) (by omega) (by omega) (by omega) (by decide)
  have htq2 : top * q ≤ 1048576 * q ∧ -1048576 * q ≤ top * q := ⟨Int.mul_le_mul_of_nonneg_right (by omega) (by omega), Int.mul_le_mul_of_nonneg_right (by omega) (by omega)⟩
  obtain ⟨P, hP⟩ : ∃ P, P = min (water + S) (top * q) := ⟨_, rfl⟩
  rw [← hq, ← hP] at hle
  rw [← hP] at he
  have hP1 : P ≤ top * q ∧ P ≤ water + S ∧ top * q - q < P := by omega
  have hPa : -1125899906842624 ≤ P ∧ P ≤ 1125899906842624 := by omega
  have key : ∀ h : Int, h * b < a ↔ h ≤ top - 1 := fun h => by
    constructor
    · intro hh
      refine Int.not_lt.1 (fun hc => ?_)
      have h1 : top * b ≤ h * b := Int.mul_le_mul_of_nonneg_right (by omega) (by omega)
      have h2 : top * b * q < a * q := Int.mul_lt_mul_of_pos_right (by omega) (by omega)
      have h3 : P * b ≤ top * q * b := Int.mul_le_mul_of_nonneg_right hP1.1 (by omega)
      rw [he, Int.mul_right_comm] at h2
      omega
    · intro hh
      refine Int.not_le.1 (fun hc => ?_)
      have h1 : h * b ≤ (top - 1) * b := Int.mul_le_mul_of_nonneg_right hh (by omega)
      have h2 : a * q ≤ (top - 1) * b * q := Int.mul_le_mul_of_nonneg_right (by omega) (by omega)
      have h3 : (top * q - q) * b < P * b := Int.mul_lt_mul_of_pos_right hP1.2.2 (by omega)
      have h4 : (top - 1) * b * q = (top * q - q) * b := by rw [Int.mul_right_comm, Int.sub_mul, Int.one_mul]
      rw [he, h4] at h2
      omega
  have hlo := (key (gl l c)).2 (by omega)
  refine ⟨⟨⟨hb.1, by omega, by omega, by omega⟩, hcop⟩, by omega, by omega, hlo, fun h => ?_, ?_, ?_⟩
  · unfold lwB
    rw [if_neg (by decide)]
    by_cases c2 : h ≤ top - 1
    · rw [decide_eq_true c2, decide_eq_true ((key h).2 c2)]
    · rw [decide_eq_false c2, decide_eq_false (fun c3 => c2 ((key h).1 c3))]
  · rw [← hq, ← hS, he, Int.mul_comm b S, ← Int.sub_mul]
    exact Int.mul_le_mul_of_nonneg_right (by omega) (by omega)
  · rw [← hq, ← hS, he, Int.mul_comm b S, ← Int.sub_mul]
    by_cases c3 : P = water + S
    · left; congr 1; omega
    · right
      have hPt : P = top * q := by omega
      rw [hPt, Int.mul_right_comm] at he
      have ha : a = top * b := Int.eq_of_mul_eq_mul_right (by omega) he
      have hbd : b.natAbs ∣ a.natAbs := by rw [ha, Int.natAbs_mul]; exact Nat.dvd_mul_left _ _
      have hb1 : b.natAbs = 1 := by
        rw [Nat.gcd_eq_right hbd] at hcop
        exact hcop
      have : b = 1 := by omega
      subst this
      exact ⟨by omega, rfl⟩
end Go.Proofs.YtddnebgnohlchaaGreatDoor
