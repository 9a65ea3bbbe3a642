/-
  Sums of blocks; field.sums.mean.
-/
import Derived.Test.YtphpfongdbidoaaDoorQFdN
import Derived.Test.YtphpfongdbidoaaDoorQRa
namespace Go.Proofs.YtphpfongdbidoaaDoor
open Go.RowKit

/-- The sum of the first so many cells of a row; of all to the north west of a corner. -/
def rs (l : List Int) (m r : Nat) : Nat → Int
  | 0 => 0
  | c + 1 => rs l m r c + gl l (r * m + c)
def ps (l : List Int) (m : Nat) : Nat → Nat → Int
  | 0, _ => 0
  | r + 1, c => ps l m r c + rs l m r c
theorem rs_bd {l : List Int} {m n : Nat} (ok : Ok l m n) (r : Nat) : ∀ c : Nat, -(1048576 * (c : Int)) ≤ rs l m r c ∧ rs l m r c ≤ 1048576 * (c : Int)
  | 0 => by unfold rs; omega
  | c + 1 => by
    have h := rs_bd ok r c
    obtain ⟨h1, h2⟩ := ok.hi (r * m + c)
    unfold rs
    omega
theorem ps_bd {l : List Int} {m n : Nat} (ok : Ok l m n) {c : Nat} (hc : c ≤ 128) : ∀ r : Nat, -(134217728 * (r : Int)) ≤ ps l m r c ∧ ps l m r c ≤ 134217728 * (r : Int)
  | 0 => by unfold ps; omega
  | r + 1 => by
    have h := ps_bd ok hc r
    have k := rs_bd ok r c
    unfold ps
    omega
/-- The sum of a block. -/
def bs (l : List Int) (m t b le ri : Nat) : Int := ps l m b ri - ps l m t ri - ps l m b le + ps l m t le
/-- The sums' list: a corner's. -/
structure SumL (l : List Int) (m n : Nat) (L : List Int) : Prop where
  len : L.length = (n + 1) * (m + 1)
  at_ : ∀ r c, r ≤ n → c ≤ m → gl L (r * (m + 1) + c) = ps l m r c
theorem SumL.lt {l : List Int} {m n : Nat} {L : List Int} (h : SumL l m n L) {r c : Nat} (hr : r ≤ n) (hc : c ≤ m) : r * (m + 1) + c < L.length := by
  rw [h.len]
  have : (r + 1) * (m + 1) ≤ (n + 1) * (m + 1) := Nat.mul_le_mul_right _ (by omega)
  rw [Nat.add_mul r 1] at this
  omega
theorem sums_at {l : List Int} {m n : Nat} {L : List Int} {ad : Option Addr} {b o cap : Nat} (h : SumL l m n L) (hm : m ≤ 128) (hn : n ≤ 128) (r c : Nat) (hr : r ≤ n) (hc : c ≤ m) (w : World) (hI : ISl w ad b o cap L) : Calls Tryd.prog 40 #[.agg #[.int .i64 ((m + 1 : Nat) : Int), .slice ad L.length cap], .int .i64 (r : Int), .int .i64 (c : Int)] w fun e w' => e = .returned (.int .i64 (ps l m r c)) ∧ Gr w w' := by
  have hk := h.lt hr hc
  have hL : L.length ≤ 20000 := by
    rw [h.len]
    exact Nat.le_trans (Nat.mul_le_mul (show n + 1 ≤ 129 by omega) (show m + 1 ≤ 129 by omega)) (by decide)
  have e1 : (r : Int) * ((m + 1 : Nat) : Int) = ((r * (m + 1) : Nat) : Int) := (Int.natCast_mul _ _).symm
  have := sat_any ((m + 1 : Nat) : Int) (r : Int) (c : Int) (r * (m + 1) + c) hk (by rw [e1]; omega) (by rw [e1]; omega) (by rw [e1]; omega) hL w hI
  rw [gl_get hk, h.at_ r c hr hc] at this
  exact this
/-- Two blocks of a call's own. -/
structure SqG (w W : World) (B D : Nat) (k0 k1 : List Value) : Prop where
  a0 : At W B k0
  a1 : At W D k1
  gr : Gr w W
theorem SqG.below {w W w' : World} {B D : Nat} {k0 k1 : List Value} (h : SqG w W B D k0 k1) (hB : Below W.heap.size W w') : SqG w w' B D k0 k1 := ⟨h.a0.below hB, h.a1.below hB, Gr.step h.gr hB⟩
theorem SqG.drew {w W : World} {B D : Nat} {k0 k1 : List Value} (h : SqG w W B D k0 k1) : SqG w W.drew B D k0 k1 := ⟨h.a0, h.a1, h.gr.drew⟩
theorem SqG.all {w W : World} {B D : Nat} {a b c d e f : Value} (h : SqG w W B D [a, b] [c, d, e, f]) : (W.cell? ⟨B, 0, none⟩ = some a ∧ W.cell? ⟨B, 1, none⟩ = some b) ∧ (W.cell? ⟨D, 0, none⟩ = some c ∧ W.cell? ⟨D, 1, none⟩ = some d ∧ W.cell? ⟨D, 2, none⟩ = some e ∧ W.cell? ⟨D, 3, none⟩ = some f) := ⟨h.a0.c2, h.a1.c4⟩
theorem At.nx4' {W : World} (o : Obj) (a b c d : Value) (t : Nat) : At ((W.alloc o).alloc (.cells #[a, b, c, d] t)) (W.heap.size + 1) [a, b, c, d] := by
  have := At.new4 (W.alloc o) a b c d t
  simpa using this
/-- Rounded down. -/
theorem floor_neg {s k : Int} (hk : 1 ≤ k) (hs : s < 0) : (s - (k - 1)).tdiv k = s / k := by
  have h := down_eq s k hk hs
  have e : s - (k - 1) = -(-s + k - 1) := by omega
  rw [e, Int.neg_tdiv, h]
  omega
set_option maxRecDepth 4000 in
set_option maxHeartbeats 8000000 in
theorem mean_any {l : List Int} {m n : Nat} (ok : Ok l m n) {L : List Int} {ad : Option Addr} {b o cap : Nat} (h : SumL l m n L) (t bo le ri : Nat) (h1 : t < bo) (h2 : bo ≤ n) (h3 : le < ri) (h4 : ri ≤ m) (w : World) (hI : ISl w ad b o cap L) : Calls Tryd.prog 26 #[.agg #[.int .i64 ((m + 1 : Nat) : Int), .slice ad L.length cap], .agg #[.int .i64 (t : Int), .int .i64 (bo : Int), .int .i64 (le : Int), .int .i64 (ri : Int)]] w fun e w' => e = .returned (.int .i64 (bs l m t bo le ri / (((bo - t) * (ri - le) : Nat) : Int))) ∧ Gr w w' := by
  have hm := ok.m2
  have hn := ok.n2
  have C0 := hidb (fun W1 (hG : Gr w W1) => sums_at h hm hn bo ri h2 h4 W1 (hI.below hG.out))
  have C1 := hidb (fun W1 (hG : Gr w W1) => sums_at h hm hn t ri (by omega) h4 W1 (hI.below hG.out))
  have C2 := hidb (fun W1 (hG : Gr w W1) => sums_at h hm hn bo le h2 (by omega) W1 (hI.below hG.out))
  have C3 := hidb (fun W1 (hG : Gr w W1) => sums_at h hm hn t le (by omega) (by omega) W1 (hI.below hG.out))
  have b0 := ps_bd ok (c := ri) (by omega) bo
  have b1 := ps_bd ok (c := ri) (by omega) t
  have b2 := ps_bd ok (c := le) (by omega) bo
  have b3 := ps_bd ok (c := le) (by omega) t
  unfold bs
  generalize ps l m bo ri = x0 at *
  generalize ps l m t ri = x1 at *
  generalize ps l m bo le = x2 at *
  generalize ps l m t le = x3 at *
  obtain ⟨s1, hs1, e1⟩ : ∃ q : Int, q = x0 - x1 ∧ IntKind.i64.wrap (x0 - x1) = q := ⟨_, rfl, wrap_in (by omega) (by omega)⟩
  obtain ⟨s2, hs2, e2⟩ : ∃ q : Int, q = s1 - x2 ∧ IntKind.i64.wrap (s1 - x2) = q := ⟨_, rfl, wrap_in (by omega) (by omega)⟩
  obtain ⟨s3, hs3, e3⟩ : ∃ q : Int, q = s2 + x3 ∧ IntKind.i64.wrap (s2 + x3) = q := ⟨_, rfl, wrap_in (by omega) (by omega)⟩
  rw [← hs1, ← hs2, ← hs3]
  obtain ⟨d1, hd1, e4⟩ : ∃ q : Int, q = ((bo - t : Nat) : Int) ∧ IntKind.i64.wrap ((bo : Int) - (t : Int)) = q := ⟨_, rfl, by rw [show (bo : Int) - (t : Int) = ((bo - t : Nat) : Int) by omega]; exact wrap_in (by omega) (by omega)⟩
  obtain ⟨d2, hd2, e5⟩ : ∃ q : Int, q = ((ri - le : Nat) : Int) ∧ IntKind.i64.wrap ((ri : Int) - (le : Int)) = q := ⟨_, rfl, by rw [show (ri : Int) - (le : Int) = ((ri - le : Nat) : Int) by omega]; exact wrap_in (by omega) (by omega)⟩
  have k1 : 1 * 1 ≤ (bo - t) * (ri - le) := Nat.mul_le_mul (by omega) (by omega)
  have k2 : (bo - t) * (ri - le) ≤ 128 * 128 := Nat.mul_le_mul (by omega) (by omega)
  obtain ⟨k, hk⟩ : ∃ q : Int, q = (((bo - t) * (ri - le) : Nat) : Int) := ⟨_, rfl⟩
  rw [← hk]
  have e6 : IntKind.i64.wrap (d1 * d2) = k := by rw [hd1, hd2, ← Int.natCast_mul, ← hk]; exact wrap_in (by omega) (by omega)
  have k3 : 1 ≤ k := by omega
  have k4 : k ≤ 16384 := by omega
  have e0 : ¬ k = 0 := by omega
  have qb : -(s3.natAbs : Int) ≤ s3 / k ∧ s3 / k ≤ (s3.natAbs : Int) := by
    constructor
    · rw [Int.le_ediv_iff_mul_le (by omega)]
      have : (-(s3.natAbs : Int)) * k ≤ (-(s3.natAbs : Int)) * 1 := Int.mul_le_mul_of_nonpos_left (by omega) k3
      omega
    · rcases Int.lt_or_le s3 0 with c | c
      · have := Int.ediv_neg_of_neg_of_pos c (show 0 < k by omega); omega
      · have := Int.ediv_le_self k c; omega
  have e9 : IntKind.i64.wrap (s3 / k) = s3 / k := wrap_in (by omega) (by omega)
  have HS3 := hidb (show -68719476736 ≤ s3 ∧ s3 ≤ 68719476736 by omega)
  have F := hidb (show SqG w _ _ _ _ _ from ⟨(At.new2 w (.int .i64 ((m + 1 : Nat) : Int)) (.slice ad L.length cap) 42).alloc (.cells #[.int .i64 (t : Int), .int .i64 (bo : Int), .int .i64 (le : Int), .int .i64 (ri : Int)] 49), At.nx4' (W := w) (.cells #[.int .i64 ((m + 1 : Nat) : Int), .slice ad L.length cap] 42) (.int .i64 (t : Int)) (.int .i64 (bo : Int)) (.int .i64 (le : Int)) (.int .i64 (ri : Int)) 49, ((Gr.refl w).alloc _).alloc _⟩)
  obtain ⟨qq, hqq⟩ : ∃ q : Int, s3 / k = q := ⟨_, rfl⟩
  rw [hqq] at e9 qb ⊢
  have HQQ := hidb hqq
  clear hqq
  obtain ⟨mm, hmm⟩ : ∃ q : Int, q = ((m + 1 : Nat) : Int) := ⟨_, rfl⟩
  rw [← hmm] at C0 C1 C2 C3 F
  rw [← hmm]
  clear b0 b1 b2 b3 hs1 hs2 hs3 hd1 hd2 k1 k2 hk h1 h2 h3 h4 hm hn h hI ok hmm
  have tail : ∀ W, SqG w W w.heap.size (w.heap.size + 1) [.int .i64 mm, .slice ad L.length cap] [.int .i64 (t : Int), .int .i64 (bo : Int), .int .i64 (le : Int), .int .i64 (ri : Int)] → True := fun _ _ => trivial
  clear tail
  go_enter Tryd.func26, Tryd.ntmps26
  go_upto_region 1 with fail
  generalize (w.alloc (.cells #[.int .i64 mm, .slice ad L.length cap] 42)).alloc (.cells #[.int .i64 (t : Int), .int .i64 (bo : Int), .int .i64 (le : Int), .int .i64 (ri : Int)] 49) = w1 at *
  go_cut [5] from 7 to 33 (fun s5 wx => s5 = .int .i64 s3 ∧ Hid (SqG w wx w.heap.size (w.heap.size + 1) [.int .i64 mm, .slice ad L.length cap] [.int .i64 (t : Int), .int .i64 (bo : Int), .int .i64 (le : Int), .int .i64 (ri : Int)]))
  case first =>
    have E := F.out
    go_region_held (fun w' => (w'.cell? ⟨w.heap.size, 0, none⟩ = some (.int .i64 mm) ∧ w'.cell? ⟨w.heap.size, 1, none⟩ = some (.slice ad L.length cap)) ∧ (w'.cell? ⟨w.heap.size + 1, 0, none⟩ = some (.int .i64 (t : Int)) ∧ w'.cell? ⟨w.heap.size + 1, 1, none⟩ = some (.int .i64 (bo : Int)) ∧ w'.cell? ⟨w.heap.size + 1, 2, none⟩ = some (.int .i64 (le : Int)) ∧ w'.cell? ⟨w.heap.size + 1, 3, none⟩ = some (.int .i64 (ri : Int))))
      (first | (with_reducible exact E.all) | exact E.all)
      ((first
        | (go_at_call 40; with_reducible refine (C0.out _ (by with_reducible first | exact E.gr | exact E.drew.gr)).mono ?_; rintro e w8 ⟨rfl, hB8⟩; (with_reducible first | replace E := E.below hB8.out | replace E := E.drew.below hB8.out); clear hB8)
        | (go_at_call 40; with_reducible refine (C1.out _ (by with_reducible first | exact E.gr | exact E.drew.gr)).mono ?_; rintro e w8 ⟨rfl, hB8⟩; (with_reducible first | replace E := E.below hB8.out | replace E := E.drew.below hB8.out); clear hB8)
        | (go_at_call 40; with_reducible refine (C2.out _ (by with_reducible first | exact E.gr | exact E.drew.gr)).mono ?_; rintro e w8 ⟨rfl, hB8⟩; (with_reducible first | replace E := E.below hB8.out | replace E := E.drew.below hB8.out); clear hB8)
        | (go_at_call 40; with_reducible refine (C3.out _ (by with_reducible first | exact E.gr | exact E.drew.gr)).mono ?_; rintro e w8 ⟨rfl, hB8⟩; (with_reducible first | replace E := E.below hB8.out | replace E := E.drew.below hB8.out); clear hB8)))
    all_goals
      go_wp2_with fail
      go_meet
      first | exact ⟨rfl, hidb E⟩ | exact ⟨rfl, hidb E.drew⟩
  case rest =>
    clear F
    obtain ⟨rfl, F⟩ := hcut
    obtain ⟨y0, y1, y2, y3⟩ := F.out.a1.c4
    by_cases hs : s3 < 0
    · have t1 := floor_neg k3 hs
      rw [HQQ.out] at t1
      obtain ⟨u1, hu1, f1⟩ : ∃ q : Int, q = k - 1 ∧ IntKind.i64.wrap (k - 1) = q := ⟨_, rfl, wrap_in (by omega) (by omega)⟩
      have hsz := F.out.gr
      obtain ⟨u2, hu2, f2⟩ : ∃ q : Int, q = s3 - u1 ∧ IntKind.i64.wrap (s3 - u1) = q := ⟨_, rfl, wrap_in (by have := HS3.out; omega) (by have := HS3.out; omega)⟩
      rw [← hu1, ← hu2] at t1
      clear hu1 hu2 hsz k3 k4 qb
      go_wp2
      go_ret
      exact ⟨rfl, F.out.gr⟩
    · have t1 : s3.tdiv k = qq := by rw [← HQQ.out]; exact Int.tdiv_eq_ediv_of_nonneg (by omega)
      clear k3 k4 qb
      go_wp2
      go_ret
      exact ⟨rfl, F.out.gr⟩
end Go.Proofs.YtphpfongdbidoaaDoor
