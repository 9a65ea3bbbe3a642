/-
  mercatorref3.GroundAt on the ground; mercatorlaw3.groundIs; relief.along.
-/
import Derived.Test.YtpdiefmmenfpaaaDoorQRlE
import Derived.Test.YtpdiefmmenfpaaaDoorQFdN
namespace Go.Proofs.YtpdiefmmenfpaaaDoor
open Go.RowKit

theorem groundAt_on {pb po m n b o cap X S : Nat} {l : List Int} (x y : Int) (hx : x = (X : Int)) (hy : -y = (S : Int)) (w : World) (hp : PtR w pb po m n (.slice (some ⟨b, o, none⟩) l.length cap)) (hs : Rs w b o cap l) (ok : Ok l m n) (hX : X ≤ 256 * (m - 1)) (hS : S ≤ 256 * (n - 1)) : Calls Tryd.prog 13 #[.pointer (some ⟨pb, po, none⟩), spV x y] w fun e w' => e = .returned (.tuple #[.int .i64 (gh l m n X S), .bool true]) ∧ Gr w w' := by
  by_cases hu : ((X % 256 : Nat) : Int) = 0
  · by_cases hv : ((S % 256 : Nat) : Int) = 0
    · exact groundAt_1 x y _ _ hx hy w hp hs ok hX hS rfl rfl hu hv
    · exact groundAt_3 x y _ _ hx hy w hp hs ok hX hS rfl rfl hu (by omega)
  · by_cases hv : ((S % 256 : Nat) : Int) = 0
    · exact groundAt_2 x y _ _ hx hy w hp hs ok hX hS rfl rfl (by omega) hv
    · by_cases huv : ((S % 256 : Nat) : Int) ≤ ((X % 256 : Nat) : Int)
      · exact groundAt_4 x y _ _ hx hy w hp hs ok hX hS rfl rfl (by omega) (by omega) huv
      · exact groundAt_5 x y _ _ hx hy w hp hs ok hX hS rfl rfl (by omega) (by omega) huv
theorem gh_bd {m n X S : Nat} {l : List Int} (ok : Ok l m n) : -4294967296 ≤ gh l m n X S ∧ gh l m n X S ≤ 4294967296 := rise_bd (ok.hi _) (ok.hi _) (ok.hi _) (ok.hi _) (by omega) (by omega) (by omega) (by omega)
theorem reduced_256 {w : World} {m n : Bool} {u v : Value} {z : Int} (h1 : -4294967296 ≤ z) (h2 : z ≤ 4294967296) (h : Sg w m u z) (k : Sg w n v 256) : Calls Tryd.prog 25 #[.agg #[.bool m, u], .agg #[.bool n, v]] w fun e w' => e = .returned (.tuple #[frE z, .bool true]) ∧ Gr w w' :=
  reduced_any (x := z) (y := 256) (Nat.le_trans (by omega) M_lid) (Nat.le_trans (by decide) M_lid) (by decide) h k ⟨by have := rn_le z.natAbs (Int.natAbs 256); omega, by have := rd_le z.natAbs (Int.natAbs 256); omega⟩
set_option maxRecDepth 4000 in
set_option maxHeartbeats 4000000 in
theorem groundIs_any {pb po m n b o cap X S : Nat} {l : List Int} (x y : Int) (hx : x = (X : Int)) (hy : -y = (S : Int)) (w : World) (hp : PtR w pb po m n (.slice (some ⟨b, o, none⟩) l.length cap)) (hs : Rs w b o cap l) (ok : Ok l m n) (hX : X ≤ 256 * (m - 1)) (hS : S ≤ 256 * (n - 1)) : Calls Tryd.prog 14 #[.pointer (some ⟨pb, po, none⟩), spV x y, frE (gh l m n X S)] w fun e w' => e = .returned (.bool true) ∧ Gr w w' := by
  have bd := gh_bd (X := X) (S := S) ok
  have C1 := hidb (fun W1 (hG : Gr w W1) => groundAt_on x y hx hy W1 (hp.below hG.out) (hs.below hG.out) ok hX hS)
  have C2 := hidb (fun W1 => signedOf_any (gh l m n X S) (by omega) (by omega) W1)
  have C3 := hidb (fun W1 => signedOf_any 256 (by omega) (by omega) W1)
  have C4 := hidb (fun (W1 : World) (p q : Bool) (u v : Value) (h : Sg W1 p u (gh l m n X S)) (k : Sg W1 q v 256) => reduced_256 bd.1 bd.2 h k)
  unfold frE at C4 ⊢
  generalize frN (gh l m n X S) = fn at *
  generalize frD (gh l m n X S) = fd at *
  generalize gh l m n X S = z at *
  have G0 := hidb (((Gr.refl w).alloc (.cells #[.int .i64 x, .int .i64 y] 24)).alloc (.cells #[.int .i64 fn, .int .i64 fd] 28))
  have A0 := hidb (At.nx2 (W := w) (.cells #[.int .i64 x, .int .i64 y] 24) (.int .i64 fn) (.int .i64 fd) 28)
  clear hx hy hp hs ok hX hS bd
  go_enter Tryd.func14, Tryd.ntmps14
  go_wp2_with fail
  refine (C1.out _ G0.out).mono ?_
  rintro e w1 ⟨rfl, hB⟩
  replace G0 := hidb (Gr.step G0.out hB.out)
  replace A0 := hidb (At.below hB.out A0.out)
  clear hB C1
  go_wp2_with fail
  refine (C2.out _).mono ?_
  rintro e w2 ⟨m2, v2, rfl, h2, hB, _⟩
  replace G0 := hidb (Gr.step G0.out hB)
  replace A0 := hidb (At.below hB A0.out)
  have H2 := hidb h2
  clear hB h2 C2
  go_wp2_with fail
  refine (C3.out _).mono ?_
  rintro e w3 ⟨m3, v3, rfl, h3, hB, _⟩
  replace G0 := hidb (Gr.step G0.out hB)
  replace A0 := hidb (At.below hB A0.out)
  replace H2 := hidb (H2.out.below hB)
  have H3 := hidb h3
  clear hB h3 C3
  go_wp2_with fail
  refine (C4.out _ _ _ _ _ H2.out H3.out).mono ?_
  rintro e w4 ⟨rfl, hB⟩
  replace G0 := hidb (Gr.step G0.out hB.out)
  replace A0 := hidb ((At.below hB.out A0.out).alloc (.cells #[.int .i64 fn, .int .i64 fd] 28))
  clear hB C4 H2 H3
  have A1 := hidb (At.new2 w4 (.int .i64 fn) (.int .i64 fd) 28)
  obtain ⟨a0, a1⟩ := A0.out.c2
  go_wp2
  go_ret
  exact ⟨by simp, G0.out.alloc _⟩
/-- A number between two, rounded down. -/
def alo (f t k p : Int) : Int := f + k * (t - f) / p
set_option maxRecDepth 4000 in
set_option maxHeartbeats 4000000 in
theorem along_any (f t k p : Int) (hp : 1 ≤ p) (hp2 : p ≤ 4000) (hk : 0 ≤ k) (hk2 : k ≤ 4000) (h1 : -40000 ≤ f) (h2 : f ≤ 40000) (h3 : -40000 ≤ t) (h4 : t ≤ 40000) (w : World) : Calls Tryd.prog 34 #[.int .i64 f, .int .i64 t, .int .i64 k, .int .i64 p] w fun e w' => e = .returned (.int .i64 (alo f t k p)) ∧ w' = w := by
  unfold alo
  obtain ⟨d, hd, e1⟩ : ∃ z : Int, z = t - f ∧ IntKind.i64.wrap (t - f) = z := ⟨_, rfl, wrap_in (by omega) (by omega)⟩
  rw [← hd]
  have b1 : k * d ≤ k * 80000 := Int.mul_le_mul_of_nonneg_left (by omega) hk
  have b2 : k * (-80000) ≤ k * d := Int.mul_le_mul_of_nonneg_left (by omega) hk
  obtain ⟨y, hy, e2⟩ : ∃ z : Int, z = k * d ∧ IntKind.i64.wrap (k * d) = z := ⟨_, rfl, wrap_in (by omega) (by omega)⟩
  rw [← hy] at b1 b2 ⊢
  have tf := tdiv_floor y p hp
  have e0 : ¬ p = 0 := by omega
  have q1 : -320000000 ≤ y.tdiv p ∧ y.tdiv p ≤ 320000000 := by
    have hq : y.tdiv p ≤ y.natAbs ∧ -(y.natAbs : Int) ≤ y.tdiv p := by
      have := Int.natAbs_tdiv_le_natAbs y p
      omega
    omega
  have e3 : IntKind.i64.wrap (y.tdiv p) = y.tdiv p := wrap_in (by omega) (by omega)
  by_cases c : y.tmod p < 0
  · rw [if_pos c] at tf
    rw [tf]
    obtain ⟨q, hq, t1⟩ : ∃ q, q = y.tdiv p ∧ y.tdiv p = q := ⟨_, rfl, rfl⟩
    obtain ⟨r, hr, t2⟩ : ∃ r, r = y.tmod p ∧ y.tmod p = r := ⟨_, rfl, rfl⟩
    rw [← hq] at q1 e3 ⊢
    rw [← hr] at c
    obtain ⟨q', hq', e4⟩ : ∃ z : Int, z = q - 1 ∧ IntKind.i64.wrap (q - 1) = z := ⟨_, rfl, wrap_in (by omega) (by omega)⟩
    rw [← hq']
    have e5 : IntKind.i64.wrap (f + q') = f + q' := wrap_in (by omega) (by omega)
    clear tf hq hr hd hy hq' b1 b2 q1 hp hp2 hk hk2 h1 h2 h3 h4
    go_enter Tryd.func34, Tryd.ntmps34
    go_wp2
    go_ret
    exact ⟨rfl, rfl⟩
  · rw [if_neg c] at tf
    rw [tf]
    obtain ⟨q, hq, t1⟩ : ∃ q, q = y.tdiv p ∧ y.tdiv p = q := ⟨_, rfl, rfl⟩
    obtain ⟨r, hr, t2⟩ : ∃ r, r = y.tmod p ∧ y.tmod p = r := ⟨_, rfl, rfl⟩
    rw [← hq] at q1 e3 ⊢
    rw [← hr] at c
    have e5 : IntKind.i64.wrap (f + q) = f + q := wrap_in (by omega) (by omega)
    clear tf hq hr hd hy b1 b2 q1 hp hp2 hk hk2 h1 h2 h3 h4
    go_enter Tryd.func34, Tryd.ntmps34
    go_wp2
    go_ret
    exact ⟨rfl, rfl⟩
/-- What is between two numbers stays there. -/
theorem alo_bd {f t k p : Int} (hp : 1 ≤ p) (hk : 0 ≤ k) (hkp : k ≤ p) : min f t ≤ alo f t k p ∧ alo f t k p ≤ max f t := by
  unfold alo
  rcases Int.le_total f t with h | h
  · have h1 : k * (t - f) ≤ p * (t - f) := Int.mul_le_mul_of_nonneg_right hkp (by omega)
    have h0 : 0 ≤ k * (t - f) := Int.mul_nonneg hk (by omega)
    have h2 : k * (t - f) / p ≤ t - f := Int.ediv_le_of_le_mul (by omega) (by rw [Int.mul_comm (t - f) p]; exact h1)
    have h3 : 0 ≤ k * (t - f) / p := Int.ediv_nonneg h0 (by omega)
    omega
  · have h1 : p * (t - f) ≤ k * (t - f) := Int.mul_le_mul_of_nonpos_right hkp (by omega)
    have h0 : k * (t - f) ≤ 0 := Int.mul_nonpos_of_nonneg_of_nonpos hk (by omega)
    have h2 : t - f ≤ k * (t - f) / p := (Int.le_ediv_iff_mul_le (by omega)).2 (by rw [Int.mul_comm (t - f) p]; exact h1)
    have h3 : k * (t - f) / p ≤ 0 := Int.ediv_le_of_le_mul (by omega) (by omega)
    omega
end Go.Proofs.YtpdiefmmenfpaaaDoor
