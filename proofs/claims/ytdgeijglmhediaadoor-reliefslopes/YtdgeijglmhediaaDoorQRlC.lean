/-
  relief.square.at, ground, At.
-/
import Derived.Test.YtdgeijglmhediaaDoorQRlB
namespace Go.Proofs.YtdgeijglmhediaaDoor
open Go.RowKit

theorem make256 (z : Int) (h1 : -4294967296 ≤ z) (h2 : z ≤ 4294967296) (w : World) : Calls Tryd.prog 99 #[.int .i64 z, .int .i64 256] w fun e w' => e = .returned (.tuple #[frE z, .nilIface]) ∧ Gr w w' :=
  make_ok z 256 (by omega) (by omega) (by decide) (by decide) (by decide) ⟨by have := rn_le z.natAbs (Int.natAbs 256); omega, by have := rd_le z.natAbs (Int.natAbs 256); omega⟩ w
set_option maxRecDepth 4000 in
set_option maxHeartbeats 4000000 in
theorem sqat_any {a b c d : Int} (u v : Int) (ha : hiI a) (hb : hiI b) (hc : hiI c) (hd : hiI d) (u0 : 0 ≤ u) (u1 : u < 256) (v0 : 0 ≤ v) (v1 : v < 256) (w : World) : Calls Tryd.prog 80 #[sqV a b c d, .int .i64 u, .int .i64 v] w fun e w' => e = .returned (.tuple #[frE (rise a b c d u v), .nilIface]) ∧ Gr w w' := by
  have bd := rise_bd ha hb hc hd u0 u1 v0 v1
  have C := hidb (fun w => make256 (rise a b c d u v) bd.1 bd.2 w)
  have p1 := mul_bd (x := u) u0 u1 hb ha
  have p2 := mul_bd (x := v) v0 v1 hd hb
  have p3 := mul_bd (x := v) v0 v1 hc ha
  have p4 := mul_bd (x := u) u0 u1 hd hc
  obtain ⟨a1, a2⟩ := ha
  obtain ⟨b1, b2⟩ := hb
  obtain ⟨c1, c2⟩ := hc
  obtain ⟨d1, d2⟩ := hd
  have G0 := hidb (((Gr.refl w).alloc (.cells #[.int .i64 a, .int .i64 b, .int .i64 c, .int .i64 d] 102)).alloc (.cells #[.int .i64 0, .int .i64 0] 42))
  have A1 := hidb (At.nx2 (W := w) (.cells #[.int .i64 a, .int .i64 b, .int .i64 c, .int .i64 d] 102) (.int .i64 0) (.int .i64 0) 42)
  obtain ⟨y1, h1, e1⟩ : ∃ z : Int, z = b - a ∧ IntKind.i64.wrap (b - a) = z := ⟨_, rfl, wrap_in (by omega) (by omega)⟩
  obtain ⟨y2, h2, e2⟩ : ∃ z : Int, z = d - b ∧ IntKind.i64.wrap (d - b) = z := ⟨_, rfl, wrap_in (by omega) (by omega)⟩
  obtain ⟨y3, h3, e3⟩ : ∃ z : Int, z = c - a ∧ IntKind.i64.wrap (c - a) = z := ⟨_, rfl, wrap_in (by omega) (by omega)⟩
  obtain ⟨y4, h4, e4⟩ : ∃ z : Int, z = d - c ∧ IntKind.i64.wrap (d - c) = z := ⟨_, rfl, wrap_in (by omega) (by omega)⟩
  rw [← h1] at p1
  rw [← h2] at p2
  rw [← h3] at p3
  rw [← h4] at p4
  obtain ⟨z1, k1, f1⟩ : ∃ z : Int, z = u * y1 ∧ IntKind.i64.wrap (u * y1) = z := ⟨_, rfl, wrap_in (by omega) (by omega)⟩
  obtain ⟨z2, k2, f2⟩ : ∃ z : Int, z = v * y2 ∧ IntKind.i64.wrap (v * y2) = z := ⟨_, rfl, wrap_in (by omega) (by omega)⟩
  obtain ⟨z3, k3, f3⟩ : ∃ z : Int, z = v * y3 ∧ IntKind.i64.wrap (v * y3) = z := ⟨_, rfl, wrap_in (by omega) (by omega)⟩
  obtain ⟨z4, k4, f4⟩ : ∃ z : Int, z = u * y4 ∧ IntKind.i64.wrap (u * y4) = z := ⟨_, rfl, wrap_in (by omega) (by omega)⟩
  rw [← k1] at p1
  rw [← k2] at p2
  rw [← k3] at p3
  rw [← k4] at p4
  obtain ⟨s1, j1, g1⟩ : ∃ z : Int, z = z1 + z2 ∧ IntKind.i64.wrap (z1 + z2) = z := ⟨_, rfl, wrap_in (by omega) (by omega)⟩
  obtain ⟨s2, j2, g2⟩ : ∃ z : Int, z = z3 + z4 ∧ IntKind.i64.wrap (z3 + z4) = z := ⟨_, rfl, wrap_in (by omega) (by omega)⟩
  obtain ⟨s3, j3, g3⟩ : ∃ z : Int, z = a * 256 ∧ IntKind.i64.wrap (a * 256) = z := ⟨_, rfl, wrap_in (by omega) (by omega)⟩
  by_cases huv : u < v
  · have er : rise a b c d u v = s3 + s2 := by unfold rise; rw [if_pos huv, ← h3, ← h4, ← k3, ← k4, ← j2, ← j3]
    rw [er] at C bd ⊢
    have g4 : IntKind.i64.wrap (s3 + s2) = s3 + s2 := wrap_in (by omega) (by omega)
    unfold frE at C ⊢
    generalize frN (s3 + s2) = fn at *
    generalize frD (s3 + s2) = fd at *
    clear h1 h2 h3 h4 k1 k2 k3 k4 j1 j2 j3 p1 p2 p3 p4 bd er a1 a2 b1 b2 c1 c2 d1 d2 u0 u1 v0 v1
    go_enter Tryd.func80, Tryd.ntmps80
    go_wp2_with fail
    refine (C.out _).mono ?_
    rintro e w1 ⟨rfl, hB⟩
    replace G0 := hidb (Gr.step G0.out hB.out)
    replace A1 := At.below hB.out A1.out
    clear hB
    obtain ⟨r0, r1⟩ := A1.c2
    obtain ⟨q0, q1⟩ := A1.f2
    go_wp2
    refine bodyPost_ret (v := .tuple #[.agg #[.int .i64 fn, .int .i64 fd], .nilIface]) (by simp [results, Tryd.results80, go_sem, r0, r1]) rfl ⟨rfl, ?_⟩
    exact (G0.out.set (by omega) _ _).set (by omega) _ _
  · have er : rise a b c d u v = s3 + s1 := by unfold rise; rw [if_neg huv, ← h1, ← h2, ← k1, ← k2, ← j1, ← j3]
    rw [er] at C bd ⊢
    have g4 : IntKind.i64.wrap (s3 + s1) = s3 + s1 := wrap_in (by omega) (by omega)
    unfold frE at C ⊢
    generalize frN (s3 + s1) = fn at *
    generalize frD (s3 + s1) = fd at *
    clear h1 h2 h3 h4 k1 k2 k3 k4 j1 j2 j3 p1 p2 p3 p4 bd er a1 a2 b1 b2 c1 c2 d1 d2 u0 u1 v0 v1
    go_enter Tryd.func80, Tryd.ntmps80
    go_wp2_with fail
    refine (C.out _).mono ?_
    rintro e w1 ⟨rfl, hB⟩
    replace G0 := hidb (Gr.step G0.out hB.out)
    replace A1 := At.below hB.out A1.out
    clear hB
    obtain ⟨r0, r1⟩ := A1.c2
    obtain ⟨q0, q1⟩ := A1.f2
    go_wp2
    refine bodyPost_ret (v := .tuple #[.agg #[.int .i64 fn, .int .i64 fd], .nilIface]) (by simp [results, Tryd.results80, go_sem, r0, r1]) rfl ⟨rfl, ?_⟩
    exact (G0.out.set (by omega) _ _).set (by omega) _ _
theorem nat_q {x d : Int} {X D : Nat} (hx : x = (X : Int)) (hd : d = (D : Int)) (h : X ≤ 1000000) : x.tdiv d = ((X / D : Nat) : Int) ∧ x.tmod d = ((X % D : Nat) : Int) ∧ IntKind.i64.wrap ((X / D : Nat) : Int) = ((X / D : Nat) : Int) ∧ IntKind.i64.wrap ((X % D : Nat) : Int) = ((X % D : Nat) : Int) := by
  have h1 : X / D ≤ X := Nat.div_le_self _ _
  have h2 : X % D ≤ X := Nat.mod_le _ _
  subst hx hd
  refine ⟨rfl, rfl, ?_, ?_⟩
  · generalize X / D = q at *
    exact wrap_in (by omega) (by omega)
  · generalize X % D = q at *
    exact wrap_in (by omega) (by omega)
/-- 256 times the height at a point: so far to the east, to the south. -/
def sq0 (l : List Int) (m X S : Nat) : Int := gl l (S / 256 * m + X / 256)
def sq1 (l : List Int) (m X S : Nat) : Int := gl l (S / 256 * m + min (X / 256 + 1) (m - 1))
def sq2 (l : List Int) (m n X S : Nat) : Int := gl l (min (S / 256 + 1) (n - 1) * m + X / 256)
def sq3 (l : List Int) (m n X S : Nat) : Int := gl l (min (S / 256 + 1) (n - 1) * m + min (X / 256 + 1) (m - 1))
def gh (l : List Int) (m n X S : Nat) : Int := rise (sq0 l m X S) (sq1 l m X S) (sq2 l m n X S) (sq3 l m n X S) ((X % 256 : Nat) : Int) ((S % 256 : Nat) : Int)
/-- Three blocks of a call's own. -/
structure GF (w W : World) (B : Nat) (k0 k1 k2 : List Value) : Prop where
  a0 : At W B k0
  a1 : At W (B + 1) k1
  a2 : At W (B + 1 + 1) k2
  gr : Gr w W
theorem GF.below {w W w' : World} {B : Nat} {k0 k1 k2 : List Value} (h : GF w W B k0 k1 k2) (hB : Below W.heap.size W w') : GF w w' B k0 k1 k2 := ⟨h.a0.below hB, h.a1.below hB, h.a2.below hB, Gr.step h.gr hB⟩
theorem GF.drew {w W : World} {B : Nat} {k0 k1 k2 : List Value} (h : GF w W B k0 k1 k2) : GF w W.drew B k0 k1 k2 := ⟨h.a0, h.a1, h.a2, h.gr.drew⟩
theorem GF.all {w W : World} {B : Nat} {a b c d e : Value} {k2 : List Value} (h : GF w W B [a, b, c] [d, e] k2) : (W.cell? ⟨B, 0, none⟩ = some a ∧ W.cell? ⟨B, 1, none⟩ = some b ∧ W.cell? ⟨B, 2, none⟩ = some c) ∧ (W.cell? ⟨B + 1, 0, none⟩ = some d ∧ W.cell? ⟨B + 1, 1, none⟩ = some e) := ⟨h.a0.c3, h.a1.c2⟩
theorem GF.fill {w W : World} {B : Nat} {a b c d e x y : Value} (h : GF w W B [a, b, c] [d, e] [x, y]) (hB : w.heap.size ≤ B) (p q : Value) : GF w ((W.setCell ⟨B + 1 + 1, 0, none⟩ p).setCell ⟨B + 1 + 1, 1, none⟩ q) B [a, b, c] [d, e] [p, q] :=
  ⟨(h.a0.skip (by omega) _ _).skip (by omega) _ _, (h.a1.skip (by omega) _ _).skip (by omega) _ _, At.fill2 (h.a2.has rfl) p q, (h.gr.set (by omega) _ _).set (by omega) _ _⟩
theorem GF.new (w : World) (a b c d e x y : Value) (t t' t'' : Nat) : GF w (((w.alloc (.cells #[a, b, c] t)).alloc (.cells #[d, e] t')).alloc (.cells #[x, y] t'')) w.heap.size [a, b, c] [d, e] [x, y] :=
  ⟨((At.new3 w a b c t).alloc _).alloc _, (At.nx2 _ d e t').alloc _, At.ny2 _ _ x y t'', (((Gr.refl w).alloc _).alloc _).alloc _⟩
set_option maxRecDepth 4000 in
set_option maxHeartbeats 4000000 in
theorem ground_any {b o cap m n X S : Nat} {l : List Int} (x y : Int) (hx : x = (X : Int)) (hy : -y = (S : Int)) (w : World) (h : Rs w b o cap l) (ok : Ok l m n) (hX : X ≤ 256 * (m - 1)) (hS : S ≤ 256 * (n - 1)) : Calls Tryd.prog 54 #[raV m n (.slice (some ⟨b, o, none⟩) l.length cap), spV x y] w fun e w' => e = .returned (.tuple #[frE (gh l m n X S), .nilIface]) ∧ Gr w w' := by
  have hm1 := ok.m1
  have hn1 := ok.n1
  have hm2 := ok.m2
  have hn2 := ok.n2
  have CS := hidb (fun W1 (hG : Gr w W1) => squareOf_any (c := X / 256) (r := S / 256) W1 (h.below hG.out) ok (by omega) (by omega))
  have CA := hidb (fun W1 => sqat_any (a := sq0 l m X S) (b := sq1 l m X S) (c := sq2 l m n X S) (d := sq3 l m n X S) ((X % 256 : Nat) : Int) ((S % 256 : Nat) : Int) (ok.hi _) (ok.hi _) (ok.hi _) (ok.hi _) (by omega) (by omega) (by omega) (by omega) W1)
  rw [show rise (sq0 l m X S) (sq1 l m X S) (sq2 l m n X S) (sq3 l m n X S) ((X % 256 : Nat) : Int) ((S % 256 : Nat) : Int) = gh l m n X S from rfl] at CA
  rw [show gl l (S / 256 * m + X / 256) = sq0 l m X S from rfl, show gl l (S / 256 * m + min (X / 256 + 1) (m - 1)) = sq1 l m X S from rfl, show gl l (min (S / 256 + 1) (n - 1) * m + X / 256) = sq2 l m n X S from rfl, show gl l (min (S / 256 + 1) (n - 1) * m + min (X / 256 + 1) (m - 1)) = sq3 l m n X S from rfl] at CS
  unfold frE at CA ⊢
  generalize frN (gh l m n X S) = fn at *
  generalize frD (gh l m n X S) = fd at *
  generalize sq0 l m X S = q0 at *
  generalize sq1 l m X S = q1 at *
  generalize sq2 l m n X S = q2 at *
  generalize sq3 l m n X S = q3 at *
  have e0 : IntKind.i64.wrap (-y) = (S : Int) := by rw [hy]; exact wrap_in (by omega) (by omega)
  obtain ⟨c, hc⟩ : ∃ c, c = X / 256 := ⟨_, rfl⟩
  obtain ⟨r, hr⟩ : ∃ c, c = S / 256 := ⟨_, rfl⟩
  obtain ⟨u, hu⟩ : ∃ c, c = X % 256 := ⟨_, rfl⟩
  obtain ⟨v, hv⟩ : ∃ c, c = S % 256 := ⟨_, rfl⟩
  obtain ⟨t1, t3, t5, t7⟩ := nat_q hx (show (256 : Int) = ((256 : Nat) : Int) from rfl) (by omega)
  obtain ⟨s, hs⟩ : ∃ s : Int, s = (S : Int) := ⟨_, rfl⟩
  obtain ⟨t2, t4, t6, t8⟩ := nat_q hs (show (256 : Int) = ((256 : Nat) : Int) from rfl) (by omega)
  rw [← hs] at e0
  rw [← hc] at t1 t5
  rw [← hr] at t2 t6
  rw [← hu] at t3 t7
  rw [← hv] at t4 t8
  rw [← hc, ← hr] at CS
  rw [← hu, ← hv] at CA
  have F := hidb (GF.new w (.int .i64 m) (.int .i64 n) (.slice (some ⟨b, o, none⟩) l.length cap) (.int .i64 x) (.int .i64 y) (.int .i64 0) (.int .i64 0) 27 40 42)
  clear hm1 hn1 hm2 hn2 hc hr hu hv hy hX hS h ok hx hs
  go_enter Tryd.func54, Tryd.ntmps54
  go_upto_region 2 with fail
  generalize ((w.alloc (.cells #[.int .i64 m, .int .i64 n, .slice (some ⟨b, o, none⟩) l.length cap] 27)).alloc (.cells #[.int .i64 x, .int .i64 y] 40)).alloc (.cells #[.int .i64 0, .int .i64 0] 42) = w1 at *
  have E := F.out
  clear F
  obtain ⟨z0, z1⟩ := E.a2.c2
  obtain ⟨f0, f1⟩ := E.a2.f2
  have hge : w.heap.size ≤ w.heap.size := Nat.le_refl _
  go_region_held (fun w' => (w'.cell? ⟨w.heap.size, 0, none⟩ = some (.int .i64 m) ∧ w'.cell? ⟨w.heap.size, 1, none⟩ = some (.int .i64 n) ∧ w'.cell? ⟨w.heap.size, 2, none⟩ = some (.slice (some ⟨b, o, none⟩) l.length cap)) ∧ (w'.cell? ⟨w.heap.size + 1, 0, none⟩ = some (.int .i64 x) ∧ w'.cell? ⟨w.heap.size + 1, 1, none⟩ = some (.int .i64 y)))
    (first | (with_reducible exact E.all) | exact E.all | exact (E.fill hge _ _).all)
    ((first
      | (go_at_call 67; with_reducible refine (CS.out _ (by with_reducible first | exact E.gr | exact E.gr.drew)).mono ?_; rintro e w8 ⟨rfl, hB8⟩; (with_reducible first | replace E := E.below hB8.out | replace E := E.drew.below hB8.out); clear hB8)
      | (go_at_call 80; with_reducible refine (CA.out _).mono ?_; rintro e w9 ⟨rfl, hB8⟩; (with_reducible first | replace E := E.below hB8.out | replace E := E.drew.below hB8.out); clear hB8; obtain ⟨z0, z1⟩ := E.a2.c2; obtain ⟨f0, f1⟩ := E.a2.f2)))
  all_goals
    go_wp2
    refine bodyPost_ret (v := .tuple #[.agg #[.int .i64 fn, .int .i64 fd], .nilIface]) (by simp [results, Tryd.results54, go_sem, z0, z1]) rfl ⟨rfl, ?_⟩
    first | exact (E.fill hge _ _).gr | exact (E.fill hge _ _).gr.drew | exact (E.drew.fill hge _ _).gr
end Go.Proofs.YtdgeijglmhediaaDoor
