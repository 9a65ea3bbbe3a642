/-
  relief.Profile where it has no answer.
-/
import Derived.Test.YtpdiefmmenfpaaaDoorQRlF
namespace Go.Proofs.YtpdiefmmenfpaaaDoor
open Go.RowKit

theorem GF.new' (w : World) (a b c d e x y : Value) (t t' t'' : Nat) : GF w (((w.alloc (.cells #[a, b, c] t)).alloc (.cells #[d, e] t')).alloc (.cells #[x, y] t'')) w.heap.size [a, b, c] [d, e] [x, y] := GF.new w a b c d e x y t t' t''
theorem GF.drewN {w W : World} {B : Nat} {k0 k1 k2 : List Value} (h : GF w W B k0 k1 k2) (n : Nat) : GF w (W.drewN n) B k0 k1 k2 := ⟨h.a0, h.a1, h.a2, h.gr.drewN n⟩
set_option maxRecDepth 4000 in
set_option maxHeartbeats 4000000 in
theorem profile_A (g : Nat → Addr) {W H : Int} {ad : Option Addr} {b o cap : Nat} {l : List Int} (x y x2 y2 p : Int) (w : World) (h : ISl w ad b o cap l) (ll : l.length ≤ 20000) (hl : Laid w g) (hv : ¬ vcode W H l = 0) : Calls Tryd.prog 10 #[raV W H (.slice ad l.length cap), spV x y, spV x2 y2, .int .i64 p] w fun e w' => e = .returned (.tuple #[.slice none 0 0, errV g (vcode W H l - 1)]) ∧ Gr w w' := by
  have F := hidb (GF.new w (.int .i64 W) (.int .i64 H) (.slice ad l.length cap) (.int .i64 x) (.int .i64 y) (.int .i64 x2) (.int .i64 y2) 35 24 24)
  have C1 := hidb (valid_any g W H ad b o cap l _ (h.below F.out.gr.out) ll (hl.below F.out.gr.out))
  rw [evc_of hv] at C1
  generalize vcode W H l - 1 = ei at *
  clear h ll hl hv
  go_enter Tryd.func10, Tryd.ntmps10
  go_wp2_with fail
  refine C1.out.mono ?_
  rintro e w1 ⟨rfl, hB⟩
  have E := hidb (F.out.below hB.out)
  clear hB F
  go_wp2
  go_ret2
  exact ⟨rfl, E.out.gr⟩
set_option maxRecDepth 4000 in
set_option maxHeartbeats 4000000 in
theorem profile_B (g : Nat → Addr) {m n : Nat} {b o cap : Nat} {l : List Int} (x y x2 y2 p : Int) (w : World) (h : Rs w b o cap l) (ok : Ok l m n) (hv : vcode m n l = 0) (hl : Laid w g) (ho : inI 1 4000 p = false) : Calls Tryd.prog 10 #[raV m n (.slice (some ⟨b, o, none⟩) l.length cap), spV x y, spV x2 y2, .int .i64 p] w fun e w' => e = .returned (.tuple #[.slice none 0 0, errV g 2]) ∧ Gr w w' := by
  have F := hidb (GF.new w (.int .i64 m) (.int .i64 n) (.slice (some ⟨b, o, none⟩) l.length cap) (.int .i64 x) (.int .i64 y) (.int .i64 x2) (.int .i64 y2) 35 24 24)
  have C1 := hidb (valid_any g m n (some ⟨b, o, none⟩) b o cap l _ (h.isl.below F.out.gr.out) (by have := ok.len_le; omega) (hl.below F.out.gr.out))
  rw [hv, show evc g 0 = .nilIface from rfl] at C1
  have C2 := hidb (fun W1 => rwithin_any p 1 4000 W1)
  rw [ho] at C2
  have HL := hidb hl
  clear h ok hl hv ho
  go_enter Tryd.func10, Tryd.ntmps10
  go_wp2_with fail
  refine C1.out.mono ?_
  rintro e w1 ⟨rfl, hB⟩
  have E := hidb (F.out.below hB.out)
  clear hB F C1
  go_wp2_with fail
  refine (C2.out _).mono ?_
  rintro e w2 ⟨rfl, rfl⟩
  have cE : w2.cell? ⟨1, 0, none⟩ = some (errV g 2) := (HL.out.below E.out.gr.out).cell 2 (by decide)
  go_upto_region 5 with fail
  go_quiet (fail)
  go_wp2
  go_ret2
  exact ⟨rfl, by first | exact E.out.gr.drewN _ | exact E.out.gr.drew | exact E.out.gr⟩
set_option maxRecDepth 4000 in
set_option maxHeartbeats 4000000 in
theorem profile_C (g : Nat → Addr) {m n : Nat} {b o cap : Nat} {l : List Int} (x y x2 y2 p : Int) (w : World) (h : Rs w b o cap l) (ok : Ok l m n) (hv : vcode m n l = 0) (hl : Laid w g) (ho : inI 1 4000 p = true) (hq : (onI m n x y && onI m n x2 y2) = false) : Calls Tryd.prog 10 #[raV m n (.slice (some ⟨b, o, none⟩) l.length cap), spV x y, spV x2 y2, .int .i64 p] w fun e w' => e = .returned (.tuple #[.slice none 0 0, errV g 3]) ∧ Gr w w' := by
  have F := hidb (GF.new w (.int .i64 m) (.int .i64 n) (.slice (some ⟨b, o, none⟩) l.length cap) (.int .i64 x) (.int .i64 y) (.int .i64 x2) (.int .i64 y2) 35 24 24)
  have C1 := hidb (valid_any g m n (some ⟨b, o, none⟩) b o cap l _ (h.isl.below F.out.gr.out) (by have := ok.len_le; omega) (hl.below F.out.gr.out))
  rw [hv, show evc g 0 = .nilIface from rfl] at C1
  have C2 := hidb (fun W1 => rwithin_any p 1 4000 W1)
  rw [ho] at C2
  have C3 := hidb (fun W1 => on_any m n ok.m2 ok.n2 (.slice (some ⟨b, o, none⟩) l.length cap) x y W1)
  have C4 := hidb (fun W1 => on_any m n ok.m2 ok.n2 (.slice (some ⟨b, o, none⟩) l.length cap) x2 y2 W1)
  have HL := hidb hl
  clear h ok hl hv ho
  generalize onI m n x y = b1 at *
  generalize onI m n x2 y2 = b2 at *
  cases b1
  · clear hq C4
    go_enter Tryd.func10, Tryd.ntmps10
    go_wp2_with fail
    refine C1.out.mono ?_
    rintro e w1 ⟨rfl, hB⟩
    have E := hidb (F.out.below hB.out)
    clear hB F C1
    go_wp2_with fail
    refine (C2.out _).mono ?_
    rintro e w2 ⟨rfl, rfl⟩
    obtain ⟨x0, x1⟩ := E.out.a1.c2
    obtain ⟨y0, y1, y2⟩ := E.out.a0.c3
    go_wp2_with fail
    refine (C3.out _).mono ?_
    rintro e w3 ⟨rfl, hB⟩
    replace E := hidb (E.out.below hB.out)
    clear x0 x1 y0 y1 y2 hB
    have cE : w3.cell? ⟨0, 0, none⟩ = some (errV g 3) := (HL.out.below E.out.gr.out).cell 3 (by decide)
    go_upto_region 7 with fail
    go_quiet (fail)
    go_wp2
    go_ret2
    exact ⟨rfl, by first | exact E.out.gr.drewN _ | exact E.out.gr.drew | exact E.out.gr⟩
  · cases b2
    · clear hq
      go_enter Tryd.func10, Tryd.ntmps10
      go_wp2_with fail
      refine C1.out.mono ?_
      rintro e w1 ⟨rfl, hB⟩
      have E := hidb (F.out.below hB.out)
      clear hB F C1
      go_wp2_with fail
      refine (C2.out _).mono ?_
      rintro e w2 ⟨rfl, rfl⟩
      obtain ⟨x0, x1⟩ := E.out.a1.c2
      obtain ⟨y0, y1, y2⟩ := E.out.a0.c3
      go_wp2_with fail
      refine (C3.out _).mono ?_
      rintro e w3 ⟨rfl, hB⟩
      replace E := hidb (E.out.below hB.out)
      clear x0 x1 y0 y1 y2 hB
      obtain ⟨x0, x1⟩ := E.out.a2.c2
      obtain ⟨y0, y1, y2⟩ := E.out.a0.c3
      go_wp2_with fail
      refine (C4.out _).mono ?_
      rintro e w4 ⟨rfl, hB⟩
      replace E := hidb (E.out.below hB.out)
      clear x0 x1 y0 y1 y2 hB
      have cE : w4.cell? ⟨0, 0, none⟩ = some (errV g 3) := (HL.out.below E.out.gr.out).cell 3 (by decide)
      go_upto_region 7 with fail
      go_quiet (fail)
      go_wp2
      go_ret2
      exact ⟨rfl, by first | exact E.out.gr.drewN _ | exact E.out.gr.drew | exact E.out.gr⟩
    · cases hq
/-- The heights along a line; their cells. -/
def alX (x x2 p : Int) (k : Nat) : Nat := (alo x x2 k p).toNat
def alS (y y2 p : Int) (k : Nat) : Nat := (-(alo y y2 k p)).toNat
def ghk (l : List Int) (m n : Nat) (x y x2 y2 p : Int) (k : Nat) : Int := gh l m n (alX x x2 p k) (alS y y2 p k)
def proL (l : List Int) (m n : Nat) (x y x2 y2 p : Int) (k : Nat) : List Int := (List.range k).map fun i => ghk l m n x y x2 y2 p i
theorem proL_len (l : List Int) (m n : Nat) (x y x2 y2 p : Int) (k : Nat) : (proL l m n x y x2 y2 p k).length = k := by simp [proL]
theorem proL_snoc (l : List Int) (m n : Nat) (x y x2 y2 p : Int) (k : Nat) : proL l m n x y x2 y2 p k ++ [ghk l m n x y x2 y2 p k] = proL l m n x y x2 y2 p (k + 1) := by simp [proL, List.range_succ]
abbrev fcs (z : Int) : List Value := [.int .i64 (frN z), .int .i64 (frD z)]
def fls (l : List Int) : List Value := l.flatMap fcs
theorem fls_snoc (l : List Int) (z : Int) : fls l ++ fcs z = fls (l ++ [z]) := by simp [fls]
theorem fls_len (l : List Int) : (fls l).length = l.length * 2 := by
  induction l with
  | nil => rfl
  | cons s l ih => simp [fls] at ih ⊢; omega
theorem fls_get : ∀ (l : List Int) (k : Nat) (hk : k < l.length) (j : Nat), j < 2 → (fls l)[k * 2 + j]? = (fcs l[k])[j]?
  | s :: l, 0, _, j, hj => by
    match j, hj with
    | 0, _ => rfl
    | 1, _ => rfl
  | s :: l, k + 1, hk, j, hj => by
    have ih := fls_get l k (by simp at hk; omega) j hj
    rw [show (k + 1) * 2 + j = (k * 2 + j) + 2 by omega]
    exact ih
theorem infoFr : (Tryd.prog.info? 28).map (fun i => (i.zero, i.size, i.bytes)) = some (some (.agg #[.int .i64 0, .int .i64 0]), 2, 16) := by kernel_rfl
theorem undFr : Tryd.prog.underlying 36 = some (.slice 28) := by kernel_rfl
theorem own_bel {w w' : World} {base e size n : Nat} {v : Value} {xs : List Value} (h : w.ownsRow base e size v n xs) (hB : Below w.heap.size w w') : w'.ownsRow base e size v n xs := by
  have hlt := h.lt
  obtain ⟨h1, h2⟩ := h
  refine ⟨h1, ?_⟩
  rcases h2 with h2 | ⟨g, cap, cur, rfl, h3, h4, h5⟩
  · exact .inl h2
  · exact .inr ⟨g, cap, cur, rfl, h3, (hB.block g (hlt g rfl).2).trans h4, h5⟩
theorem own_shape2 {w : World} {base e size n : Nat} {v : Value} {xs : List Value} (h : w.ownsRow base e size v n xs) : ∃ ad cap, v = .slice ad n cap := by
  obtain ⟨_, ⟨rfl, rfl⟩ | ⟨g, cap, cur, hv, _⟩⟩ := h
  · exact ⟨none, 0, rfl⟩
  · exact ⟨_, _, hv⟩
theorem news2 {w : World} {ad : Addr} {x y : Value} {j : Nat} {u : Value} (hj : ([x, y] : List Value)[j]? = some u) (h0 : w.cell? (ad.add 0) = some x) (h1 : w.cell? (ad.add 1) = some y) : w.cell? (ad.add j) = some u := by
  match j with
  | 0 => simp at hj; subst hj; exact h0
  | 1 => simp at hj; subst hj; exact h1
  | j + 2 => simp at hj
end Go.Proofs.YtpdiefmmenfpaaaDoor
