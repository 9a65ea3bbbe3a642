/-
  field.oneOf and what it answers; field.blank; mercatorref3.OfTwo.
-/
import Derived.Test.YtphpfongdbidoaaDoorQFdD
namespace Go.Proofs.YtphpfongdbidoaaDoor
open Go.RowKit

theorem info_parts {e : TypeId} {z : Value} {s b : Nat} (h : (Tryd.prog.info? e).map (fun i => (i.zero, i.size, i.bytes)) = some (some z, s, b)) : ∃ i, Tryd.prog.info? e = some i ∧ i.zero = some z ∧ i.size = s ∧ i.bytes = b := by
  obtain ⟨i, h1, h2⟩ := Option.map_eq_some_iff.1 h
  simp only [Prod.mk.injEq] at h2
  exact ⟨i, h1, h2.1, h2.2.1, h2.2.2⟩
theorem infoJ : (Tryd.prog.info? 3).map (fun i => (i.zero, i.size, i.bytes)) = some (some (.int .i64 0), 1, 8) := by kernel_rfl
theorem undI : Tryd.prog.underlying 25 = some (.slice 3) := by kernel_rfl
abbrev ir (l : List Int) : List Value := l.map (Value.int .i64)
theorem ir_snoc (l : List Int) (d : Int) : ir l ++ [Value.int .i64 d] = ir (l ++ [d]) := by simp [ir]
/-- What makes one height of two. -/
def twoI (h : Int) (x y : Int) : Int := if h = 43 then x + y else if h = 45 then x - y else if h = 62 then max x y else min x y
def fnN (h : Int) : Nat := if h = 43 then 45 else if h = 45 then 46 else if h = 62 then 28 else 29
def knI (h : Int) : Prop := h = 43 ∨ h = 45 ∨ h = 62 ∨ h = 60
instance (h : Int) : Decidable (knI h) := by unfold knI; exact inferInstance
theorem oneOf_kn (h : Int) (hk : knI h) (w : World) : Calls Tryd.prog 37 #[.int .u8 h] w fun e w' => e = .returned (.func (.func (fnN h)) #[] #[]) ∧ w' = w := by
  rcases hk with rfl | rfl | rfl | rfl
  all_goals
    go_enter Tryd.func37, Tryd.ntmps37
    go_wp2
    go_ret
    exact ⟨rfl, rfl⟩
theorem oneOf_no (h : Int) (hk : ¬ knI h) (w : World) : Calls Tryd.prog 37 #[.int .u8 h] w fun e w' => e = .returned .nilFunc ∧ w' = w := by
  have h1 : ¬ h = 43 := fun e => hk (.inl e)
  have h2 : ¬ h = 45 := fun e => hk (.inr (.inl e))
  have h3 : ¬ h = 62 := fun e => hk (.inr (.inr (.inl e)))
  have h4 : ¬ h = 60 := fun e => hk (.inr (.inr (.inr e)))
  clear hk
  go_enter Tryd.func37, Tryd.ntmps37
  go_wp2
  go_ret
  exact ⟨rfl, rfl⟩
theorem fnN_any (h : Int) (hk : knI h) (x y : Int) (hx : hiI x) (hy : hiI y) (w : World) : Calls Tryd.prog (fnN h) #[.int .i64 x, .int .i64 y] w fun e w' => e = .returned (.int .i64 (twoI h x y)) ∧ w' = w := by
  obtain ⟨x1, x2⟩ := hx
  obtain ⟨y1, y2⟩ := hy
  have e1 : IntKind.i64.wrap (x + y) = x + y := wrap_in (by omega) (by omega)
  have e2 : IntKind.i64.wrap (x - y) = x - y := wrap_in (by omega) (by omega)
  clear x1 x2 y1 y2
  rcases hk with rfl | rfl | rfl | rfl
  · show Calls Tryd.prog 45 _ _ _
    go_enter Tryd.func45, Tryd.ntmps45
    go_wp2
    go_ret
    exact ⟨rfl, rfl⟩
  · show Calls Tryd.prog 46 _ _ _
    go_enter Tryd.func46, Tryd.ntmps46
    go_wp2
    go_ret
    exact ⟨rfl, rfl⟩
  · show Calls Tryd.prog 28 _ _ _
    clear e1 e2
    go_enter Tryd.func28, Tryd.ntmps28
    go_wp2
    all_goals
      go_ret
      refine ⟨?_, rfl⟩
      show _ = Ending.returned (.int .i64 (max x y))
      first | (rw [Int.max_eq_right (by omega)]; rfl) | (rw [Int.max_eq_left (by omega)]; rfl)
  · show Calls Tryd.prog 29 _ _ _
    clear e1 e2
    go_enter Tryd.func29, Tryd.ntmps29
    go_wp2
    all_goals
      go_ret
      refine ⟨?_, rfl⟩
      show _ = Ending.returned (.int .i64 (min x y))
      first | (rw [Int.min_eq_right (by omega)]; rfl) | (rw [Int.min_eq_left (by omega)]; rfl)
theorem own_at {w : World} {base g n : Nat} {l : List Value} (h : w.ownsRow base 3 1 (.slice (some ⟨g, 0, none⟩) n n) n l) : At w g l := by
  obtain ⟨h1, h2⟩ := h
  rcases h2 with ⟨h2, _⟩ | ⟨g', cap, cur, hv, hb, hg, h3, h4, h5, h6⟩
  · cases h2
  · cases hv
    have e : cur.toList = l := by rw [← h6, List.take_of_length_le (by simp; omega)]
    have hlt : g < w.heap.size := by
      rcases Nat.lt_or_ge g w.heap.size with c | c
      · exact c
      · rw [Array.getElem?_eq_none c] at hg; cases hg
    refine ⟨fun i hi => ?_, hlt⟩
    subst e
    have hi' : i < cur.size := by simpa using hi
    constructor
    · simp [World.cell?, hg, hi']
    · simp [World.frozen?, hg]
theorem made_ir (n : Nat) : (madeCells #[Value.int .i64 0] n).toList = ir (List.replicate n 0) := by rw [toList_madeCells_one]; simp [ir]
set_option maxRecDepth 4000 in
set_option maxHeartbeats 4000000 in
theorem blank_any (W H : Int) (n : Nat) (hn : (n : Int) = W * H) (hn2 : n ≤ 20000) (w : World) : Calls Tryd.prog 24 #[.int .i64 W, .int .i64 H] w fun e w' => ∃ B, e = .returned (raV W H (.slice (some ⟨B, 0, none⟩) n n)) ∧ At w' B (ir (List.replicate n 0)) ∧ w.heap.size ≤ B ∧ Gr w w' := by
  have e1 : IntKind.i64.wrap (W * H) = (n : Int) := by rw [← hn]; exact wrap_in (by omega) (by omega)
  obtain ⟨i0, hi, hz0, hz1, hz2⟩ := info_parts infoJ
  have G0 := hidb ((Gr.refl w).alloc (.cells #[.int .i64 0, .int .i64 0, .slice none 0 0] 27))
  have A0 := hidb (At.new3 w (.int .i64 0) (.int .i64 0) (.slice none 0 0) 27)
  clear hn
  go_enter Tryd.func24, Tryd.ntmps24
  go_wp2_with (refine wpList_make_full _ rfl _ _ 25 rfl w.heap.size 3 i0 (.int .i64 0) 1 undI hi hz0 hz1 .i64 .i64 _ _ n rfl rfl (by omega) (by omega) (by rw [hz2]; omega) (by unfold maxLen; omega) (by simp) ?_)
  intro w1 hown hgrow
  have hs : (w.alloc (.cells #[.int .i64 0, .int .i64 0, .slice none 0 0] 27)).heap.size = w.heap.size + 1 := by simp
  have hB : Below (w.alloc (.cells #[.int .i64 0, .int .i64 0, .slice none 0 0] 27)).heap.size (w.alloc (.cells #[.int .i64 0, .int .i64 0, .slice none 0 0] 27)) w1 := (Below.refl _ _).grown hgrow (Nat.le_refl _) (by intro k hk; cases hk)
  have G1 := hidb (Gr.step G0.out hB)
  have A1 := At.below hB A0.out
  rw [made_ir] at hown
  have AB := hidb (own_at hown)
  clear hown hgrow hB A0 G0 hs
  obtain ⟨a0, a1, a2⟩ := A1.c3
  obtain ⟨f0, f1, f2⟩ := A1.f3
  have AH := A1.has (n := 3) rfl
  have HA1 := hidb A1
  clear A1
  go_wp2
  refine bodyPost_ret (v := raV W H (.slice (some ⟨w.heap.size + 1, 0, none⟩) n n)) (by simp [results, Tryd.results24, go_sem, a0, a1, a2]) rfl ⟨_, rfl, ?_, by omega, ?_⟩
  · exact ((AB.out.skip (by omega) _ _).skip (by omega) _ _).skip (by omega) _ _
  · exact ((G1.out.set (Nat.le_refl _) _ _).set (Nat.le_refl _) _ _).set (Nat.le_refl _) _ _
end Go.Proofs.YtphpfongdbidoaaDoor
