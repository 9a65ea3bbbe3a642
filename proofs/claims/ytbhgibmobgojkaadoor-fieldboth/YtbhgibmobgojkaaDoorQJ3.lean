/-
  field.oneOf and what it answers; field.blank; mercatorref3.OfTwo.; field.Both.
-/
import Derived.Test.YtbhgibmobgojkaaDoorQJ2
namespace Go.Proofs.YtbhgibmobgojkaaDoor
open Go.RowKit

theorem info_parts {e : TypeId} {z : Value} {s b : Nat} (h : (Tryd.prog.info? e).map (fun i => (i.zero, i.size, i.bytes)) = some (some z, s, b)) : ∃ i, Tryd.prog.info? e = some i ∧ i.zero = some z ∧ i.size = s ∧ i.bytes = b := by
  obtain ⟨i, h1, h2⟩ := Option.map_eq_some_iff.1 h
  simp only [Prod.mk.injEq] at h2
  exact ⟨i, h1, h2.1, h2.2.1, h2.2.2⟩
theorem infoI : (Tryd.prog.info? 3).map (fun i => (i.zero, i.size, i.bytes)) = some (some (.int .i64 0), 1, 8) := by kernel_rfl
theorem undI : Tryd.prog.underlying 25 = some (.slice 3) := by kernel_rfl
abbrev ir (l : List Int) : List Value := l.map (Value.int .i64)
theorem ir_snoc (l : List Int) (d : Int) : ir l ++ [Value.int .i64 d] = ir (l ++ [d]) := by simp [ir]
/-- What makes one height of two. -/
def twoI (h : Int) (x y : Int) : Int := if h = 43 then x + y else if h = 45 then x - y else if h = 62 then max x y else min x y
def fnN (h : Int) : Nat := if h = 43 then 43 else if h = 45 then 44 else if h = 62 then 38 else 39
def knI (h : Int) : Prop := h = 43 ∨ h = 45 ∨ h = 62 ∨ h = 60
instance (h : Int) : Decidable (knI h) := by unfold knI; exact inferInstance
theorem oneOf_kn (h : Int) (hk : knI h) (w : World) : Calls Tryd.prog 27 #[.int .u8 h] w fun e w' => e = .returned (.func (.func (fnN h)) #[] #[]) ∧ w' = w := by
  rcases hk with rfl | rfl | rfl | rfl
  all_goals
    go_enter Tryd.func27, Tryd.ntmps27
    go_wp2
    go_ret
    exact ⟨rfl, rfl⟩
theorem oneOf_no (h : Int) (hk : ¬ knI h) (w : World) : Calls Tryd.prog 27 #[.int .u8 h] w fun e w' => e = .returned .nilFunc ∧ w' = w := by
  have h1 : ¬ h = 43 := fun e => hk (.inl e)
  have h2 : ¬ h = 45 := fun e => hk (.inr (.inl e))
  have h3 : ¬ h = 62 := fun e => hk (.inr (.inr (.inl e)))
  have h4 : ¬ h = 60 := fun e => hk (.inr (.inr (.inr e)))
  clear hk
  go_enter Tryd.func27, Tryd.ntmps27
  go_wp2
  go_ret
  exact ⟨rfl, rfl⟩
theorem fnN_any (h : Int) (hk : knI h) (x y : Int) (hx : hiI x) (hy : hiI y) (w : World) : Calls Tryd.prog (fnN h) #[.int .i64 x, .int .i64 y] w fun e w' => e = .returned (.int .i64 (twoI h x y)) ∧ w' = w := by
  obtain ⟨x1, x2⟩ := hx
  obtain ⟨y1, y2⟩ := hy
  have e1 : IntKind.i64.wrap (x + y) = x + y := wrap_in (by omega) (by omega)
  have e2 : IntKind.i64.wrap (x - y) = x - y := wrap_in (by omega) (by omega)
  clear x1 x2 y1 y2
  rcases hk with rfl | rfl | rfl | rfl
  · show Calls Tryd.prog 43 _ _ _
    go_enter Tryd.func43, Tryd.ntmps43
    go_wp2
    go_ret
    exact ⟨rfl, rfl⟩
  · show Calls Tryd.prog 44 _ _ _
    go_enter Tryd.func44, Tryd.ntmps44
    go_wp2
    go_ret
    exact ⟨rfl, rfl⟩
  · show Calls Tryd.prog 38 _ _ _
    clear e1 e2
    go_enter Tryd.func38, Tryd.ntmps38
    go_wp2
    all_goals
      go_ret
      refine ⟨?_, rfl⟩
      show _ = Ending.returned (.int .i64 (max x y))
      first | (rw [Int.max_eq_right (by omega)]; rfl) | (rw [Int.max_eq_left (by omega)]; rfl)
  · show Calls Tryd.prog 39 _ _ _
    clear e1 e2
    go_enter Tryd.func39, Tryd.ntmps39
    go_wp2
    all_goals
      go_ret
      refine ⟨?_, rfl⟩
      show _ = Ending.returned (.int .i64 (min x y))
      first | (rw [Int.min_eq_right (by omega)]; rfl) | (rw [Int.min_eq_left (by omega)]; rfl)
theorem ofTwo_any (h : Int) (hk : knI h) (x y : Int) (hx : hiI x) (hy : hiI y) (w : World) : Calls Tryd.prog 15 #[.int .i64 x, .int .i64 y, .int .u8 h] w fun e w' => e = .returned (.int .i64 (twoI h x y)) ∧ w' = w := by
  obtain ⟨x1, x2⟩ := hx
  obtain ⟨y1, y2⟩ := hy
  have e1 : IntKind.i64.wrap (x + y) = x + y := wrap_in (by omega) (by omega)
  have e2 : IntKind.i64.wrap (x - y) = x - y := wrap_in (by omega) (by omega)
  clear x1 x2 y1 y2
  rcases hk with rfl | rfl | rfl | rfl
  · go_enter Tryd.func15, Tryd.ntmps15
    go_wp2
    go_ret
    exact ⟨rfl, rfl⟩
  · go_enter Tryd.func15, Tryd.ntmps15
    go_wp2
    go_ret
    exact ⟨rfl, rfl⟩
  · clear e1 e2
    show Calls _ _ _ _ fun e w' => e = .returned (.int .i64 (max x y)) ∧ w' = w
    by_cases c : y < x
    · rw [Int.max_eq_left (by omega)]
      go_enter Tryd.func15, Tryd.ntmps15
      go_wp2
      go_ret
      exact ⟨rfl, rfl⟩
    · rw [Int.max_eq_right (by omega)]
      go_enter Tryd.func15, Tryd.ntmps15
      go_wp2
      go_ret
      exact ⟨rfl, rfl⟩
  · clear e1 e2
    show Calls _ _ _ _ fun e w' => e = .returned (.int .i64 (min x y)) ∧ w' = w
    by_cases c : x < y
    · rw [Int.min_eq_left (by omega)]
      go_enter Tryd.func15, Tryd.ntmps15
      go_wp2
      go_ret
      exact ⟨rfl, rfl⟩
    · rw [Int.min_eq_right (by omega)]
      go_enter Tryd.func15, Tryd.ntmps15
      go_wp2
      go_ret
      exact ⟨rfl, rfl⟩
theorem own_at {w : World} {base g n : Nat} {l : List Value} (h : w.ownsRow base 3 1 (.slice (some ⟨g, 0, none⟩) n n) n l) : At w g l := by
  obtain ⟨h1, h2⟩ := h
  rcases h2 with ⟨h2, _⟩ | ⟨g', cap, cur, hv, hb, hg, h3, h4, h5, h6⟩
  · cases h2
  · cases hv
    have e : cur.toList = l := by rw [← h6, List.take_of_length_le (by simp; omega)]
    have hlt : g < w.heap.size := by
      rcases Nat.lt_or_ge g w.heap.size with c | c
      · exact c
      · rw [Array.getElem?_eq_none c] at hg; cases hg
    refine ⟨fun i hi => ?_, hlt⟩
    subst e
    have hi' : i < cur.size := by simpa using hi
    constructor
    · simp [World.cell?, hg, hi']
    · simp [World.frozen?, hg]
theorem made_ir (n : Nat) : (madeCells #[Value.int .i64 0] n).toList = ir (List.replicate n 0) := by rw [toList_madeCells_one]; simp [ir]
set_option maxRecDepth 4000 in
set_option maxHeartbeats 4000000 in
theorem blank_any (W H : Int) (n : Nat) (hn : (n : Int) = W * H) (hn2 : n ≤ 20000) (w : World) : Calls Tryd.prog 28 #[.int .i64 W, .int .i64 H] w fun e w' => ∃ B, e = .returned (raV W H (.slice (some ⟨B, 0, none⟩) n n)) ∧ At w' B (ir (List.replicate n 0)) ∧ w.heap.size ≤ B ∧ Gr w w' := by
  have e1 : IntKind.i64.wrap (W * H) = (n : Int) := by rw [← hn]; exact wrap_in (by omega) (by omega)
  obtain ⟨i0, hi, hz0, hz1, hz2⟩ := info_parts infoI
  have G0 := hidb ((Gr.refl w).alloc (.cells #[.int .i64 0, .int .i64 0, .slice none 0 0] 27))
  have A0 := hidb (At.new3 w (.int .i64 0) (.int .i64 0) (.slice none 0 0) 27)
  clear hn
  go_enter Tryd.func28, Tryd.ntmps28
  go_wp2_with (refine wpList_make_full _ rfl _ _ 25 rfl w.heap.size 3 i0 (.int .i64 0) 1 undI hi hz0 hz1 .i64 .i64 _ _ n rfl rfl (by omega) (by omega) (by rw [hz2]; omega) (by unfold maxLen; omega) (by simp) ?_)
  intro w1 hown hgrow
  have hs : (w.alloc (.cells #[.int .i64 0, .int .i64 0, .slice none 0 0] 27)).heap.size = w.heap.size + 1 := by simp
  have hB : Below (w.alloc (.cells #[.int .i64 0, .int .i64 0, .slice none 0 0] 27)).heap.size (w.alloc (.cells #[.int .i64 0, .int .i64 0, .slice none 0 0] 27)) w1 := (Below.refl _ _).grown hgrow (Nat.le_refl _) (by intro k hk; cases hk)
  have G1 := hidb (Gr.step G0.out hB)
  have A1 := At.below hB A0.out
  rw [made_ir] at hown
  have AB := hidb (own_at hown)
  clear hown hgrow hB A0 G0 hs
  obtain ⟨a0, a1, a2⟩ := A1.c3
  obtain ⟨f0, f1, f2⟩ := A1.f3
  have AH := A1.has (n := 3) rfl
  have HA1 := hidb A1
  clear A1
  go_wp2
  refine bodyPost_ret (v := raV W H (.slice (some ⟨w.heap.size + 1, 0, none⟩) n n)) (by simp [results, Tryd.results28, go_sem, a0, a1, a2]) rfl ⟨_, rfl, ?_, by omega, ?_⟩
  · exact ((AB.out.skip (by omega) _ _).skip (by omega) _ _).skip (by omega) _ _
  · exact ((G1.out.set (Nat.le_refl _) _ _).set (Nat.le_refl _) _ _).set (Nat.le_refl _) _ _
end Go.Proofs.YtbhgibmobgojkaaDoor
namespace Go.Proofs.YtbhgibmobgojkaaDoor
open Go.RowKit

/-- Cell by cell. -/
def bothL (h : Int) (l l' : List Int) : List Int := List.zipWith (twoI h) l l'
theorem bothL_len {h : Int} {l l' : List Int} (e : l'.length = l.length) : (bothL h l l').length = l.length := by simp [bothL, e]
/-- So far: the first k are done. -/
def soFar (h : Int) (l l' : List Int) (k : Nat) : List Int := (bothL h l l').take k ++ List.replicate (l.length - k) 0
theorem soFar_set {h : Int} {l l' : List Int} (e : l'.length = l.length) {k : Nat} (hk : k < l.length) : (ir (soFar h l l' k)).set k (.int .i64 (twoI h l[k] (l'[k]'(by omega)))) = ir (soFar h l l' (k + 1)) := by
  have hz : k < (bothL h l l').length := by rw [bothL_len e]; exact hk
  apply List.ext_getElem
  · simp [soFar, bothL, e]; omega
  · intro i h1 h2
    simp only [List.getElem_set, ir, List.getElem_map]
    by_cases c : k = i
    · subst c
      rw [if_pos rfl]
      simp only [soFar]
      rw [List.getElem_append_left (by simp [bothL, e]; omega)]
      simp [bothL]
    · rw [if_neg c]
      simp only [soFar]
      by_cases c2 : i < k
      · rw [List.getElem_append_left (by simp [bothL, e]; omega), List.getElem_append_left (by simp [bothL, e]; omega)]
        simp
      · rw [List.getElem_append_right (by simp [bothL, e]; omega), List.getElem_append_right (by simp [bothL, e]; omega)]
        simp
theorem soFar_zero (h : Int) (l l' : List Int) : soFar h l l' 0 = List.replicate l.length 0 := by simp [soFar]
theorem soFar_end {h : Int} {l l' : List Int} (e : l'.length = l.length) : soFar h l l' l.length = bothL h l l' := by
  simp only [soFar, Nat.sub_self, List.replicate_zero, List.append_nil]
  exact List.take_of_length_le (by rw [bothL_len e]; exact Nat.le_refl _)
theorem At.isl {w : World} {B : Nat} {l : List Int} (h : At w B (ir l)) (cap : Nat) : ISl w (some ⟨B, 0, none⟩) B 0 cap l := by
  refine ISl.mk' (fun i hi => ?_) h.2
  have := (h.1 i (by simpa using hi)).1
  simpa using this
theorem vcode_zero {W H : Int} {l : List Int} (h : vcode W H l = 0) : (1 ≤ W ∧ W ≤ 128) ∧ (1 ≤ H ∧ H ≤ 128) ∧ (l.length : Int) = W * H ∧ ∀ x ∈ l, hiI x := by
  unfold vcode at h
  by_cases c1 : 128 < W ∨ 128 < H
  · rw [if_pos c1] at h; cases h
  · rw [if_neg c1] at h
    by_cases c2 : (W < 1 ∨ H < 1) ∨ ¬ (l.length : Int) = W * H
    · rw [if_pos c2] at h; cases h
    · rw [if_neg c2] at h
      by_cases c3 : ∀ x ∈ l, hiI x
      · exact ⟨⟨by omega, by omega⟩, ⟨by omega, by omega⟩, Classical.not_not.1 (fun hh => c2 (.inr hh)), c3⟩
      · rw [if_neg c3] at h; cases h
theorem acode_zero {W H W' H' : Int} {l l' : List Int} (h : acode W H l W' H' l' = 0) : vcode W H l = 0 ∧ vcode W' H' l' = 0 ∧ W = W' ∧ H = H' := by
  unfold acode at h
  by_cases c1 : vcode W H l = 0
  · rw [if_pos c1] at h
    by_cases c2 : vcode W' H' l' = 0
    · rw [if_pos c2] at h
      by_cases c3 : W = W' ∧ H = H'
      · exact ⟨c1, c2, c3.1, c3.2⟩
      · rw [if_neg c3] at h; cases h
    · rw [if_neg c2] at h; exact absurd h c2
  · rw [if_neg c1] at h; exact absurd h c1
/-- Which error. -/
def bcode (W H : Int) (l : List Int) (W' H' : Int) (l' : List Int) (h : Int) : Nat := if acode W H l W' H' l' = 0 then (if knI h then vcode W H (bothL h l l') else 3) else acode W H l W' H' l'
set_option maxRecDepth 4000 in
set_option maxHeartbeats 4000000 in
theorem both_no1 (g : Nat → Addr) (h : Int) {W H W' H' : Int} {ad ad' : Option Addr} {b b' o o' cap cap' : Nat} {l l' : List Int} (w : World) (hs : ISl w ad b o cap l) (hs' : ISl w ad' b' o' cap' l') (ll : l.length ≤ 20000) (ll' : l'.length ≤ 20000) (hl : Laid w g) (hc : ¬ acode W H l W' H' l' = 0) : Calls Tryd.prog 9 #[raV W H (.slice ad l.length cap), raV W' H' (.slice ad' l'.length cap'), .int .u8 h] w fun e w' => e = .returned (.tuple #[raV 0 0 (.slice none 0 0), evc g (acode W H l W' H' l')]) ∧ Gr w w' := by
  have C1 := hidb (fun w1 (hB : Gr w w1) => alike_any g (W := W) (H := H) (W' := W') (H' := H') w1 (hs.below hB.out) (hs'.below hB.out) ll ll' (hl.below hB.out))
  have G0 := hidb ((((Gr.refl w).alloc (.cells #[.int .i64 W, .int .i64 H, .slice ad l.length cap] 27)).alloc (.cells #[.int .i64 W', .int .i64 H', .slice ad' l'.length cap'] 27)).alloc (.cells #[.int .i64 0, .int .i64 0, .slice none 0 0] 27))
  have A0 := hidb (At.ny3 (W := w) (.cells #[.int .i64 W, .int .i64 H, .slice ad l.length cap] 27) (.cells #[.int .i64 W', .int .i64 H', .slice ad' l'.length cap'] 27) (.int .i64 0) (.int .i64 0) (.slice none 0 0) 27)
  clear hs hs' ll ll' hl
  obtain ⟨i, hi⟩ := evc_ne g hc
  rw [hi] at C1 ⊢
  clear hi hc
  go_enter Tryd.func9, Tryd.ntmps9
  go_wp2_with fail
  refine (C1.out _ G0.out).mono ?_
  rintro e w1 ⟨rfl, hB⟩
  replace G0 := hidb (Gr.step G0.out hB)
  have A1 := At.below hB.out A0.out
  obtain ⟨a0, a1, a2⟩ := A1.c3
  obtain ⟨f0, f1, f2⟩ := A1.f3
  have AH := A1.has (n := 3) rfl
  clear hB A0 A1
  go_wp2
  refine bodyPost_ret (v := .tuple #[raV 0 0 (.slice none 0 0), errV g i]) (by simp [results, Tryd.results9, go_sem, a0, a1, a2]) rfl ⟨rfl, ?_⟩
  exact ((G0.out.set (by omega) _ _).set (by omega) _ _).set (by omega) _ _
end Go.Proofs.YtbhgibmobgojkaaDoor
