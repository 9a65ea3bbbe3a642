/-
  grid.On.
-/
import Derived.Test.YthpbkomchdgneaaDoorQGsE
namespace Go.Proofs.YthpbkomchdgneaaDoor
open Go.RowKit

theorem index_s (b n cap k : Nat) (hk : k < n) (w : World) : (Instr.indexAt 35 (.slice (some ⟨b, 0, none⟩) n cap) (.int .i64 k)).run Tryd.prog w = .ok (.pointer (some ⟨b, k * 6, none⟩)) w := by
  refine (run_indexAt_slice (P := Tryd.prog) (w := w) 35 ⟨b, 0, none⟩ n cap .i64 (k : Int) (by kernel_rfl)).trans ?_
  rw [if_pos ⟨by omega, by omega⟩]
  have hs : (sizeOf (Tryd.prog.elem 35)).run Tryd.prog w = .ok 6 w := by kernel_rfl
  rw [hs]
  simp [Addr.add]
  intro h; exact h.symm
theorem index_t (b n cap k : Nat) (hk : k < n) (w : World) : (Instr.indexAt 40 (.slice (some ⟨b, 0, none⟩) n cap) (.int .i64 k)).run Tryd.prog w = .ok (.pointer (some ⟨b, k * 6, none⟩)) w := by
  refine (run_indexAt_slice (P := Tryd.prog) (w := w) 40 ⟨b, 0, none⟩ n cap .i64 (k : Int) (by kernel_rfl)).trans ?_
  rw [if_pos ⟨by omega, by omega⟩]
  have hs : (sizeOf (Tryd.prog.elem 40)).run Tryd.prog w = .ok 6 w := by kernel_rfl
  rw [hs]
  simp [Addr.add]
  intro h; exact h.symm
theorem At.c6 {W : World} {B : Nat} {a b c d e f : Value} (h : At W B [a, b, c, d, e, f]) : W.cell? ⟨B, 0, none⟩ = some a ∧ W.cell? ⟨B, 1, none⟩ = some b ∧ W.cell? ⟨B, 2, none⟩ = some c ∧ W.cell? ⟨B, 3, none⟩ = some d ∧ W.cell? ⟨B, 4, none⟩ = some e ∧ W.cell? ⟨B, 5, none⟩ = some f := ⟨(h.1 0 (by simp)).1, (h.1 1 (by simp)).1, (h.1 2 (by simp)).1, (h.1 3 (by simp)).1, (h.1 4 (by simp)).1, (h.1 5 (by simp)).1⟩
/-- Is a point on a sheet; on which ones of a list. -/
def onB (s : Sh) (px py : Int) : Bool := inI s.a s.x px && inI s.b s.y py
def onAt (l : List Sh) (px py : Int) (i : Nat) : Bool := match l[i]? with | some s => onB s px py | none => false
def onI (l : List Sh) (px py : Int) (n : Nat) : List Int := ((List.range n).filter (onAt l px py)).map fun (i : Nat) => (i : Int)
theorem onAt_get {l : List Sh} {px py : Int} {i : Nat} (h : i < l.length) : onAt l px py i = onB l[i] px py := by
  unfold onAt
  rw [List.getElem?_eq_getElem h]
theorem onI_yes {l : List Sh} {px py : Int} {n : Nat} (h : onAt l px py n = true) : onI l px py n ++ [(n : Int)] = onI l px py (n + 1) := by
  simp [onI, List.range_succ, List.filter_append, h]
theorem onI_no {l : List Sh} {px py : Int} {n : Nat} (h : onAt l px py n = false) : onI l px py n = onI l px py (n + 1) := by
  simp [onI, List.range_succ, List.filter_append, h]
theorem onI_len (l : List Sh) (px py : Int) (n : Nat) : (onI l px py n).length ≤ n := by
  simp only [onI, List.length_map]
  exact Nat.le_trans (List.length_filter_le _ _) (by simp)
/-- The cells of a list of sheets, from the head of a block on. -/
def Cel (w : World) (b : Nat) (l : List Sh) : Prop := ∀ k, (h : k < l.length) → (w.cell? ⟨b, k * 6, none⟩ = some (.int .i64 l[k].c) ∧ w.cell? ⟨b, k * 6 + 1, none⟩ = some (.int .i64 l[k].r) ∧ w.cell? ⟨b, k * 6 + 2, none⟩ = some (.int .i64 l[k].a) ∧ w.cell? ⟨b, k * 6 + 3, none⟩ = some (.int .i64 l[k].b) ∧ w.cell? ⟨b, k * 6 + 4, none⟩ = some (.int .i64 l[k].x) ∧ w.cell? ⟨b, k * 6 + 5, none⟩ = some (.int .i64 l[k].y))
theorem Cel.below {w w' : World} {b : Nat} {l : List Sh} (h : Cel w b l) (hb : l = [] ∨ b < w.heap.size) (hB : Below w.heap.size w w') : Cel w' b l := by
  intro k hk
  have h5 : b < w.heap.size := hb.resolve_left (by intro e; rw [e] at hk; simp at hk)
  obtain ⟨k0, k1, k2, k3, k4, k5⟩ := h k hk
  have e := fun j => hB.cell (p := ⟨b, j, none⟩) h5
  exact ⟨(e _).trans k0, (e _).trans k1, (e _).trans k2, (e _).trans k3, (e _).trans k4, (e _).trans k5⟩
set_option maxRecDepth 4000 in
set_option maxHeartbeats 8000000 in
theorem on_gen (ad : Option Addr) (b cap : Nat) (l : List Sh) (px py : Int) (hn : l.length ≤ 4000) (w : World) (c : Cel w b l) (hb : l = [] ∨ b < w.heap.size)
    (ia : ∀ k : Nat, k < l.length → ∀ w, (Instr.indexAt 35 (.slice ad l.length cap) (.int .i64 k)).run Tryd.prog w = .ok (.pointer (some ⟨b, k * 6, none⟩)) w) :
    Calls Tryd.prog 13 #[.slice ad l.length cap, .agg #[.int .i64 px, .int .i64 py]] w fun e w' => ∃ v, e = .returned v ∧ RowI w' v (onI l px py l.length) ∧ Gr w w' := by
  have HA := hidb c
  have HB := hidb hb
  have IA := hidb ia
  clear c hb ia
  obtain ⟨p, hp⟩ : ∃ p, p = l.length := ⟨_, rfl⟩
  rw [← hp] at IA hn
  rw [← hp]
  have HP := hidb hp
  clear hp
  obtain ⟨i0, hi, hz0, hz1, hz2⟩ := info_parts infoI
  go_enter Tryd.func13, Tryd.ntmps13
  go_wp2
  have PA : At (w.alloc (.cells #[.int .i64 px, .int .i64 py] 32)) w.heap.size [.int .i64 px, .int .i64 py] := At.new2 w _ _ _
  have HC : Gr w (w.alloc (.cells #[.int .i64 px, .int .i64 py] 32)) := (Gr.refl w).alloc _
  generalize w.alloc (.cells #[.int .i64 px, .int .i64 py] 32) = w1 at PA HC ⊢
  go_loopw [5, 10] (fun v t wr => ∃ (k : Nat), k ≤ p ∧ t = .int .i64 k ∧ wr.ownsRow (w.heap.size + 1) 3 1 v (onI l px py k).length (ir (onI l px py k)) ∧ At wr w.heap.size [.int .i64 px, .int .i64 py] ∧ Gr w wr) (fun _ t _ => p - (intOf t).toNat)
  case atStart => exact ⟨0, by omega, rfl, by simpa [onI] using World.ownsRow_nil w1 _ _ _, PA, HC⟩
  case round =>
    clear PA HC
    obtain ⟨k, hk, rfl, hown, PA, HC⟩ := hrel
    by_cases h1 : k < p
    · have h1a : k < l.length := by rw [← HP.out]; exact h1
      have hcel := (HA.out.below HB.out HC.out) k h1a
      have hoa := onAt_get (px := px) (py := py) h1a
      generalize l[k] = s at hcel hoa
      obtain ⟨sc', sr, sa, sb, sx, sy⟩ := s
      obtain ⟨q0, q1, q2, q3, q4, q5⟩ := hcel
      simp only at q0 q1 q2 q3 q4 q5
      have ixa := IA.out k h1
      have h1' : (k : Int) < (p : Int) := by omega
      have e5 : IntKind.i64.wrap ((k : Int) + 1) = ((k + 1 : Nat) : Int) := by rw [wr64 (by omega) (by omega)]; simp
      have hlen := onI_len l px py k
      have HLN := hidb hlen
      have HOA := hidb hoa
      have HH1 := hidb h1
      clear hlen hoa h1 hk h1a
      go_upto_region 5 with fail
      have KA : At (wr.alloc (.cells #[.int .i64 sc', .int .i64 sr, .int .i64 sa, .int .i64 sb, .int .i64 sx, .int .i64 sy] 46)) wr.heap.size [.int .i64 sc', .int .i64 sr, .int .i64 sa, .int .i64 sb, .int .i64 sx, .int .i64 sy] := At.newRow wr [.int .i64 sc', .int .i64 sr, .int .i64 sa, .int .i64 sb, .int .i64 sx, .int .i64 sy] 46
      replace PA := PA.alloc (.cells #[.int .i64 sc', .int .i64 sr, .int .i64 sa, .int .i64 sb, .int .i64 sx, .int .i64 sy] 46)
      replace HC := HC.alloc (.cells #[.int .i64 sc', .int .i64 sr, .int .i64 sa, .int .i64 sb, .int .i64 sx, .int .i64 sy] 46)
      replace hown := hown.alloc (.cells #[.int .i64 sc', .int .i64 sr, .int .i64 sa, .int .i64 sb, .int .i64 sx, .int .i64 sy] 46)
      generalize hwd : wr.alloc (.cells #[.int .i64 sc', .int .i64 sr, .int .i64 sa, .int .i64 sb, .int .i64 sx, .int .i64 sy] 46) = w2 at KA PA HC hown ⊢
      clear hwd q0 q1 q2 q3 q4 q5 ixa
      generalize wr.heap.size = B7 at KA ⊢
      obtain ⟨s0, s1, s2, s3, s4, s5⟩ := KA.c6
      obtain ⟨p0, p1⟩ := PA.c2
      have lPA := PA.lt
      go_wp2_with fail
      refine (within_any _ _ _ _).mono ?_
      rintro e w3 ⟨rfl, rfl⟩
      cases hin : inI sa sx px with
      | false =>
        have HN := hidb (onI_no (by rw [HOA.out]; unfold onB; simp only; rw [hin]; rfl))
        clear hin
        go_wp2
        go_roundw
        case rel => exact ⟨k + 1, HH1.out, rfl, by rw [← HN.out]; exact hown, PA, HC⟩
        case measure => have := HH1.out; simp [intOf]; omega
      | true =>
        go_wp2_with fail
        refine (within_any _ _ _ _).mono ?_
        rintro e w3 ⟨rfl, rfl⟩
        cases hin2 : inI sb sy py with
        | false =>
          have HN := hidb (onI_no (by rw [HOA.out]; unfold onB; simp only; rw [hin, hin2]; rfl))
          clear hin hin2
          go_wp2
          go_roundw
          case rel => exact ⟨k + 1, HH1.out, rfl, by rw [← HN.out]; exact hown, PA, HC⟩
          case measure => have := HH1.out; simp [intOf]; omega
        | true =>
          have HN := hidb (onI_yes (by rw [HOA.out]; unfold onB; simp only; rw [hin, hin2]; rfl))
          clear hin hin2
          go_wp2_with (at_builtin; refine wpList_append_own _ rfl _ _ 44 rfl (w.heap.size + 1) 3 i0 (.int .i64 0) 1 8 undI hi hz0 hz1 hz2 rfl (by decide) _ _ _ rfl (hown.alloc _) ⟨w3.heap.size, 0, none⟩ 1 1 [.int .i64 (k : Int)] rfl rfl ?c1 ?c2 ?c3 ?c4 ?c5 ?_)
          case c1 => intro j u hj; exact news1 hj (by simp [go_sem, Addr.add])
          case c2 => intro u hu; simp at hu; subst hu; rfl
          case c3 => have := HLN.out; have := HH1.out; unfold maxLen; omega
          case c4 => have := HLN.out; have := HH1.out; omega
          case c5 => simp; omega
          intro v' w6 hown' hgrow _
          have PA6 : At w6 w.heap.size [.int .i64 px, .int .i64 py] := (PA.alloc _).grown hgrow (by intro e; have := (hown.lt _ e.symm).1; omega)
          have HC6 : Gr w w6 := Below.grown (HC.alloc _) hgrow (by have := HC.out.size; simp; omega) (fun n hn => by have := (hown.lt n hn).1; omega)
          rw [ir_snoc, HN.out] at hown'
          have HLE : Hid ((onI l px py k).length + 1 = (onI l px py (k + 1)).length) := by show _ = _; rw [← HN.out]; simp
          rw [HLE.out] at hown'
          clear hgrow hown PA HC KA s0 s1 s2 s3 s4 s5 p0 p1
          go_wp2
          go_roundw
          case rel => exact ⟨k + 1, HH1.out, rfl, hown', PA6, HC6⟩
          case measure => have := HH1.out; simp [intOf]; omega
    · have h1' : ¬ (k : Int) < (p : Int) := by omega
      obtain rfl : k = p := by omega
      have HRI := hidb (own_ri hown).1
      clear h1 hk hown
      go_wp2
      go_ret
      exact ⟨_, rfl, HRI.out, HC⟩
theorem on_any {w : World} {v : Value} {l : List Sh} (px py : Int) (hn : l.length ≤ 4000) (h : RowS w v l) : Calls Tryd.prog 13 #[v, .agg #[.int .i64 px, .int .i64 py]] w fun e w' => ∃ v', e = .returned v' ∧ RowI w' v' (onI l px py l.length) ∧ Gr w w' := by
  rcases h with ⟨rfl, rfl⟩ | ⟨b, cap, rfl, h4, h5⟩
  · exact on_gen none 0 0 [] px py hn w (fun k h => by simp at h) (.inl rfl) (fun k h => by simp at h)
  · exact on_gen (some ⟨b, 0, none⟩) b cap l px py hn w h4 (.inr h5) (fun k hk w => index_s b _ cap k hk w)
end Go.Proofs.YthpbkomchdgneaaDoor
