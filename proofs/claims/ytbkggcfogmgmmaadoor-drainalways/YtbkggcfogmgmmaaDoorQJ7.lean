/-
  A flood's heights: they never fall from one that is taken to the next; none is higher than it must be. No Go text of its own.; mercatorref4.lower, Wet: where a height is told as a whole number: what is wet is joined by cells that are not above it.
-/
import Derived.Test.YtbkggcfogmgmmaaDoorQJ5
import Derived.Test.YtbkggcfogmgmmaaDoorQDrT
import Derived.Test.YtbkggcfogmgmmaaDoorQDrR
namespace Go.Proofs.YtbkggcfogmgmmaaDoor
open Go.RowKit

section
variable (m n : Nat) (l : List Int)
/-- What holds of the heights, as far as the flood has come. -/
structure FH (S : FS) : Prop where
  mono : ∀ t x, S.st t = 2 → S.st x ≠ 0 → (S.st x = 1 → S.fi t ≤ S.fi x)
  fix : ∀ i, S.st i ≠ 0 → (rim m n i → S.fi i = gl l i) ∧ (¬ rim m n i → S.fi i = up1 (gl l i) (S.fi (S.tw i)) ∧ S.st (S.tw i) = 2)
  nb : ∀ y x, S.st y = 2 → x < l.length → tch m y x → S.st x ≠ 0 ∧ S.fi x ≤ up1 (gl l x) (S.fi y)
theorem up1_le {x y : Int} : x ≤ up1 x y ∧ y ≤ up1 x y := by unfold up1; split <;> omega
theorem up1_mono {x y z : Int} (h : y ≤ z) : up1 x y ≤ up1 x z := by unfold up1; split <;> split <;> omega
theorem FH0 : FH m n l (fs0 m n l) := by
  have hst : ∀ i, (fs0 m n l).st i = if i < l.length ∧ rim m n i then 1 else 0 := fun _ => rfl
  refine ⟨fun t x ht => ?_, fun i hi => ?_, fun y x hy => ?_⟩
  · rw [hst] at ht; split at ht <;> omega
  · rw [hst] at hi
    have hr : i < l.length ∧ rim m n i := by
      by_cases c : i < l.length ∧ rim m n i
      · exact c
      · rw [if_neg c] at hi; exact absurd rfl hi
    refine ⟨fun _ => ?_, fun h => absurd hr.2 h⟩
    show (if i < l.length ∧ rim m n i then gl l i else 0) = gl l i
    rw [if_pos hr]
  · rw [hst] at hy; split at hy <;> omega
theorem FH.step {S : FS} (h : FH m n l S) (hI : FI m n l S) {b : Nat} (hb : isB S l.length b) : FH m n l (stepF m l S b) := by
  have hst : ∀ i, (stepF m l S b).st i = if i = b then 2 else if New m l S b i then 1 else S.st i := fun _ => rfl
  have hfi : ∀ i, (stepF m l S b).fi i = if New m l S b i then up1 (gl l i) (S.fi b) else S.fi i := fun _ => rfl
  have htw : ∀ i, (stepF m l S b).tw i = if New m l S b i then b else S.tw i := fun _ => rfl
  have hb1 : S.st b = 1 := hb.2.1
  have hbn : ¬ New m l S b b := fun c => by have := c.2.1; omega
  have hmin : ∀ x, S.st x = 1 → S.fi b ≤ S.fi x := fun x hx => by
    have h1 := hb.2.2 x (hI.lt m n l (by omega)) hx
    unfold wlt at h1
    simp only at h1
    omega
  -- of a cell that is taken now: it was taken, or it is b
  have htk : ∀ t, (stepF m l S b).st t = 2 → ¬ New m l S b t ∧ (S.st t = 2 ∨ t = b) := fun t ht => by
    rw [hst] at ht
    by_cases e : t = b
    · rw [e]; exact ⟨hbn, .inr rfl⟩
    · rw [if_neg e] at ht
      by_cases c : New m l S b t
      · rw [if_pos c] at ht; omega
      · rw [if_neg c] at ht; exact ⟨c, .inl ht⟩
  have hle : ∀ t, (stepF m l S b).st t = 2 → S.fi t ≤ S.fi b := fun t ht => by
    rcases (htk t ht).2 with c | c
    · exact h.mono t b c (by omega) hb1
    · rw [c]; exact Int.le_refl _
  have hkeep : ∀ x, S.st x ≠ 0 → (stepF m l S b).st x ≠ 0 ∧ (stepF m l S b).fi x = S.fi x ∧ (stepF m l S b).tw x = S.tw x := fun x hx => by
    have c : ¬ New m l S b x := fun c => hx c.2.1
    rw [hst, hfi, htw, if_neg c, if_neg c, if_neg c]
    exact ⟨by split <;> omega, rfl, rfl⟩
  refine ⟨fun t x ht hx hx1 => ?_, fun i hi => ?_, fun y x hy hx hxy => ?_⟩
  · obtain ⟨hn, _⟩ := htk t ht
    rw [hfi t, if_neg hn]
    have h1 := hle t ht
    by_cases c : New m l S b x
    · rw [hfi x, if_pos c]
      have := (up1_le (x := gl l x) (y := S.fi b)).2
      omega
    · rw [hfi x, if_neg c]
      rw [hst] at hx1
      by_cases e : x = b
      · rw [if_pos e] at hx1; omega
      · rw [if_neg e, if_neg c] at hx1
        have := hmin x hx1
        omega
  · by_cases c : New m l S b i
    · have hnr : ¬ rim m n i := fun hr => hI.rim i c.1 hr c.2.1
      refine ⟨fun hr => absurd hr hnr, fun _ => ?_⟩
      rw [hfi i, if_pos c, htw i, if_pos c, hfi b, if_neg hbn, hst b, if_pos rfl]
      exact ⟨rfl, rfl⟩
    · have hi0 : S.st i ≠ 0 := by
        by_cases e : i = b
        · rw [e]; omega
        · rw [hst, if_neg e, if_neg c] at hi; exact hi
      obtain ⟨f1, f2⟩ := h.fix i hi0
      rw [hfi i, if_neg c, htw i, if_neg c]
      refine ⟨f1, fun hr => ?_⟩
      obtain ⟨g1, g2⟩ := f2 hr
      have k := hkeep (S.tw i) (by omega)
      rw [k.2.1]
      refine ⟨g1, ?_⟩
      rw [hst]
      by_cases e : S.tw i = b
      · rw [if_pos e]
      · rw [if_neg e, if_neg (fun c2 => by have := c2.2.1; omega)]; exact g2
  · obtain ⟨hn, hc⟩ := htk y hy
    rw [hfi y, if_neg hn]
    rcases hc with c | c
    · obtain ⟨k1, k2⟩ := h.nb y x c hx hxy
      have k := hkeep x k1
      exact ⟨k.1, by rw [k.2.1]; exact k2⟩
    · subst c
      by_cases cn : New m l S y x
      · rw [hfi x, if_pos cn]
        refine ⟨?_, Int.le_refl _⟩
        rw [hst]
        split
        · omega
        · first | omega | (rw [if_pos cn]; omega)
      · have hx0 : S.st x ≠ 0 := fun h0 => cn ⟨hx, h0, hxy⟩
        have k := hkeep x hx0
        refine ⟨k.1, ?_⟩
        rw [k.2.1]
        obtain ⟨f1, f2⟩ := h.fix x hx0
        by_cases hr : rim m n x
        · rw [f1 hr]; exact up1_le.1
        · obtain ⟨g1, g2⟩ := f2 hr
          rw [g1]
          exact up1_mono (h.mono _ y g2 (by omega) hb1)
variable (hm : 1 ≤ m) (hl : l.length = m * n)
include hm hl
theorem flo_h : ∀ k, k ≤ l.length → FH m n l (flo m n l k)
  | 0, _ => FH0 m n l
  | k + 1, hk => by
    obtain ⟨b, hb⟩ := flo_some m n l hm hl (k := k) (by omega)
    rw [flo_next m n l hb]
    exact (flo_h k (by omega)).step m n l (flo_inv m n l hm hl k (by omega)).1 hb
omit hm hl
/-- The height of the water on a cell at the end. -/
def fih (c : Nat) : Int := (flo m n l l.length).fi c
include hm hl
theorem fih_ge {c : Nat} (hc : c < l.length) : gl l c ≤ fih m n l c := by
  have h := (flo_h m n l hm hl l.length (Nat.le_refl _)).fix c (by rw [flo_all m n l hm hl c hc]; omega)
  unfold fih
  by_cases hr : rim m n c
  · rw [h.1 hr]; exact Int.le_refl _
  · rw [(h.2 hr).1]; exact up1_le.1
theorem fih_tw {c : Nat} (hc : c < l.length) : fih m n l (tw m n l c) ≤ fih m n l c := by
  have h := (flo_h m n l hm hl l.length (Nat.le_refl _)).fix c (by rw [flo_all m n l hm hl c hc]; omega)
  by_cases hr : rim m n c
  · rw [(tw_fix m n l hm hl hc).2 hr]; exact Int.le_refl _
  · have h2 := (h.2 hr).1
    unfold fih
    rw [h2]
    exact up1_le.2
theorem fih_nb {x y : Nat} (hx : x < l.length) (hy : y < l.length) (h : tch m y x) : fih m n l x ≤ up1 (gl l x) (fih m n l y) :=
  ((flo_h m n l hm hl l.length (Nat.le_refl _)).nb y x (flo_all m n l hm hl y hy) hx h).2
theorem fih_rim {c : Nat} (hc : c < l.length) (hr : rim m n c) : fih m n l c = gl l c :=
  ((flo_h m n l hm hl l.length (Nat.le_refl _)).fix c (by rw [flo_all m n l hm hl c hc]; omega)).1 hr
omit hm hl
/-- Joined by cells that are not above h. -/
inductive Rch (h : Int) (c : Nat) : Nat → Prop
  | here : gl l c ≤ h → c < l.length → Rch h c c
  | on {k i : Nat} : Rch h c k → i < l.length → gl l i ≤ h → tch m i k → Rch h c i
include hm hl
/-- If a cell of the rim is joined to c, the water stands there no higher. -/
theorem Rch.low {h : Int} {c k : Nat} (hR : Rch m l h c k) : k < l.length ∧ gl l k ≤ h ∧ (fih m n l k ≤ h → fih m n l c ≤ h) := by
  induction hR with
  | here h1 h2 => exact ⟨h2, h1, id⟩
  | @on k i _ hi hh ht ih =>
    refine ⟨hi, hh, fun hf => ih.2.2 ?_⟩
    have := fih_nb m n l hm hl ih.1 hi ht
    have h2 := ih.2.1
    have h3 := up1_mono (x := gl l k) hf
    refine Int.le_trans this (Int.le_trans h3 ?_)
    unfold up1
    split
    · exact Int.le_refl _
    · exact h2
theorem Rch.none {h : Int} {c k : Nat} (hR : Rch m l h c k) (hf : h < fih m n l c) : ¬ rim m n k := fun hr => by
  obtain ⟨h1, h2, h3⟩ := Rch.low m n l hm hl hR
  have := h3 (by rw [fih_rim m n l hm hl h1 hr]; exact h2)
  omega
end
end Go.Proofs.YtbkggcfogmgmmaaDoor
namespace Go.Proofs.YtbkggcfogmgmmaaDoor
open Go.RowKit
attribute [local go_sem ↓] Go.wp_at_zero Go.wp_at_succ

abbrev br (l : List Bool) : List Value := l.map Value.bool
def glb (l : List Bool) (i : Nat) : Bool := l.getD i false
theorem glb_get {l : List Bool} {i : Nat} (h : i < l.length) : l[i] = glb l i := by unfold glb; simp [h]
theorem infoB : (Tryd.prog.info? 4).map (fun i => (i.zero, i.size, i.bytes)) = some (some (.bool false), 1, 1) := by kernel_rfl
theorem undB : Tryd.prog.underlying 48 = some (.slice 4) := by kernel_rfl
theorem made_runB (K : Nat) (hK : K ≤ 20000) : ∃ CS : Array Value, CS.toList = br (List.replicate K false) ∧ ∀ w, (Instr.makeSlice 48 (.int .i64 (K : Int)) (.int .i64 (K : Int))).run Tryd.prog w = .ok (.slice (some ⟨w.heap.size, 0, none⟩) K K) (w.alloc (.cells CS 4)) := by
  obtain ⟨i0, hi, hz0, hz1, hz2⟩ := info_parts infoB
  refine ⟨madeCells #[Value.bool false] K, by rw [toList_madeCells_one]; simp [br], fun w => ?_⟩
  have := run_makeSlice (P := Tryd.prog) w 48 4 i0 (.bool false) undB hi hz0 .i64 .i64 (K : Int) (K : Int) (by omega) (Int.le_refl _) (by rw [hz1]; omega) (by rw [hz2]; omega) (by omega)
  rw [hz1, Int.toNat_natCast, Nat.mul_one] at this
  exact this
theorem bindex (b n cap k : Nat) (hk : k < n) (w : World) : (Instr.indexAt 48 (.slice (some ⟨b, 0, none⟩) n cap) (.int .i64 k)).run Tryd.prog w = .ok (.pointer (some ⟨b, k, none⟩)) w := by
  have hu : Tryd.prog.underlying 48 = some (.slice (Tryd.prog.elem 48)) := by kernel_rfl
  refine (run_indexAt_slice (P := Tryd.prog) (w := w) 48 ⟨b, 0, none⟩ n cap .i64 (k : Int) hu).trans ?_
  rw [if_pos ⟨by omega, by omega⟩]
  have hs : (sizeOf (Tryd.prog.elem 48)).run Tryd.prog w = .ok 1 w := by kernel_rfl
  rw [hs]
  simp [Addr.add]
  intro h; omega
theorem At.getb {W : World} {B : Nat} {L : List Bool} (h : At W B (br L)) {j : Nat} (hj : j < L.length) : W.cell? ⟨B, j, none⟩ = some (.bool (glb L j)) ∧ W.frozen? ⟨B, j, none⟩ = false := by
  have := h.1 j (by simpa [br] using hj)
  rw [← glb_get hj]
  simpa [br] using this
theorem br_set (L : List Bool) (i : Nat) (x : Bool) : (br L).set i (.bool x) = br (L.set i x) := by simp [br]
theorem lower_any (h num : Int) (hh : -9223372036854775808 ≤ h ∧ h ≤ 9223372036854775807) (w : World) : Calls Tryd.prog 50 #[.int .i64 h, .int .i64 num, .int .i64 1, .bool true] w fun e w' => e = .returned (.bool (decide (h ≤ num))) ∧ w' = w := by
  have e1 : IntKind.i64.wrap (h * 1) = h := by rw [Int.mul_one]; exact wrap_in (by omega) (by omega)
  have e2 : IntKind.i64.wrap h = h := wrap_in (by omega) (by omega)
  clear hh
  by_cases c : h ≤ num
  · go_enter Tryd.func50, Tryd.ntmps50
    go_wp2
    go_ret
    exact ⟨by rw [decide_eq_true c]; rfl, rfl⟩
  · go_enter Tryd.func50, Tryd.ntmps50
    go_wp2
    go_ret
    exact ⟨by rw [show decide (h ≤ num) = false from decide_eq_false (by omega)]; rfl, rfl⟩
/-- How many are not wet. -/
def cf : List Bool → Nat
  | [] => 0
  | b :: l => cf l + if b then 0 else 1
theorem cf_set : ∀ {l : List Bool} {i : Nat}, i < l.length → glb l i = false → cf (l.set i true) + 1 = cf l
  | b :: l, 0, _, h => by
    have : b = false := h
    subst this
    show cf l + 0 + 1 = cf l + 1
    omega
  | b :: l, i + 1, hi, h => by
    have ih := cf_set (l := l) (i := i) (by simp at hi; omega) h
    show cf (l.set i true) + (if b then 0 else 1) + 1 = cf l + (if b then 0 else 1)
    omega
theorem glb_set {L : List Bool} {i : Nat} (h : i < L.length) (x : Bool) (k : Nat) : glb (L.set i x) k = if k = i then x else glb L k := by
  unfold glb
  by_cases e : k = i
  · subst e; simp [h]
  · rw [if_neg e]
    simp [List.getElem?_set_ne (Ne.symm e)]
/-- What lies in memory, and what is wet so far. -/
structure WS (m n : Nat) (l : List Int) (num : Int) (c : Nat) (w W : World) (B : Nat) (L : List Bool) : Prop where
  d : At W B (br L)
  gr : Gr w W
  b : w.heap.size ≤ B
  len : L.length = l.length
  ok : ∀ k, glb L k = true → Rch m l num c k
section
variable {m n : Nat} {l : List Int} {num : Int} {c : Nat} {w W : World} {B : Nat} {L : List Bool}
theorem WS.below {w' : World} (h : WS m n l num c w W B L) (hB : Below W.heap.size W w') : WS m n l num c w w' B L := ⟨At.below hB h.d, Gr.step h.gr hB, h.b, h.len, h.ok⟩
theorem WS.put (h : WS m n l num c w W B L) {i : Nat} (hi : i < l.length) (hr : Rch m l num c i) : WS m n l num c w (W.setCell ⟨B, i, none⟩ (.bool true)) B (L.set i true) := by
  refine ⟨?_, h.gr.set h.b _ _, h.b, by rw [List.length_set]; exact h.len, fun k hk => ?_⟩
  · rw [← br_set]; exact h.d.put i _
  · rw [glb_set (by rw [h.len]; exact hi)] at hk
    by_cases e : k = i
    · rw [e]; exact hr
    · rw [if_neg e] at hk; exact h.ok k hk
end
set_option maxRecDepth 4000 in
set_option maxHeartbeats 8000000 in
theorem wet_any {m n pb po Lb Lo Lcap : Nat} {l : List Int} (c : Nat) (num : Int) (hc : c < l.length) (w : World) (hp : PtR w pb po m n (.slice (some ⟨Lb, Lo, none⟩) l.length Lcap)) (hR : Rs w Lb Lo Lcap l) (ok : Ok l m n) : Calls Tryd.prog 28 #[.pointer (some ⟨pb, po, none⟩), .int .i64 (c : Int), .int .i64 num, .int .i64 1, .bool true] w fun e w' => ∃ B, e = .returned (.slice (some ⟨B, 0, none⟩) l.length l.length) ∧ ∃ L, WS m n l num c w w' B L := by
  have hlen := ok.len_le
  obtain ⟨CS, hCS, mk⟩ := made_runB l.length (by omega)
  have hhi : ∀ i, -9223372036854775808 ≤ gl l i ∧ gl l i ≤ 9223372036854775807 := fun i => by have := ok.hi i; unfold hiI at this; omega
  have HLo := hidb (fun i W => lower_any (gl l i) num (hhi i) W)
  have HTo := hidb (fun i k (hi : i < l.length) (hk : k < l.length) W (hG : Gr w W) => touchOf_any (pb := pb) (po := po) i k ok.m1 (by omega) (by omega) W (hp.below hG.out))
  have HPt := hidb (fun W (hG : Gr w W) => (hp.below hG.out).all)
  have HRs := hidb (fun W (hG : Gr w W) => hR.below hG.out)
  have HCS := hidb hCS
  have HL := hidb (show c < l.length ∧ l.length ≤ 16384 from ⟨hc, hlen⟩)
  obtain ⟨N, hN⟩ : ∃ N, N = l.length := ⟨_, rfl⟩
  have HN := hidb hN
  rw [← hN] at mk HPt HTo HL HCS ⊢
  have hcN : c < N := by omega
  clear hp hR ok hlen hCS hhi hN hc
  go_enter Tryd.func28, Tryd.ntmps28
  obtain ⟨p0, p1, p2⟩ := HPt.out _ (Gr.refl w)
  have G0 := (Gr.refl w).alloc (.cells CS 4)
  have A0 : At (w.alloc (.cells CS 4)) w.heap.size (br (List.replicate N false)) := by rw [← HCS.out]; exact At.newArr _ _ _
  go_upto_region 2 with fail
  clear p0 p1 p2
  obtain ⟨B, hBd⟩ : ∃ B, B = w.heap.size := ⟨_, rfl⟩
  rw [← hBd] at A0 ⊢
  have HB := hidb (show w.heap.size ≤ B by omega)
  clear hBd mk HCS
  generalize w.alloc (.cells CS 4) = w1 at *
  obtain ⟨p0, p1, p2⟩ := HPt.out _ G0
  have ixL := iindex Lb Lo N Lcap c hcN
  have cL := (HRs.out _ G0).get (i := c) (by rw [← HN.out]; exact hcN)
  have ixB := bindex B N N c hcN
  obtain ⟨cB, fB⟩ := A0.getb (j := c) (by rw [List.length_replicate]; exact hcN)
  go_wp2_with fail
  refine (HLo.out c _).mono ?_
  rintro e w2 ⟨rfl, rfl⟩
  -- how it begins
  have E0 : Hid (WS m n l num c w (w2.setCell ⟨B, c, none⟩ (.bool (decide (gl l c ≤ num)))) B ((List.replicate N false).set c (decide (gl l c ≤ num)))) := by
    refine ⟨?_, G0.set HB.out _ _, HB.out, by rw [List.length_set, List.length_replicate, HN.out], fun k hk => ?_⟩
    · rw [← br_set]; exact A0.put c _
    · rw [glb_set (by rw [List.length_replicate]; exact hcN)] at hk
      by_cases e : k = c
      · rw [if_pos e] at hk
        rw [e]
        exact .here (of_decide_eq_true hk) (by rw [← HN.out]; exact hcN)
      · rw [if_neg e] at hk
        have : glb (List.replicate N false) k = false := by unfold glb; rw [List.getD_eq_getElem?_getD, List.getElem?_replicate]; split <;> rfl
        rw [this] at hk
        cases hk
  generalize decide (gl l c ≤ num) = b0 at *
  go_upto_region 3 with fail
  have cB2 : (w2.setCell ⟨B, c, none⟩ (.bool b0)).cell? ⟨B, c, none⟩ = some (.bool b0) := ((A0.put c (.bool b0)).1 c (by simp [br]; exact hcN)).1.trans (by simp)
  generalize w2.setCell ⟨B, c, none⟩ (.bool b0) = w3 at *
  generalize (List.replicate N false).set c b0 = L0 at *
  clear A0 G0 cB fB cL p0 p1 p2 ixL
  go_wp2
  clear cB2 ixB
  go_loopg [12] (2 * cf L0 + 1) (fun gk s wr => ∃ (b : Bool) (L : List Bool), s = .bool b ∧ Hid (WS m n l num c w wr B L ∧ 2 * cf L + (if b then 1 else 0) ≤ gk))
  case atStart => exact ⟨b0, L0, rfl, hidb ⟨E0.out, by split <;> omega⟩⟩
  case round =>
    clear E0
    obtain ⟨b, L, rfl, E⟩ := hrel
    cases b with
    | false =>
      go_wp2
      go_ret
      exact ⟨B, rfl, L, E.out.1⟩
    | true =>
      have HC := hidb (show 2 * cf L + 1 ≤ gk from E.out.2)
      have E1 := hidb E.out.1
      obtain ⟨C0, hC0⟩ : ∃ C, C = cf L := ⟨_, rfl⟩
      rw [← hC0] at HC
      have HC0 := hidb hC0
      clear E hC0
      go_wp2
      go_loopw [12, 13] (fun s t wr => ∃ (b : Bool) (i : Nat) (L : List Bool), i ≤ N ∧ s = .bool b ∧ t = .int .i64 (i : Int) ∧ Hid (WS m n l num c w wr B L ∧ cf L ≤ C0 ∧ (b = true → cf L < C0))) (fun _ t _ => N - (intOf t).toNat)
      case atStart => exact ⟨false, 0, L, Nat.zero_le _, rfl, rfl, hidb ⟨E1.out, Nat.le_of_eq HC0.out.symm, fun h => by cases h⟩⟩
      case round =>
        clear E1 HC0
        obtain ⟨b, i, L, hi, rfl, rfl, E⟩ := hrel
        obtain ⟨p0, p1, p2⟩ := HPt.out _ E.out.1.gr
        by_cases h1 : ¬ i < N
        · have h1' : ¬ (i : Int) < (N : Int) := by omega
          clear h1
          go_wp2
          go_roundg (2 * cf L + (if b then 1 else 0))
          case measure =>
            have k1 := HC.out
            have k2 := E.out.2.1
            have k3 := E.out.2.2
            cases b with
            | false => simp; omega
            | true => have := k3 rfl; simp; omega
          case rel => exact ⟨b, L, rfl, hidb ⟨E.out.1, Nat.le_refl _⟩⟩
        · have h1' : (i : Int) < (N : Int) := by omega
          have hiN : i < N := by omega
          have HiN := hidb hiN
          have hil : i < l.length := by rw [← HN.out]; exact hiN
          have e1 : IntKind.i64.wrap ((i : Int) + 1) = ((i + 1 : Nat) : Int) := by rw [show (i : Int) + 1 = ((i + 1 : Nat) : Int) by omega]; exact wrap_in (by have := HL.out; omega) (by have := HL.out; omega)
          have HE1 := hidb e1
          have ixL := iindex Lb Lo N Lcap i hiN
          have cL := (HRs.out _ E.out.1.gr).get hil
          have ixB := bindex B N N i hiN
          obtain ⟨cB, fB⟩ := E.out.1.d.getb (j := i) (by rw [E.out.1.len]; exact hil)
          have HLi := hidb (HLo.out i)
          have HGi := hidb (show gl l i ≤ num ∨ ¬ gl l i ≤ num from Classical.em _)
          clear h1 hiN
          go_wp2_with fail
          refine (HLi.out _).mono ?_
          rintro e w4 ⟨rfl, rfl⟩
          cases hb : glb L i with
          | true =>
            rw [hb] at cB
            clear hb hil
            go_wp2
            go_roundw
            case rel => exact ⟨b, i + 1, L, HiN.out, rfl, by go_num, E⟩
            case measure => have := HiN.out; simp [intOf]; omega
          | false =>
            rw [hb] at cB
            by_cases hlow : gl l i ≤ num
            · rw [decide_eq_true hlow]
              have HIl := hidb (show i < l.length ∧ gl l i ≤ num from ⟨hil, hlow⟩)
              clear hb hil hlow cL p0 p1 p2 ixL e1
              go_wp2
              clear cB fB
              go_loopw [12, 15] (fun s t wr => ∃ (b : Bool) (k : Nat) (L : List Bool), k ≤ N ∧ s = .bool b ∧ t = .int .i64 (k : Int) ∧ Hid (WS m n l num c w wr B L ∧ cf L ≤ C0 ∧ (b = true → cf L < C0))) (fun _ t _ => N - (intOf t).toNat)
              case atStart => exact ⟨b, 0, L, Nat.zero_le _, rfl, rfl, E⟩
              case round =>
                clear E
                obtain ⟨b, k, L, hk, rfl, rfl, E⟩ := hrel
                obtain ⟨p0, p1, p2⟩ := HPt.out _ E.out.1.gr
                by_cases h2 : ¬ k < N
                · have h2' : ¬ (k : Int) < (N : Int) := by omega
                  have e1 := HE1.out
                  clear h2
                  go_wp2
                  go_roundw
                  case rel => exact ⟨b, i + 1, L, HiN.out, rfl, by go_num, E⟩
                  case measure => have := HiN.out; simp [intOf]; omega
                · have h2' : (k : Int) < (N : Int) := by omega
                  have hkN : k < N := by omega
                  have HkN := hidb hkN
                  have e2 : IntKind.i64.wrap ((k : Int) + 1) = ((k + 1 : Nat) : Int) := by rw [show (k : Int) + 1 = ((k + 1 : Nat) : Int) by omega]; exact wrap_in (by have := HL.out; omega) (by have := HL.out; omega)
                  have ixK := bindex B N N k hkN
                  have HT := hidb (HTo.out i k HiN.out hkN _ E.out.1.gr)
                  by_cases ht : tch m i k
                  · rw [decide_eq_true ht] at HT
                    clear h2 hkN
                    go_wp2_with fail
                    refine HT.out.mono ?_
                    rintro e w5 ⟨rfl, hB5⟩
                    replace E := hidb (show WS m n l num c w w5 B L ∧ cf L ≤ C0 ∧ (b = true → cf L < C0) from ⟨E.out.1.below hB5.out, E.out.2⟩)
                    obtain ⟨cK, fK⟩ := E.out.1.d.getb (j := k) (by rw [E.out.1.len, ← HN.out]; exact HkN.out)
                    obtain ⟨cI, fI⟩ := E.out.1.d.getb (j := i) (by rw [E.out.1.len]; exact HIl.out.1)
                    clear hB5 p0 p1 p2 HT
                    cases hbk : glb L k with
                    | false =>
                      rw [hbk] at cK
                      clear hbk ht
                      go_wp2
                      go_roundw
                      case rel => exact ⟨b, k + 1, L, HkN.out, rfl, by go_num, E⟩
                      case measure => have := HkN.out; simp [intOf]; omega
                    | true =>
                      rw [hbk] at cK
                      cases hbi : glb L i with
                      | true =>
                        rw [hbi] at cI
                        clear hbk hbi ht
                        go_wp2
                        go_roundw
                        case rel => exact ⟨b, k + 1, L, HkN.out, rfl, by go_num, E⟩
                        case measure => have := HkN.out; simp [intOf]; omega
                      | false =>
                        rw [hbi] at cI
                        have HE2 := hidb (E.out.1.put HIl.out.1 (.on (E.out.1.ok k hbk) HIl.out.1 HIl.out.2 ht))
                        have HCf := hidb (cf_set (l := L) (i := i) (by rw [E.out.1.len]; exact HIl.out.1) hbi)
                        have HEc := hidb E.out.2.1
                        clear hbk hbi ht E
                        go_wp2
                        go_roundw
                        case rel => exact ⟨true, k + 1, _, HkN.out, rfl, by go_num, hidb ⟨HE2.out, by have := HCf.out; have := HEc.out; omega, fun _ => by have := HCf.out; have := HEc.out; omega⟩⟩
                        case measure => have := HkN.out; simp [intOf]; omega
                  · rw [decide_eq_false ht] at HT
                    clear h2 hkN ht
                    go_wp2_with fail
                    refine HT.out.mono ?_
                    rintro e w5 ⟨rfl, hB5⟩
                    replace E := hidb (show WS m n l num c w w5 B L ∧ cf L ≤ C0 ∧ (b = true → cf L < C0) from ⟨E.out.1.below hB5.out, E.out.2⟩)
                    clear hB5 p0 p1 p2 HT
                    go_wp2
                    go_roundw
                    case rel => exact ⟨b, k + 1, L, HkN.out, rfl, by go_num, E⟩
                    case measure => have := HkN.out; simp [intOf]; omega
            · rw [decide_eq_false hlow]
              clear hb hil hlow
              go_wp2
              go_roundw
              case rel => exact ⟨b, i + 1, L, HiN.out, rfl, by go_num, E⟩
              case measure => have := HiN.out; simp [intOf]; omega
end Go.Proofs.YtbkggcfogmgmmaaDoor
