/-
  drain.flood's next, where only the flood's own block and its directions are known; a stream's memory.
-/
import Derived.Test.YtlhligeicnejbaaDoorQDgA
import Derived.Test.YtlhligeicnejbaaDoorQAlB
import Derived.Test.YtlhligeicnejbaaDoorQDsA
import Derived.Test.YtlhligeicnejbaaDoorQGaE
namespace Go.Proofs.YtlhligeicnejbaaDoor
open Go.RowKit
attribute [local go_sem ↓] Go.wp_at_zero Go.wp_at_succ

/-- A flood's block. -/
def fsV (m n : Nat) (Lb Lo Lcap N : Nat) (LV FL : Nat) (vo vq : Value) : List Value := [.int .i64 (m : Int), .int .i64 (n : Int), .slice (some ⟨Lb, Lo, none⟩) N Lcap, .slice (some ⟨LV, 0, none⟩) N N, .slice (some ⟨FL, 0, none⟩) N N, vo, vq]
structure NF (W : World) (F FL : Nat) (fs : List Value) (Fl : List Int) : Prop where
  f : At W F fs
  fl : At W FL (ir Fl)
theorem NF.below {W W' : World} {F FL : Nat} {fs : List Value} {Fl : List Int} (h : NF W F FL fs Fl) (hB : Below W.heap.size W W') : NF W' F FL fs Fl := ⟨At.below hB h.f, At.below hB h.fl⟩
theorem NF.drew {W : World} {F FL : Nat} {fs : List Value} {Fl : List Int} (h : NF W F FL fs Fl) : NF W.drew F FL fs Fl := ⟨h.f, h.fl⟩
theorem NF.five {W : World} {F FL m n Lb Lo Lcap N LV : Nat} {vo vq : Value} {Fl : List Int} (h : NF W F FL (fsV m n Lb Lo Lcap N LV FL vo vq) Fl) (hN : Fl.length = N) {i : Nat} (hi : i < N) {d : Int} (hd : gl Fl i = d) : W.cell? ⟨F, 0, none⟩ = some (.int .i64 (m : Int)) ∧ W.cell? ⟨F, 1, none⟩ = some (.int .i64 (n : Int)) ∧ W.cell? ⟨F, 2, none⟩ = some (.slice (some ⟨Lb, Lo, none⟩) N Lcap) ∧ W.cell? ⟨F, 4, none⟩ = some (.slice (some ⟨FL, 0, none⟩) N N) ∧ W.cell? ⟨FL, i, none⟩ = some (.int .i64 d) := by
  refine ⟨(h.f.1 0 (by simp [fsV])).1, (h.f.1 1 (by simp [fsV])).1, (h.f.1 2 (by simp [fsV])).1, (h.f.1 4 (by simp [fsV])).1, ?_⟩
  rw [← hd, ← gl_get (show i < Fl.length by omega)]
  exact (h.fl.get _).1
/-- The directions at the flood's end. -/
def FlE (m n : Nat) (l Fl : List Int) : Prop := Fl.length = l.length ∧ ∀ i, i < l.length → gl Fl i = flV m (flo m n l l.length) i
set_option maxRecDepth 4000 in
set_option maxHeartbeats 8000000 in
theorem next_at {F FL LV m n Lb Lo Lcap : Nat} {l Fl : List Int} {vo vq : Value} (c : Nat) (w : World) (ok : Ok l m n) (h : NF w F FL (fsV m n Lb Lo Lcap l.length LV FL vo vq) Fl) (hs : FlE m n l Fl) (hc : c < l.length) : Calls Tryd.prog 20 #[.pointer (some ⟨F, 0, none⟩), .int .i64 (c : Int)] w fun e w' => e = .returned (nbA (nxO m n l c)) ∧ Gr w w' := by
  obtain ⟨d, hd, hf, hn⟩ := nx_nb ok hc
  have hlen := ok.len_le
  have HNb := hidb (fun w => neighbour_any (m := m) (n := n) (some ⟨Lb, Lo, none⟩) l.length Lcap c d ok.m1 ok.m2 ok.n2 (by omega) ⟨hc, by omega⟩ hd w)
  rw [hn] at HNb
  have hfl : gl Fl c = (d : Int) := by rw [hs.2 c hc]; exact hf
  have HKp : Hid (∀ W, NF W F FL (fsV m n Lb Lo Lcap l.length LV FL vo vq) Fl → W.cell? ⟨F, 0, none⟩ = some (.int .i64 (m : Int)) ∧ W.cell? ⟨F, 1, none⟩ = some (.int .i64 (n : Int)) ∧ W.cell? ⟨F, 2, none⟩ = some (.slice (some ⟨Lb, Lo, none⟩) l.length Lcap) ∧ W.cell? ⟨F, 4, none⟩ = some (.slice (some ⟨FL, 0, none⟩) l.length l.length) ∧ W.cell? ⟨FL, c, none⟩ = some (.int .i64 (d : Int))) := fun W X => X.five hs.1 hc hfl
  have ix := iindex FL 0 l.length l.length c hc
  rw [Nat.zero_add] at ix
  have PX := h
  have PG := Gr.refl w
  obtain ⟨cI, hcI⟩ : ∃ z : Int, z = (c : Int) := ⟨_, rfl⟩
  obtain ⟨dI, hdI⟩ : ∃ z : Int, z = (d : Int) := ⟨_, rfl⟩
  rw [← hcI] at HNb ix ⊢
  rw [← hdI] at HNb HKp
  obtain ⟨R, hR⟩ : ∃ R, nbA (nxO m n l c) = R := ⟨_, rfl⟩
  rw [hR]
  cases ho : nxO m n l c with
  | none =>
    rw [ho] at HNb hR
    unfold nbA at HNb hR
    subst hR
    clear h hs hc hd hf hn hlen hfl hcI hdI ok ho
    generalize fsV m n Lb Lo Lcap l.length LV FL vo vq = fs at *
    go_enter Tryd.func20, Tryd.ntmps20
    go_upto_region 1 with fail
    go_region_held (fun w' => w'.cell? ⟨F, 0, none⟩ = some (.int .i64 (m : Int)) ∧ w'.cell? ⟨F, 1, none⟩ = some (.int .i64 (n : Int)) ∧ w'.cell? ⟨F, 2, none⟩ = some (.slice (some ⟨Lb, Lo, none⟩) l.length Lcap) ∧ w'.cell? ⟨F, 4, none⟩ = some (.slice (some ⟨FL, 0, none⟩) l.length l.length) ∧ w'.cell? ⟨FL, c, none⟩ = some (.int .i64 dI))
      (with_reducible first | exact HKp.out _ PX | exact HKp.out _ PX.drew)
      ((go_at_call 32; with_reducible refine (HNb.out _).mono ?_; rintro e w9 ⟨rfl, hB9⟩; (with_reducible first | replace PX := PX.below hB9.out | replace PX := PX.drew.below hB9.out); (with_reducible first | replace PG := Gr.step PG hB9.out | replace PG := Gr.step PG.drew hB9.out)))
    all_goals
      go_wp2
      go_ret2
      exact ⟨rfl, by with_reducible first | exact PG | exact PG.drew⟩
  | some k =>
    rw [ho] at HNb hR
    unfold nbA at HNb hR
    dsimp only at HNb hR
    subst hR
    obtain ⟨kI, hkI⟩ : ∃ z : Int, z = (k : Int) := ⟨_, rfl⟩
    rw [← hkI] at HNb ⊢
    clear h hs hc hd hf hn hlen hfl hcI hdI ok ho hkI
    generalize fsV m n Lb Lo Lcap l.length LV FL vo vq = fs at *
    go_enter Tryd.func20, Tryd.ntmps20
    go_upto_region 1 with fail
    go_region_held (fun w' => w'.cell? ⟨F, 0, none⟩ = some (.int .i64 (m : Int)) ∧ w'.cell? ⟨F, 1, none⟩ = some (.int .i64 (n : Int)) ∧ w'.cell? ⟨F, 2, none⟩ = some (.slice (some ⟨Lb, Lo, none⟩) l.length Lcap) ∧ w'.cell? ⟨F, 4, none⟩ = some (.slice (some ⟨FL, 0, none⟩) l.length l.length) ∧ w'.cell? ⟨FL, c, none⟩ = some (.int .i64 dI))
      (with_reducible first | exact HKp.out _ PX | exact HKp.out _ PX.drew)
      ((go_at_call 32; with_reducible refine (HNb.out _).mono ?_; rintro e w9 ⟨rfl, hB9⟩; (with_reducible first | replace PX := PX.below hB9.out | replace PX := PX.drew.below hB9.out); (with_reducible first | replace PG := Gr.step PG hB9.out | replace PG := Gr.step PG.drew hB9.out)))
    all_goals
      go_wp2
      go_ret2
      exact ⟨rfl, by with_reducible first | exact PG | exact PG.drew⟩
/-- A row of truths, and of numbers, by a function. -/
def bF (N : Nat) (f : Nat → Bool) : List Bool := (List.range N).map f
def iF (N : Nat) (f : Nat → Int) : List Int := (List.range N).map f
theorem bF_len (N : Nat) (f : Nat → Bool) : (bF N f).length = N := by simp [bF]
theorem iF_len (N : Nat) (f : Nat → Int) : (iF N f).length = N := by simp [iF]
theorem glb_bF {N : Nat} (f : Nat → Bool) {i : Nat} (h : i < N) : glb (bF N f) i = f i := by simp [glb, bF, h]
theorem gl_iF {N : Nat} (f : Nat → Int) {i : Nat} (h : i < N) : gl (iF N f) i = f i := by simp [gl, iF, h]
theorem bF_set {N : Nat} (f g : Nat → Bool) {i : Nat} (x : Bool) (h : ∀ k, k < N → g k = if k = i then x else f k) : (bF N f).set i x = bF N g := by
  apply List.ext_getElem
  · simp [bF]
  · intro k h1 h2
    have hk : k < N := by simpa [bF] using h2
    simp only [bF, List.getElem_set, List.getElem_map, List.getElem_range]
    rw [h k hk]
    by_cases e : i = k
    · rw [if_pos e, if_pos e.symm]
    · rw [if_neg e, if_neg (Ne.symm e)]
theorem iF_set {N : Nat} (f g : Nat → Int) {i : Nat} (x : Int) (h : ∀ k, k < N → g k = if k = i then x else f k) : (iF N f).set i x = iF N g := by
  apply List.ext_getElem
  · simp [iF]
  · intro k h1 h2
    have hk : k < N := by simpa [iF] using h2
    simp only [iF, List.getElem_set, List.getElem_map, List.getElem_range]
    rw [h k hk]
    by_cases e : i = k
    · rw [if_pos e, if_pos e.symm]
    · rw [if_neg e, if_neg (Ne.symm e)]
theorem bF_congr {N : Nat} {f g : Nat → Bool} (h : ∀ k, k < N → f k = g k) : bF N f = bF N g := List.map_congr_left (fun k hk => h k (List.mem_range.1 hk))
theorem iF_congr {N : Nat} {f g : Nat → Int} (h : ∀ k, k < N → f k = g k) : iF N f = iF N g := List.map_congr_left (fun k hk => h k (List.mem_range.1 hk))
theorem bF_rep (N : Nat) (x : Bool) : List.replicate N x = bF N (fun _ => x) := by simp [bF, List.map_const']
theorem iF_rep (N : Nat) (x : Int) : List.replicate N x = iF N (fun _ => x) := by simp [iF, List.map_const']
theorem At.gb {W : World} {B N : Nat} {f : Nat → Bool} (h : At W B (br (bF N f))) {j : Nat} (hj : j < N) : W.cell? ⟨B, j, none⟩ = some (.bool (f j)) ∧ W.frozen? ⟨B, j, none⟩ = false := by
  have := h.getb (j := j) (by rw [bF_len]; exact hj)
  rw [glb_bF f hj] at this
  exact this
theorem At.gi {W : World} {B N : Nat} {f : Nat → Int} (h : At W B (ir (iF N f))) {j : Nat} (hj : j < N) : W.cell? ⟨B, j, none⟩ = some (.int .i64 (f j)) ∧ W.frozen? ⟨B, j, none⟩ = false := by
  have hj' : j < (iF N f).length := by rw [iF_len]; exact hj
  have := h.get (j := j) hj'
  rw [gl_get hj', gl_iF f hj] at this
  exact this
end Go.Proofs.YtlhligeicnejbaaDoor
