/-
  The flood's beginning: the rim comes to wait. No Go text.; drain.flooded.; drain.Fill, Flow, Order.
-/
import Derived.Test.YtlhligeicnejbaaDoorQJ4
import Derived.Test.YtlhligeicnejbaaDoorQJ9
import Derived.Test.YtlhligeicnejbaaDoorQJ10
import Derived.Deep.LoopGhost
namespace Go.Proofs.YtlhligeicnejbaaDoor
open Go.RowKit

section
variable (m n : Nat) (l : List Int)
def fsK (k : Nat) : FS := ⟨fun i => if i < k ∧ rim m n i then 1 else 0, fun i => if i < k ∧ rim m n i then gl l i else 0, fun i => i, []⟩
theorem fsK_all : fsK m n l l.length = fs0 m n l := rfl
theorem fsK_same (k : Nat) (h : ¬ rim m n k) : fsK m n l (k + 1) = fsK m n l k := by
  have e : ∀ i, (i < k + 1 ∧ rim m n i) ↔ (i < k ∧ rim m n i) := fun i => by
    constructor
    · intro ⟨h1, h2⟩
      refine ⟨?_, h2⟩
      rcases Nat.lt_or_ge i k with c | c
      · exact c
      · have : i = k := by omega
        subst this
        exact absurd h2 h
    · intro ⟨h1, h2⟩
      exact ⟨by omega, h2⟩
  unfold fsK
  simp only [e]
theorem wyD_self (i : Nat) : wyD m i i = 8 := by
  unfold wyD
  rw [Int.sub_self, Int.sub_self]
  decide
theorem Syn.zero {Lv Fl : List Int} (h1 : Lv = List.replicate l.length 0) (h2 : Fl = List.replicate l.length (-1)) : Syn m l (fsK m n l 0) Lv Fl [] := by
  subst h1 h2
  have e : ∀ i, ¬ (i < 0 ∧ rim m n i) := fun i h => absurd h.1 (Nat.not_lt_zero _)
  have s0 : ∀ i, (fsK m n l 0).st i = 0 := fun i => by
    show (if i < 0 ∧ rim m n i then 1 else 0) = 0
    rw [if_neg (e i)]
  refine ⟨fun i hi => ?_, fun i hi => ?_, fun p => ?_, List.nodup_nil, fun i hi => ?_⟩
  · show _ = (if i < 0 ∧ rim m n i then gl l i else 0)
    rw [if_neg (e i)]
    simp [gl, hi]
  · unfold flV
    rw [s0, if_pos rfl]
    simp [gl, hi]
  · constructor
    · intro h; cases h
    · intro ⟨h, _⟩
      rw [s0] at h
      omega
  · exact absurd (s0 i) hi
theorem Syn.rim {Lv Fl : List Int} {q q' : List Wt} {k : Nat} (h : Syn m l (fsK m n l k) Lv Fl q) (hL : Lv.length = l.length ∧ Fl.length = l.length) (hk : k < l.length) (hr : rim m n k) (hp : q'.Perm (q ++ [(gl l k, k)])) : Syn m l (fsK m n l (k + 1)) (Lv.set k (gl l k)) (Fl.set k 8) q' := by
  have e : ∀ i, (i < k + 1 ∧ Go.Proofs.YtlhligeicnejbaaDoor.rim m n i) ↔ ((i < k ∧ Go.Proofs.YtlhligeicnejbaaDoor.rim m n i) ∨ i = k) := fun i => by
    constructor
    · intro ⟨h1, h2⟩
      by_cases c : i = k
      · exact .inr c
      · exact .inl ⟨by omega, h2⟩
    · rintro (⟨h1, h2⟩ | rfl)
      · exact ⟨by omega, h2⟩
      · exact ⟨by omega, hr⟩
  have s1 : ∀ i, (fsK m n l (k + 1)).st i = if i = k then 1 else (fsK m n l k).st i := fun i => by
    show (if i < k + 1 ∧ Go.Proofs.YtlhligeicnejbaaDoor.rim m n i then 1 else 0) = if i = k then 1 else (if i < k ∧ Go.Proofs.YtlhligeicnejbaaDoor.rim m n i then 1 else 0)
    by_cases c : i = k
    · rw [if_pos ((e i).2 (.inr c)), if_pos c]
    · rw [if_neg c]
      by_cases d : i < k ∧ Go.Proofs.YtlhligeicnejbaaDoor.rim m n i
      · rw [if_pos ((e i).2 (.inl d)), if_pos d]
      · rw [if_neg (fun h => ((e i).1 h).elim d c), if_neg d]
  have s2 : ∀ i, (fsK m n l (k + 1)).fi i = if i = k then gl l k else (fsK m n l k).fi i := fun i => by
    show (if i < k + 1 ∧ Go.Proofs.YtlhligeicnejbaaDoor.rim m n i then gl l i else 0) = if i = k then gl l k else (if i < k ∧ Go.Proofs.YtlhligeicnejbaaDoor.rim m n i then gl l i else 0)
    by_cases c : i = k
    · rw [if_pos ((e i).2 (.inr c)), if_pos c, c]
    · rw [if_neg c]
      by_cases d : i < k ∧ Go.Proofs.YtlhligeicnejbaaDoor.rim m n i
      · rw [if_pos ((e i).2 (.inl d)), if_pos d]
      · rw [if_neg (fun h => ((e i).1 h).elim d c), if_neg d]
  have hst : (fsK m n l k).st k = 0 := if_neg (fun h => Nat.lt_irrefl _ h.1)
  refine ⟨fun i hi => ?_, fun i hi => ?_, fun p => ?_, ?_, fun i hi => ?_⟩
  · rw [gl_set (by rw [hL.1]; exact hk), s2]
    split
    · rfl
    · exact h.lv i hi
  · rw [gl_set (by rw [hL.2]; exact hk)]
    unfold flV
    rw [s1]
    by_cases c : i = k
    · subst c
      rw [if_pos rfl, if_pos rfl, if_neg (by omega)]
      show (8 : Int) = (wyD m i i : Int)
      rw [wyD_self]
      rfl
    · rw [if_neg c, if_neg c]
      exact h.fl i hi
  · rw [hp.mem_iff, List.mem_append, List.mem_singleton, h.mem, s1, s2]
    obtain ⟨p1, p2⟩ := p
    simp only
    by_cases c : p2 = k
    · subst c
      rw [if_pos rfl, if_pos rfl]
      constructor
      · rintro (⟨h1, h2⟩ | h1)
        · omega
        · exact ⟨rfl, (Prod.mk.inj h1).1⟩
      · intro ⟨_, h2⟩
        exact .inr (by rw [h2])
    · rw [if_neg c, if_neg c]
      constructor
      · rintro (h1 | h1)
        · exact h1
        · exact absurd (Prod.mk.inj h1).2 c
      · exact .inl
  · refine hp.nodup_iff.2 (List.nodup_append.2 ⟨h.nd, List.pairwise_singleton _ _, fun y hy z hz hyz => ?_⟩)
    rw [List.mem_singleton.1 hz] at hyz
    rw [hyz] at hy
    have := ((h.mem _).1 hy).1
    simp only at this
    omega
  · rw [s1] at hi
    by_cases c : i = k
    · rw [c]; exact hk
    · rw [if_neg c] at hi; exact h.lt i hi
/-- Where the queue is empty none waits. -/
theorem Syn.empty {S : FS} {Lv Fl : List Int} {q : List Wt} (h : Syn m l S Lv Fl q) (hq : q.length = 0) : ∀ i, i < l.length → S.st i ≠ 1 := by
  intro i _ hs
  have : (S.fi i, i) ∈ q := (h.mem _).2 ⟨hs, rfl⟩
  have := List.length_pos_of_mem this
  omega
end
end Go.Proofs.YtlhligeicnejbaaDoor
namespace Go.Proofs.YtlhligeicnejbaaDoor
open Go.RowKit
attribute [local go_sem ↓] Go.wp_at_zero Go.wp_at_succ

/-- A flood in memory and another block T. -/
structure XB (w0 w : World) (base F LV FL N : Nat) (a b c : Value) (Lv Fl : List Int) (vo : Value) (ord : List Nat) (vq : Value) (q : List Wt) (T : Nat) (t : List Value) : Prop where
  m : FM w0 w base F LV FL N a b c Lv Fl vo ord vq q
  t : At w T t
  n : (T ≠ F ∧ T ≠ LV ∧ T ≠ FL) ∧ vq.ownBlock ≠ some T
theorem XB.below {w0 w w' : World} {base F LV FL N : Nat} {a b c : Value} {Lv Fl : List Int} {vo : Value} {ord : List Nat} {vq : Value} {q : List Wt} {T : Nat} {t : List Value} (h : XB w0 w base F LV FL N a b c Lv Fl vo ord vq q T t) (hB : Below w.heap.size w w') : XB w0 w' base F LV FL N a b c Lv Fl vo ord vq q T t := ⟨h.m.below hB, At.below hB h.t, h.n⟩
/-- Five rows and the flood's block, at its beginning. -/
theorem XB.begin {w w2 : World} {m n : Int} {c : Value} {LV FL T F N : Nat} (hw : Gr w w2) (hF : At w2 F [.int .i64 m, .int .i64 n, c, .slice (some ⟨LV, 0, none⟩) N N, .slice (some ⟨FL, 0, none⟩) N N, .slice none 0 0, .slice none 0 0]) (hLV : At w2 LV (ir (List.replicate N 0))) (hFL : At w2 FL (ir (List.replicate N (-1)))) (hT : At w2 T [.int .i64 m, .int .i64 n, c]) (hn : (w.heap.size ≤ F ∧ w.heap.size ≤ LV ∧ w.heap.size ≤ FL) ∧ (F ≠ LV ∧ F ≠ FL ∧ LV ≠ FL) ∧ (T ≠ F ∧ T ≠ LV ∧ T ≠ FL)) : XB w w2 w2.heap.size F LV FL N (.int .i64 m) (.int .i64 n) c (List.replicate N 0) (List.replicate N (-1)) (.slice none 0 0) [] (.slice none 0 0) [] T [.int .i64 m, .int .i64 n, c] :=
  ⟨⟨hw, hF, hLV, hFL, ⟨by simp, by simp⟩, World.ownsRow_nil _ _ _ _, World.ownsRow_nil _ _ _ _, fun i _ h => absurd h (Nat.not_lt_zero _), ⟨hn.1, ⟨hF.lt, hLV.lt, hFL.lt⟩, Nat.le_refl _, hw.out.size⟩, hn.2.1, fun k e => by cases e⟩, hT, hn.2.2, fun e => by cases e⟩
theorem At.nx7 {W : World} (o : Obj) (a b c d e f g : Value) (t : Nat) : At ((W.alloc o).alloc (.cells #[a, b, c, d, e, f, g] t)) (W.heap.size + 1) [a, b, c, d, e, f, g] := by
  have := At.new7 (W.alloc o) a b c d e f g t
  simpa using this
/-- One block, and what was there. -/
structure PF (w W : World) (T : Nat) (t : List Value) : Prop where
  a : At W T t
  gr : Gr w W
theorem PF.below {w W w' : World} {T : Nat} {t : List Value} (h : PF w W T t) (hB : Below W.heap.size W w') : PF w w' T t := ⟨At.below hB h.a, Gr.step h.gr hB⟩
theorem PF.alloc {w W : World} {T : Nat} {t : List Value} (h : PF w W T t) (o : Obj) : PF w (W.alloc o) T t := ⟨h.a.alloc o, h.gr.alloc o⟩
theorem PF.drew {w W : World} {T : Nat} {t : List Value} (h : PF w W T t) : PF w W.drew T t := ⟨h.a, h.gr.drew⟩
set_option maxRecDepth 4000 in
set_option maxHeartbeats 16000000 in
theorem flooded_any {m n Lb Lo Lcap : Nat} {l : List Int} (w : World) (hR : Rs w Lb Lo Lcap l) (ok : Ok l m n) : Calls Tryd.prog 28 #[raV m n (.slice (some ⟨Lb, Lo, none⟩) l.length Lcap)] w fun e w' => ∃ F base LV FL Lv Fl vo vq q, e = .returned (.pointer (some ⟨F, 0, none⟩)) ∧ FM w w' base F LV FL l.length (.int .i64 (m : Int)) (.int .i64 (n : Int)) (.slice (some ⟨Lb, Lo, none⟩) l.length Lcap) Lv Fl vo (flo m n l l.length).ord vq q ∧ Syn m l (flo m n l l.length) Lv Fl q := by
  have hlen := ok.len_le
  have hN1 : 1 ≤ l.length := by rw [ok.len]; exact Nat.mul_le_mul ok.m1 ok.n1
  have HRp := hidb (fun B W (hB : At W B [.int .i64 (-1)]) => repeat_any B (-1) l.length hN1 (by omega) W hB)
  obtain ⟨CS, hCS, mk⟩ := made_run l.length (by omega)
  have HCS := hidb hCS
  have HOk := hidb ok
  have HR := hidb hR
  have HL := hidb (show 1 ≤ l.length ∧ l.length ≤ 16384 from ⟨hN1, hlen⟩)
  have A0 := hidb (At.new3 w (.int .i64 (m : Int)) (.int .i64 (n : Int)) (.slice (some ⟨Lb, Lo, none⟩) l.length Lcap) 32)
  have G0 := hidb ((Gr.refl w).alloc (.cells #[.int .i64 (m : Int), .int .i64 (n : Int), .slice (some ⟨Lb, Lo, none⟩) l.length Lcap] 32))
  obtain ⟨N, hN⟩ : ∃ N, N = l.length := ⟨_, rfl⟩
  have HN := hidb hN
  rw [← hN] at HRp mk A0 G0 HL HCS ⊢
  clear hR ok hlen hN1 hCS hN
  show Calls Tryd.prog 28 #[.agg #[.int .i64 (m : Int), .int .i64 (n : Int), .slice (some ⟨Lb, Lo, none⟩) N Lcap]] w _
  go_enter Tryd.func28, Tryd.ntmps28
  go_upto_region 1 with fail
  generalize hw1 : w.alloc (.cells #[.int .i64 (m : Int), .int .i64 (n : Int), .slice (some ⟨Lb, Lo, none⟩) N Lcap] 32) = w1 at *
  have hs1 : w1.heap.size = w.heap.size + 1 := by rw [← hw1]; simp
  have HS1 := hidb hs1
  clear hw1 hs1
  go_cut [3] from 6 to 17 (fun s3 wx => ∃ F LV FL, s3 = .pointer (some ⟨F, 0, none⟩) ∧ Hid (XB w wx wx.heap.size F LV FL N (.int .i64 (m : Int)) (.int .i64 (n : Int)) (.slice (some ⟨Lb, Lo, none⟩) N Lcap) (List.replicate N 0) (List.replicate N (-1)) (.slice none 0 0) [] (.slice none 0 0) [] w.heap.size [.int .i64 (m : Int), .int .i64 (n : Int), .slice (some ⟨Lb, Lo, none⟩) N Lcap]))
  case first =>
    have PX : PF w w1 w.heap.size [.int .i64 (m : Int), .int .i64 (n : Int), .slice (some ⟨Lb, Lo, none⟩) N Lcap] := ⟨A0.out, G0.out⟩
    have q0 := PX.a.lt
    go_region_held (fun w' => w'.cell? ⟨w.heap.size, 0, none⟩ = some (.int .i64 (m : Int)) ∧ w'.cell? ⟨w.heap.size, 1, none⟩ = some (.int .i64 (n : Int)) ∧ w'.cell? ⟨w.heap.size, 2, none⟩ = some (.slice (some ⟨Lb, Lo, none⟩) N Lcap))
      (with_reducible first | exact PX.a.c3 | exact PX.drew.a.c3 | (refine At.c3 ?_; repeat (first | exact PX.a | refine At.drew ?_ | refine At.alloc ?_ _)))
      ((go_at_call 30; (with_reducible first | refine (HRp.out _ _ (At.new1 _ _ _)).mono ?_ | refine (HRp.out _ _ (At.new1 _ _ _).drew).mono ?_ | refine (HRp.out _ _ (At.nx1 _ _ _)).mono ?_ | refine (HRp.out _ _ (At.nx1 _ _ _).drew).mono ?_ | refine (HRp.out _ _ ((At.new1 _ _ _).alloc _)).mono ?_ | refine (HRp.out _ _ ((At.new1 _ _ _).alloc _).drew).mono ?_); rintro e w9 ⟨C, rfl, hAC, hCw, hB9⟩; (try simp at hCw); have s9 := hB9.out.size; (try simp at s9); (with_reducible first | replace PX := PX.below hB9.out | replace PX := PX.drew.below hB9.out | replace PX := (PX.alloc _).below hB9.out | replace PX := (PX.alloc _).drew.below hB9.out | replace PX := ((PX.alloc _).alloc _).below hB9.out | replace PX := ((PX.alloc _).alloc _).drew.below hB9.out); have q9 := PX.a.lt; have HB9 := hB9.out; (with_reducible first | have A7 := At.below hB9.out (At.nxArr _ _ CS _) | have A7 := At.below hB9.out (At.nxArr _ _ CS _).drew | have A7 := At.below hB9.out (At.newArr _ CS _) | have A7 := At.below hB9.out (At.newArr _ CS _).drew | have A7 := At.below hB9.out ((At.newArr _ CS _).alloc _) | have A7 := At.below hB9.out ((At.newArr _ CS _).alloc _).drew | skip); (try (have l7 := A7.lt; have n7 : ¬ _ = _ := Nat.ne_of_lt A7.lt; have m7 : ¬ _ = _ := Nat.ne_of_gt A7.lt))))
    all_goals
      go_wp2_with fail
      go_meet
      obtain ⟨pa, pgr⟩ := PX
      have hCl := hAC.lt
      have hs1 := HS1.out
      (with_reducible first | refine ⟨_, w1.heap.size, C, rfl, hidb (XB.begin ?_ (At.new7 _ _ _ _ _ _ _ _ _) ?_ ?_ ?_ ?_)⟩ | refine ⟨_, w1.heap.size, C, rfl, hidb (XB.begin ?_ (At.new7 _ _ _ _ _ _ _ _ _).drew ?_ ?_ ?_ ?_)⟩ | refine ⟨_, w1.heap.size, C, rfl, hidb (XB.begin ?_ (At.nx7 _ _ _ _ _ _ _ _ _) ?_ ?_ ?_ ?_)⟩ | refine ⟨_, w1.heap.size, C, rfl, hidb (XB.begin ?_ (At.nx7 _ _ _ _ _ _ _ _ _).drew ?_ ?_ ?_ ?_)⟩ | refine ⟨_, w1.heap.size + 1, C, rfl, hidb (XB.begin ?_ (At.new7 _ _ _ _ _ _ _ _ _) ?_ ?_ ?_ ?_)⟩ | refine ⟨_, w1.heap.size + 1, C, rfl, hidb (XB.begin ?_ (At.new7 _ _ _ _ _ _ _ _ _).drew ?_ ?_ ?_ ?_)⟩ | refine ⟨_, w1.heap.size + 1, C, rfl, hidb (XB.begin ?_ (At.nx7 _ _ _ _ _ _ _ _ _) ?_ ?_ ?_ ?_)⟩ | refine ⟨_, w1.heap.size + 1, C, rfl, hidb (XB.begin ?_ (At.nx7 _ _ _ _ _ _ _ _ _).drew ?_ ?_ ?_ ?_)⟩ | refine ⟨_, w9.heap.size, C, rfl, hidb (XB.begin ?_ (At.new7 _ _ _ _ _ _ _ _ _) ?_ ?_ ?_ ?_)⟩ | refine ⟨_, w9.heap.size, C, rfl, hidb (XB.begin ?_ (At.new7 _ _ _ _ _ _ _ _ _).drew ?_ ?_ ?_ ?_)⟩ | refine ⟨_, w9.heap.size, C, rfl, hidb (XB.begin ?_ (At.nx7 _ _ _ _ _ _ _ _ _) ?_ ?_ ?_ ?_)⟩ | refine ⟨_, w9.heap.size, C, rfl, hidb (XB.begin ?_ (At.nx7 _ _ _ _ _ _ _ _ _).drew ?_ ?_ ?_ ?_)⟩)
      · ((with_reducible repeat' (first | assumption | refine Gr.drew ?_ | refine Gr.alloc ?_ _ | refine Gr.set ?_ (by first | omega | (simp; omega)) _ _ | exact Gr.refl _)); done)
      · rw [← HCS.out]; ((with_reducible repeat' (first | assumption | exact At.nxArr _ _ CS _ | exact At.newArr _ CS _ | exact At.new1 _ _ _ | exact At.new2 _ _ _ _ | exact At.new3 _ _ _ _ _ | exact At.nx1 _ _ _ | exact At.nx2 _ _ _ _ | exact At.nx3 _ _ _ _ _ | exact At.ny1 _ _ _ _ | exact At.ny2 _ _ _ _ _ | exact At.ny3 _ _ _ _ _ _ | exact At.nz1 _ _ _ _ _ | exact At.nz2 _ _ _ _ _ _ | exact At.nz3 _ _ _ _ _ _ _ | exact Has.new1 _ _ _ | exact Has.new2 _ _ _ _ | exact Has.new3 _ _ _ _ _ | exact Has.nx1 _ _ _ | exact Has.nx2 _ _ _ _ | exact Has.nx3 _ _ _ _ _ | exact Has.ny1 _ _ _ _ | exact Has.ny2 _ _ _ _ _ | exact Has.ny3 _ _ _ _ _ _ | exact Has.nz1 _ _ _ _ _ | exact Has.nz2 _ _ _ _ _ _ | exact Has.nz3 _ _ _ _ _ _ _ | refine At.fill1 ?_ _ | refine At.fill2 ?_ _ _ | refine At.fill3 ?_ _ _ _ | refine At.swap ?_ (by first | omega | (simp; omega)) _ _ | refine At.alloc ?_ _ | refine At.drew ?_ | refine At.skip ?_ (by first | omega | (simp; omega)) _ _ | refine At.below (by assumption) ?_ | refine Has.alloc ?_ _ | refine Has.drew ?_ | refine Has.set ?_ _ _ _ | refine Has.below (by assumption) ?_)); done)
      · ((with_reducible repeat' (first | assumption | exact At.new1 _ _ _ | exact At.new2 _ _ _ _ | exact At.new3 _ _ _ _ _ | exact At.nx1 _ _ _ | exact At.nx2 _ _ _ _ | exact At.nx3 _ _ _ _ _ | exact At.ny1 _ _ _ _ | exact At.ny2 _ _ _ _ _ | exact At.ny3 _ _ _ _ _ _ | exact At.nz1 _ _ _ _ _ | exact At.nz2 _ _ _ _ _ _ | exact At.nz3 _ _ _ _ _ _ _ | exact Has.new1 _ _ _ | exact Has.new2 _ _ _ _ | exact Has.new3 _ _ _ _ _ | exact Has.nx1 _ _ _ | exact Has.nx2 _ _ _ _ | exact Has.nx3 _ _ _ _ _ | exact Has.ny1 _ _ _ _ | exact Has.ny2 _ _ _ _ _ | exact Has.ny3 _ _ _ _ _ _ | exact Has.nz1 _ _ _ _ _ | exact Has.nz2 _ _ _ _ _ _ | exact Has.nz3 _ _ _ _ _ _ _ | refine At.fill1 ?_ _ | refine At.fill2 ?_ _ _ | refine At.fill3 ?_ _ _ _ | refine At.swap ?_ (by first | omega | (simp; omega)) _ _ | refine At.alloc ?_ _ | refine At.drew ?_ | refine At.skip ?_ (by first | omega | (simp; omega)) _ _ | refine At.below (by assumption) ?_ | refine Has.alloc ?_ _ | refine Has.drew ?_ | refine Has.set ?_ _ _ _ | refine Has.below (by assumption) ?_)); done)
      · ((with_reducible repeat' (first | assumption | exact At.new1 _ _ _ | exact At.new2 _ _ _ _ | exact At.new3 _ _ _ _ _ | exact At.nx1 _ _ _ | exact At.nx2 _ _ _ _ | exact At.nx3 _ _ _ _ _ | exact At.ny1 _ _ _ _ | exact At.ny2 _ _ _ _ _ | exact At.ny3 _ _ _ _ _ _ | exact At.nz1 _ _ _ _ _ | exact At.nz2 _ _ _ _ _ _ | exact At.nz3 _ _ _ _ _ _ _ | exact Has.new1 _ _ _ | exact Has.new2 _ _ _ _ | exact Has.new3 _ _ _ _ _ | exact Has.nx1 _ _ _ | exact Has.nx2 _ _ _ _ | exact Has.nx3 _ _ _ _ _ | exact Has.ny1 _ _ _ _ | exact Has.ny2 _ _ _ _ _ | exact Has.ny3 _ _ _ _ _ _ | exact Has.nz1 _ _ _ _ _ | exact Has.nz2 _ _ _ _ _ _ | exact Has.nz3 _ _ _ _ _ _ _ | refine At.fill1 ?_ _ | refine At.fill2 ?_ _ _ | refine At.fill3 ?_ _ _ _ | refine At.swap ?_ (by first | omega | (simp; omega)) _ _ | refine At.alloc ?_ _ | refine At.drew ?_ | refine At.skip ?_ (by first | omega | (simp; omega)) _ _ | refine At.below (by assumption) ?_ | refine Has.alloc ?_ _ | refine Has.drew ?_ | refine Has.set ?_ _ _ _ | refine Has.below (by assumption) ?_)); done)
      · refine ⟨⟨?_, ?_, ?_⟩, ⟨?_, ?_, ?_⟩, ?_, ?_, ?_⟩ <;> first | omega | (simp; omega)
  case rest =>
    clear A0 G0 HRp mk HCS HS1
    obtain ⟨F, LV, FL, rfl, E0⟩ := hcut
    generalize hbase : wc.heap.size = base at *
    clear hbase
    obtain ⟨q0, q1, q2⟩ := E0.out.t.c3
    go_wp2
    clear q0 q1 q2
    go_loopw [21] (fun t wr => ∃ (k : Nat) (Lv Fl : List Int) (vq : Value) (q : List Wt), k ≤ N ∧ t = .int .i64 (k : Int) ∧ Hid (XB w wr base F LV FL N (.int .i64 (m : Int)) (.int .i64 (n : Int)) (.slice (some ⟨Lb, Lo, none⟩) N Lcap) Lv Fl (.slice none 0 0) [] vq q w.heap.size [.int .i64 (m : Int), .int .i64 (n : Int), .slice (some ⟨Lb, Lo, none⟩) N Lcap] ∧ Syn m l (fsK m n l k) Lv Fl q)) (fun t _ => N - (intOf t).toNat)
    case atStart => exact ⟨0, _, _, _, _, Nat.zero_le _, rfl, hidb ⟨E0.out, Syn.zero m n l (by rw [HN.out]) (by rw [HN.out])⟩⟩
    case round =>
      clear E0
      obtain ⟨k, Lv, Fl, vq, q, hk, rfl, E⟩ := hrel
      by_cases h1 : k < N
      · have h1' : (k : Int) < (N : Int) := by omega
        have e1 : IntKind.i64.wrap ((k : Int) + 1) = ((k + 1 : Nat) : Int) := by rw [show (k : Int) + 1 = ((k + 1 : Nat) : Int) by omega]; exact wrap_in (by have := HL.out; omega) (by have := HL.out; omega)
        have hkl : k < l.length := by rw [← HN.out]; exact h1
        have cL := (HR.out.below E.out.1.m.gr.out).get hkl
        have ixL := iindex Lb Lo N Lcap k h1
        obtain ⟨q0, q1, q2⟩ := E.out.1.t.c3
        have HRm := hidb (onRim_any (m := m) (n := n) (some ⟨Lb, Lo, none⟩) N Lcap k HOk.out.m1 HOk.out.m2 HOk.out.n2 (by rw [← HOk.out.len]; exact hkl) (by rw [← HOk.out.len]; exact HN.out) wr)
        have H1 := hidb hkl
        clear hkl
        by_cases hr : rim m n k
        · rw [decide_eq_true hr] at HRm
          have HWt := hidb (fun W (M : FM w W base F LV FL N (.int .i64 (m : Int)) (.int .i64 (n : Int)) (.slice (some ⟨Lb, Lo, none⟩) N Lcap) Lv Fl (.slice none 0 0) [] vq q) => wait_any k (gl l k) 8 W M h1 (by have := E.out.2.len; have := HL.out; have := HN.out; omega))
          have HSr := hidb (fun q' hp => Syn.rim m n l (q' := q') E.out.2 (by rw [← HN.out]; exact E.out.1.m.ll) H1.out hr hp)
          generalize gl l k = z at *
          clear hr h1
          go_wp2_with fail
          refine HRm.out.mono ?_
          rintro e w2 ⟨rfl, hB2⟩
          have E2 := hidb (E.out.1.below hB2.out)
          clear q0 q1 q2 cL
          go_wp2_with fail
          refine (HWt.out _ E2.out.m).mono ?_
          rintro e w3 ⟨rfl, vq', q', hM3, hp3, hO3⟩
          have E3 := hidb (show XB w w3 base F LV FL N (.int .i64 (m : Int)) (.int .i64 (n : Int)) (.slice (some ⟨Lb, Lo, none⟩) N Lcap) (Lv.set k z) (Fl.set k 8) (.slice none 0 0) [] vq' q' w.heap.size [.int .i64 (m : Int), .int .i64 (n : Int), .slice (some ⟨Lb, Lo, none⟩) N Lcap] ∧ Syn m l (fsK m n l (k + 1)) (Lv.set k z) (Fl.set k 8) q' from ⟨⟨hM3, (hO3 _ _ E2.out.t E2.out.n.1 E2.out.n.2).1, E2.out.n.1, (hO3 _ _ E2.out.t E2.out.n.1 E2.out.n.2).2⟩, HSr.out q' hp3⟩)
          clear hM3 hp3 hO3
          go_wp2
          go_roundw
          case rel => exact ⟨k + 1, _, _, vq', q', by omega, rfl, E3⟩
          case measure => simp [intOf]; omega
        · rw [decide_eq_false hr] at HRm
          have HSm := hidb (fsK_same m n l k hr)
          clear hr h1
          go_wp2_with fail
          refine HRm.out.mono ?_
          rintro e w2 ⟨rfl, hB2⟩
          have E2 := hidb (E.out.1.below hB2.out)
          clear q0 q1 q2 cL
          go_wp2
          go_roundw
          case rel => exact ⟨k + 1, Lv, Fl, vq, q, by omega, rfl, hidb ⟨E2.out, by rw [HSm.out]; exact E.out.2⟩⟩
          case measure => simp [intOf]; omega
      · have hkN : k = N := by omega
        have h1' : ¬ (k : Int) < (N : Int) := by omega
        have HSt : Hid (FM w wr base F LV FL N (.int .i64 (m : Int)) (.int .i64 (n : Int)) (.slice (some ⟨Lb, Lo, none⟩) N Lcap) Lv Fl (.slice none 0 0) (flo m n l 0).ord vq q ∧ Syn m l (flo m n l 0) Lv Fl q) := by
          refine ⟨E.out.1.m, ?_⟩
          have := E.out.2
          rw [hkN, HN.out, fsK_all] at this
          exact this
        clear E h1 hkN hk
        go_wp2
        generalize (Value.slice none 0 0 : Value) = vo0 at HSt
        go_loopg [] N (fun gk wr => ∃ (j : Nat) (Lv Fl : List Int) (vo vq : Value) (q : List Wt), Hid (gk + j = N) ∧ Hid (FM w wr base F LV FL N (.int .i64 (m : Int)) (.int .i64 (n : Int)) (.slice (some ⟨Lb, Lo, none⟩) N Lcap) Lv Fl vo (flo m n l j).ord vq q ∧ Syn m l (flo m n l j) Lv Fl q))
        case atStart => exact ⟨0, Lv, Fl, vo0, vq, q, hidb rfl, HSt⟩
        case round =>
          clear HSt
          obtain ⟨j, Lv, Fl, vo, vq, q, HJ, E⟩ := hrel
          obtain ⟨ad1, cap1, rfl⟩ := own_shape2 E.out.1.rq
          obtain ⟨-, -, -, c6⟩ := E.out.1.c3
          have HFI := hidb (flo_inv m n l HOk.out.m1 HOk.out.len j (by have := HJ.out; have := HN.out; omega))
          have HLen := hidb (fun w => len_any ad1 q.length cap1 w)
          by_cases hq : q.length = 0
          · have hj : j = N := by
              have h1 := HFI.out.1.full m n l HOk.out.m1 HOk.out.len (E.out.2.empty m l hq)
              have h2 := HFI.out.2
              rw [HN.out]
              omega
            subst hj
            rw [hq] at HLen c6
            have HE : Hid (∃ base LV FL Lv Fl vo vq q, FM w wr base F LV FL j (.int .i64 (m : Int)) (.int .i64 (n : Int)) (.slice (some ⟨Lb, Lo, none⟩) j Lcap) Lv Fl vo (flo m n l j).ord vq q ∧ Syn m l (flo m n l j) Lv Fl q) := ⟨base, LV, FL, Lv, Fl, vo, _, q, E.out⟩
            clear E HFI
            go_wp2_with (first | (go_at_call 38; refine (HLen.out _).mono ?_; rintro e w9 ⟨rfl, rfl⟩) | fail)
            go_ret
            obtain ⟨base', LV', FL', Lv', Fl', vo', vq', q', h1, h2⟩ := HE.out
            exact ⟨F, base', LV', FL', Lv', Fl', vo', vq', q', rfl, h1, h2⟩
          · obtain ⟨n0, hn0⟩ : ∃ n0, q.length = n0 + 1 := ⟨q.length - 1, by omega⟩
            have HB := hidb (fun b (hb : isB (flo m n l j) l.length b) => show j + 1 ≤ l.length from by
              have h1 := (HFI.out.1.step m n l hb.2.1).len m n l
              have h2 := HFI.out.2
              have h3 : (stepF m l (flo m n l j) b).ord.length = (flo m n l j).ord.length + 1 := by show ((flo m n l j).ord ++ [b]).length = _; simp
              omega)
            have HT := hidb (fun W (M : FM w W base F LV FL l.length (.int .i64 (m : Int)) (.int .i64 (n : Int)) (.slice (some ⟨Lb, Lo, none⟩) l.length Lcap) Lv Fl vo (flo m n l j).ord (.slice ad1 q.length cap1) q) => take_any W HR.out HOk.out M E.out.2 hn0 (by have := HFI.out.2; have := HL.out; have := HJ.out; omega))
            rw [← HN.out] at HT
            have HNx := hidb (fun b (hb : isB (flo m n l j) l.length b) => flo_next m n l hb)
            have hq' : (0 : Int) < (q.length : Int) := by omega
            clear hq hn0
            go_wp2_with (first | (go_at_call 38; refine (HLen.out _).mono ?_; rintro e w9 ⟨rfl, rfl⟩) | fail)
            refine (HT.out _ E.out.1).mono ?_
            rintro e w2 ⟨rfl, b, Lv2, Fl2, vo2, vq2, q2, hb2, hM2, hS2⟩
            have E2 : Hid (FM w w2 base F LV FL N (.int .i64 (m : Int)) (.int .i64 (n : Int)) (.slice (some ⟨Lb, Lo, none⟩) N Lcap) Lv2 Fl2 vo2 (flo m n l (j + 1)).ord vq2 q2 ∧ Syn m l (flo m n l (j + 1)) Lv2 Fl2 q2) := by
              have hb3 := hb2
              rw [HN.out] at hb3
              have e := HNx.out b hb3
              refine ⟨?_, ?_⟩
              · rw [e]; exact hM2
              · rw [e]; exact hS2
            have HJ2 : Hid (j + 1 ≤ N) := by
              have hb3 := hb2
              rw [HN.out] at hb3
              show _ ≤ _
              rw [HN.out]
              exact HB.out b hb3
            clear hb2 hM2 hS2 HT HNx HB
            go_wp2
            go_roundg (gk - 1)
            case measure => have := HJ.out; have := HJ2.out; omega
            case rel => exact ⟨j + 1, Lv2, Fl2, vo2, vq2, q2, hidb (by have := HJ.out; have := HJ2.out; omega), E2⟩
end Go.Proofs.YtlhligeicnejbaaDoor
namespace Go.Proofs.YtlhligeicnejbaaDoor
open Go.RowKit
attribute [local go_sem ↓] Go.wp_at_zero Go.wp_at_succ

/-- The heights and directions of a flood, as lists. -/
def fiL (m n : Nat) (l : List Int) : List Int := (List.range l.length).map (flo m n l l.length).fi
def flL (m n : Nat) (l : List Int) : List Int := (List.range l.length).map (fun i => flV m (flo m n l l.length) i)
theorem list_gl {L : List Int} {N : Nat} {f : Nat → Int} (hL : L.length = N) (h : ∀ i, i < N → gl L i = f i) : L = (List.range N).map f := by
  apply List.ext_getElem
  · simp [hL]
  · intro i h1 h2
    rw [gl_get h1, h i (by omega)]
    simp
theorem gl_map {N : Nat} {f : Nat → Int} {i : Nat} (hi : i < N) : gl ((List.range N).map f) i = f i := by
  unfold gl
  simp [hi]
theorem FM.fiL {w w' : World} {base F LV FL m n : Nat} {l : List Int} {a b c : Value} {Lv Fl : List Int} {vo : Value} {ord : List Nat} {vq : Value} {q : List Wt} (h : FM w w' base F LV FL l.length a b c Lv Fl vo ord vq q) (hs : Syn m l (flo m n l l.length) Lv Fl q) : Lv = Go.Proofs.YtlhligeicnejbaaDoor.fiL m n l ∧ Fl = flL m n l :=
  ⟨list_gl h.ll.1 hs.lv, list_gl h.ll.2 hs.fl⟩
set_option maxRecDepth 4000 in
set_option maxHeartbeats 8000000 in
theorem flow_ok (g : Nat → Addr) {m n Lb Lo Lcap : Nat} {l : List Int} (w : World) (hR : Rs w Lb Lo Lcap l) (ok : Ok l m n) (hv : vcode m n l = 0) (hl : Lai w g) : Calls Tryd.prog 14 #[raV m n (.slice (some ⟨Lb, Lo, none⟩) l.length Lcap)] w fun e w' => ∃ FL, e = .returned (.tuple #[.slice (some ⟨FL, 0, none⟩) l.length l.length, .nilIface]) ∧ At w' FL (ir (flL m n l)) ∧ w.heap.size ≤ FL ∧ Gr w w' := by
  have PX : Hid (PF w (w.alloc (.cells #[.int .i64 (m : Int), .int .i64 (n : Int), .slice (some ⟨Lb, Lo, none⟩) l.length Lcap] 32)) w.heap.size [.int .i64 (m : Int), .int .i64 (n : Int), .slice (some ⟨Lb, Lo, none⟩) l.length Lcap]) := ⟨At.new3 _ _ _ _ _, (Gr.refl w).alloc _⟩
  have C1 := hidb (valid_lai g m n _ Lb Lo Lcap l _ (hR.below PX.out.gr.out).isl (by have := ok.len_le; omega) (hl.below PX.out.gr.out))
  rw [hv, show evc g 0 = .nilIface from rfl] at C1
  have HF := hidb (fun W (hG : Gr w W) => flooded_any W (hR.below hG.out) ok)
  have HFi := hidb (fun (w1 w2 : World) base F LV FL a b c Lv Fl vo ord vq q (h : FM w1 w2 base F LV FL l.length a b c Lv Fl vo ord vq q) (hs : Syn m l (flo m n l l.length) Lv Fl q) => FM.fiL h hs)
  clear hR ok hv hl
  go_enter Tryd.func14, Tryd.ntmps14
  obtain ⟨q0, q1, q2⟩ := PX.out.a.c3
  go_wp2_with fail
  refine C1.out.mono ?_
  rintro e w1 ⟨rfl, hB⟩
  clear q0 q1 q2
  replace PX := hidb (PX.out.below hB.out)
  clear hB C1
  obtain ⟨q0, q1, q2⟩ := PX.out.a.c3
  go_wp2_with fail
  refine (HF.out _ PX.out.gr).mono ?_
  rintro e w2 ⟨F, base, LV, FL, Lv, Fl, vo, vq, q, rfl, hM, hS⟩
  have c4 := hM.c3.2.1
  have HZ := hidb (show At w2 FL (ir (flL m n l)) ∧ w.heap.size ≤ FL ∧ Gr w w2 from ⟨by rw [← (HFi.out _ _ _ _ _ _ _ _ _ _ _ _ _ _ _ hM hS).2]; exact hM.fl, by have := hM.b1; have := PX.out.gr.out.size; omega, Gr.step PX.out.gr hM.gr.out⟩)
  clear hM hS q0 q1 q2
  go_wp2
  go_ret2
  exact ⟨FL, rfl, HZ.out⟩
theorem fill3g {w W : World} {T B : Nat} {t : List Value} (h : PF w W T t) (_hH : Has W B 3) (hB : w.heap.size ≤ B) (x y z : Value) : Gr w (((W.setCell ⟨B, 0, none⟩ x).setCell ⟨B, 1, none⟩ y).setCell ⟨B, 2, none⟩ z) := ((h.gr.set hB 0 x).set hB 1 y).set hB 2 z
end Go.Proofs.YtlhligeicnejbaaDoor
