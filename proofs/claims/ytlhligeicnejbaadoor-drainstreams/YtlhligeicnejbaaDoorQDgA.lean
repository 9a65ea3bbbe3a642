/-
  drain.flood's next.
-/
import Derived.Test.YtlhligeicnejbaaDoorQJ11
import Derived.Test.YtlhligeicnejbaaDoorQJ4
namespace Go.Proofs.YtlhligeicnejbaaDoor
open Go.RowKit
attribute [local go_sem ↓] Go.wp_at_zero Go.wp_at_succ

theorem FM.five {w0 w : World} {base F LV FL N : Nat} {a b c : Value} {Lv Fl : List Int} {vo : Value} {ord : List Nat} {vq : Value} {q : List Wt} (h : FM w0 w base F LV FL N a b c Lv Fl vo ord vq q) {i : Nat} (hi : i < N) {d : Int} (hd : gl Fl i = d) : w.cell? ⟨F, 0, none⟩ = some a ∧ w.cell? ⟨F, 1, none⟩ = some b ∧ w.cell? ⟨F, 2, none⟩ = some c ∧ w.cell? ⟨F, 4, none⟩ = some (.slice (some ⟨FL, 0, none⟩) N N) ∧ w.cell? ⟨FL, i, none⟩ = some (.int .i64 d) := by
  refine ⟨(h.f.1 0 (by simp)).1, (h.f.1 1 (by simp)).1, (h.f.1 2 (by simp)).1, (h.f.1 4 (by simp)).1, ?_⟩
  rw [← hd, ← gl_get (show i < Fl.length by rw [h.ll.2]; exact hi)]
  exact (h.fl.get _).1
/-- Where a cell flows at the end; none: it is of the rim. -/
def nxO (m n : Nat) (l : List Int) (c : Nat) : Option Nat := if (flo m n l l.length).tw c = c then none else some ((flo m n l l.length).tw c)
theorem nx_nb {m n : Nat} {l : List Int} (ok : Ok l m n) {c : Nat} (hc : c < l.length) : ∃ d : Nat, d ≤ 8 ∧ flV m (flo m n l l.length) c = (d : Int) ∧ nbO m n c d = nxO m n l c := by
  have hs := flo_all m n l ok.m1 ok.len c hc
  have hs0 : (flo m n l l.length).st c ≠ 0 := by omega
  have ht := flo_tw m n l ok.m1 ok.len l.length c hs0
  refine ⟨wyD m c ((flo m n l l.length).tw c), ?_, ?_, ?_⟩
  · rcases ht with ht | ht
    · rw [ht]
      unfold wyD
      rw [Int.sub_self, Int.sub_self]
      decide
    · have := (tch_nb (n := n) ok.m1 ht.1 (by rw [← ok.len]; exact ht.2)).1
      omega
  · unfold flV
    rw [if_neg hs0]
  · unfold nxO
    by_cases e : (flo m n l l.length).tw c = c
    · rw [if_pos e, e]
      have e8 : wyD m c c = 8 := by
        unfold wyD
        rw [Int.sub_self, Int.sub_self]
        decide
      rw [e8]
      unfold nbO
      rw [if_pos (.inl rfl)]
    · rw [if_neg e]
      have h2 := ht.resolve_left e
      exact (tch_nb (n := n) ok.m1 h2.1 (by rw [← ok.len]; exact h2.2)).2
set_option maxRecDepth 4000 in
set_option maxHeartbeats 8000000 in
theorem next_any {w0 : World} {base F LV FL m n Lb Lo Lcap : Nat} {l Lv Fl : List Int} {vo vq : Value} {ord : List Nat} {q : List Wt} (c : Nat) (w : World) (ok : Ok l m n) (h : FM w0 w base F LV FL l.length (.int .i64 (m : Int)) (.int .i64 (n : Int)) (.slice (some ⟨Lb, Lo, none⟩) l.length Lcap) Lv Fl vo ord vq q) (hs : Syn m l (flo m n l l.length) Lv Fl q) (hc : c < l.length) : Calls Tryd.prog 20 #[.pointer (some ⟨F, 0, none⟩), .int .i64 (c : Int)] w fun e w' => e = .returned (nbA (nxO m n l c)) ∧ Gr w w' := by
  obtain ⟨d, hd, hf, hn⟩ := nx_nb ok hc
  have hlen := ok.len_le
  have HNb := hidb (fun w => neighbour_any (m := m) (n := n) (some ⟨Lb, Lo, none⟩) l.length Lcap c d ok.m1 ok.m2 ok.n2 (by omega) ⟨hc, by omega⟩ hd w)
  rw [hn] at HNb
  have hfl : gl Fl c = (d : Int) := by rw [hs.fl c hc]; exact hf
  have HKp : Hid (∀ W, FM w0 W base F LV FL l.length (.int .i64 (m : Int)) (.int .i64 (n : Int)) (.slice (some ⟨Lb, Lo, none⟩) l.length Lcap) Lv Fl vo ord vq q → W.cell? ⟨F, 0, none⟩ = some (.int .i64 (m : Int)) ∧ W.cell? ⟨F, 1, none⟩ = some (.int .i64 (n : Int)) ∧ W.cell? ⟨F, 2, none⟩ = some (.slice (some ⟨Lb, Lo, none⟩) l.length Lcap) ∧ W.cell? ⟨F, 4, none⟩ = some (.slice (some ⟨FL, 0, none⟩) l.length l.length) ∧ W.cell? ⟨FL, c, none⟩ = some (.int .i64 (d : Int))) := fun W X => X.five hc hfl
  have ix := iindex FL 0 l.length l.length c hc
  rw [Nat.zero_add] at ix
  have PX := h
  have PG := Gr.refl w
  obtain ⟨cI, hcI⟩ : ∃ z : Int, z = (c : Int) := ⟨_, rfl⟩
  obtain ⟨dI, hdI⟩ : ∃ z : Int, z = (d : Int) := ⟨_, rfl⟩
  rw [← hcI] at HNb ix ⊢
  rw [← hdI] at HNb HKp
  cases ho : nxO m n l c with
  | none =>
    rw [ho] at HNb
    unfold nbA at HNb ⊢
    clear h hs hc hd hf hn hlen hfl hcI hdI ok ho
    go_enter Tryd.func20, Tryd.ntmps20
    go_upto_region 1 with fail
    go_region_held (fun w' => w'.cell? ⟨F, 0, none⟩ = some (.int .i64 (m : Int)) ∧ w'.cell? ⟨F, 1, none⟩ = some (.int .i64 (n : Int)) ∧ w'.cell? ⟨F, 2, none⟩ = some (.slice (some ⟨Lb, Lo, none⟩) l.length Lcap) ∧ w'.cell? ⟨F, 4, none⟩ = some (.slice (some ⟨FL, 0, none⟩) l.length l.length) ∧ w'.cell? ⟨FL, c, none⟩ = some (.int .i64 dI))
      (with_reducible first | exact HKp.out _ PX | exact HKp.out _ PX.drew)
      ((go_at_call 32; with_reducible refine (HNb.out _).mono ?_; rintro e w9 ⟨rfl, hB9⟩; (with_reducible first | replace PX := PX.below hB9.out | replace PX := PX.drew.below hB9.out); (with_reducible first | replace PG := Gr.step PG hB9.out | replace PG := Gr.step PG.drew hB9.out)))
    all_goals
      go_wp2
      go_ret2
      exact ⟨rfl, by with_reducible first | exact PG | exact PG.drew⟩
  | some k =>
    rw [ho] at HNb
    unfold nbA at HNb ⊢
    dsimp only at HNb ⊢
    obtain ⟨kI, hkI⟩ : ∃ z : Int, z = (k : Int) := ⟨_, rfl⟩
    rw [← hkI] at HNb ⊢
    clear h hs hc hd hf hn hlen hfl hcI hdI ok ho hkI
    go_enter Tryd.func20, Tryd.ntmps20
    go_upto_region 1 with fail
    go_region_held (fun w' => w'.cell? ⟨F, 0, none⟩ = some (.int .i64 (m : Int)) ∧ w'.cell? ⟨F, 1, none⟩ = some (.int .i64 (n : Int)) ∧ w'.cell? ⟨F, 2, none⟩ = some (.slice (some ⟨Lb, Lo, none⟩) l.length Lcap) ∧ w'.cell? ⟨F, 4, none⟩ = some (.slice (some ⟨FL, 0, none⟩) l.length l.length) ∧ w'.cell? ⟨FL, c, none⟩ = some (.int .i64 dI))
      (with_reducible first | exact HKp.out _ PX | exact HKp.out _ PX.drew)
      ((go_at_call 32; with_reducible refine (HNb.out _).mono ?_; rintro e w9 ⟨rfl, hB9⟩; (with_reducible first | replace PX := PX.below hB9.out | replace PX := PX.drew.below hB9.out); (with_reducible first | replace PG := Gr.step PG hB9.out | replace PG := Gr.step PG.drew hB9.out)))
    all_goals
      go_wp2
      go_ret2
      exact ⟨rfl, by with_reducible first | exact PG | exact PG.drew⟩
end Go.Proofs.YtlhligeicnejbaaDoor
