/-
  mercatorref3.Solved.
-/
import Derived.Test.YtilgamhdcmkkeaaDoorQJ9
import Derived.Test.YtilgamhdcmkkeaaDoorQFxF
import Derived.Deep.RegionHeld3
namespace Go.Proofs.YtilgamhdcmkkeaaDoor
open Go.RowKit BG
attribute [local go_sem ↓] Go.wp_at_zero Go.wp_at_succ

/-- A Signed in a block of its own. -/
structure Ac (W : World) (B : Nat) (m : Bool) (ad : Option Addr) (L cap : Nat) (z : Int) : Prop where
  at_ : At W B [.bool m, .slice ad L cap]
  sg : Sg W m (.slice ad L cap) z
theorem Ac.below {W w' : World} {B : Nat} {m : Bool} {ad : Option Addr} {L cap : Nat} {z : Int} (hB : Below W.heap.size W w') (h : Ac W B m ad L cap z) : Ac w' B m ad L cap z := ⟨At.below hB h.at_, h.sg.below hB⟩
theorem Ac.alloc {W : World} {B : Nat} {m : Bool} {ad : Option Addr} {L cap : Nat} {z : Int} (h : Ac W B m ad L cap z) (o : Obj) : Ac (W.alloc o) B m ad L cap z := h.below ((Below.refl _ _).alloc (Nat.le_refl _) o)
theorem Ac.drew {W : World} {B : Nat} {m : Bool} {ad : Option Addr} {L cap : Nat} {z : Int} (h : Ac W B m ad L cap z) : Ac W.drew B m ad L cap z := ⟨h.at_.drew, h.sg.drew⟩
theorem Ac.skip {W : World} {B C : Nat} {m m' : Bool} {ad : Option Addr} {L cap : Nat} {z : Int} {u : Value} (h : Ac W B m ad L cap z) (hA : At W C [.bool m', u]) (hne : ¬ C = B) (n : Bool) (v : Value) : Ac ((W.setCell ⟨C, 0, none⟩ (.bool n)).setCell ⟨C, 1, none⟩ v) B m ad L cap z := ⟨(h.at_.skip hne _ _).skip hne _ _, ⟨h.sg.1.setS2 hA _, h.sg.2⟩⟩
theorem Ac.put {W : World} {B : Nat} {m n : Bool} {u : Value} {ad' : Option Addr} {L' cap' : Nat} {z' : Int} (h : At W B [.bool m, u]) (hs : Sg W n (.slice ad' L' cap') z') : Ac ((W.setCell ⟨B, 0, none⟩ (.bool n)).setCell ⟨B, 1, none⟩ (.slice ad' L' cap')) B n ad' L' cap' z' := ⟨(h.put 0 _).put 1 _, ⟨hs.1.setS2 h _, hs.2⟩⟩
def Ak (W : World) (B : Nat) (z : Int) : Prop := ∃ m ad L cap, Ac W B m ad L cap z
theorem Ak.below {W w' : World} {B : Nat} {z : Int} (hB : Below W.heap.size W w') (h : Ak W B z) : Ak w' B z := by
  obtain ⟨m, ad, L, cap, h⟩ := h; exact ⟨m, ad, L, cap, h.below hB⟩
theorem Ak.skip {W : World} {B C : Nat} {m' : Bool} {z : Int} {u : Value} (h : Ak W B z) (hA : At W C [.bool m', u]) (hne : ¬ C = B) (n : Bool) (v : Value) : Ak ((W.setCell ⟨C, 0, none⟩ (.bool n)).setCell ⟨C, 1, none⟩ v) B z := by
  obtain ⟨m, ad, L, cap, h⟩ := h; exact ⟨m, ad, L, cap, h.skip hA hne _ _⟩
theorem At.skip2 {W : World} {B C : Nat} {l : List Value} (h : At W B l) (hne : ¬ C = B) (n v : Value) : At ((W.setCell ⟨C, 0, none⟩ n).setCell ⟨C, 1, none⟩ v) B l := (h.skip hne _ _).skip hne _ _
/-- What lies in memory: three answers, five sums. -/
structure Rs (W w : World) (S : Nat) (z0 z1 z2 z3 z4 : Int) : Prop where
  r0 : At W S [.bool false, .slice none 0 0]
  r1 : At W (S + 1) [.bool false, .slice none 0 0]
  r2 : At W (S + 1 + 1) [.bool false, .slice none 0 0]
  a0 : Ak W (S + 1 + 1 + 1) z0
  a1 : Ak W (S + 1 + 1 + 1 + 1) z1
  a2 : Ak W (S + 1 + 1 + 1 + 1 + 1) z2
  a3 : Ak W (S + 1 + 1 + 1 + 1 + 1 + 1) z3
  a4 : Ak W (S + 1 + 1 + 1 + 1 + 1 + 1 + 1) z4
  gr : Gr w W
  le : w.heap.size ≤ S
theorem Rs.below {W w w' : World} {S : Nat} {z0 z1 z2 z3 z4 : Int} (hB : Below W.heap.size W w') (h : Rs W w S z0 z1 z2 z3 z4) : Rs w' w S z0 z1 z2 z3 z4 :=
  ⟨At.below hB h.r0, At.below hB h.r1, At.below hB h.r2, h.a0.below hB, h.a1.below hB, h.a2.below hB, h.a3.below hB, h.a4.below hB, Gr.step h.gr hB, h.le⟩
theorem Rs.alloc {W w : World} {S : Nat} {z0 z1 z2 z3 z4 : Int} (h : Rs W w S z0 z1 z2 z3 z4) (o : Obj) : Rs (W.alloc o) w S z0 z1 z2 z3 z4 := h.below ((Below.refl _ _).alloc (Nat.le_refl _) o)
theorem Rs.drew {W w : World} {S : Nat} {z0 z1 z2 z3 z4 : Int} (h : Rs W w S z0 z1 z2 z3 z4) : Rs W.drew w S z0 z1 z2 z3 z4 := h.below (Below.refl _ _).drew
theorem Rs.put0 {W w : World} {S : Nat} {z0 z1 z2 z3 z4 z' : Int} {n : Bool} {ad' : Option Addr} {L' cap' : Nat} (h : Rs W w S z0 z1 z2 z3 z4) (hs : Sg W n (.slice ad' L' cap') z') : Rs ((W.setCell ⟨S + 1 + 1 + 1, 0, none⟩ (.bool n)).setCell ⟨S + 1 + 1 + 1, 1, none⟩ (.slice ad' L' cap')) w S z' z1 z2 z3 z4 := by
  obtain ⟨m, ad, L, cap, hA⟩ := h.a0
  have hle := h.le
  exact ⟨h.r0.skip2 (by omega) _ _, h.r1.skip2 (by omega) _ _, h.r2.skip2 (by omega) _ _, ⟨_, _, _, _, Ac.put hA.at_ hs⟩, (h.a1.skip hA.at_ (by omega) _ _), (h.a2.skip hA.at_ (by omega) _ _), (h.a3.skip hA.at_ (by omega) _ _), (h.a4.skip hA.at_ (by omega) _ _), (h.gr.set (by omega) _ _).set (by omega) _ _, h.le⟩
theorem Rs.put1 {W w : World} {S : Nat} {z0 z1 z2 z3 z4 z' : Int} {n : Bool} {ad' : Option Addr} {L' cap' : Nat} (h : Rs W w S z0 z1 z2 z3 z4) (hs : Sg W n (.slice ad' L' cap') z') : Rs ((W.setCell ⟨S + 1 + 1 + 1 + 1, 0, none⟩ (.bool n)).setCell ⟨S + 1 + 1 + 1 + 1, 1, none⟩ (.slice ad' L' cap')) w S z0 z' z2 z3 z4 := by
  obtain ⟨m, ad, L, cap, hA⟩ := h.a1
  have hle := h.le
  exact ⟨h.r0.skip2 (by omega) _ _, h.r1.skip2 (by omega) _ _, h.r2.skip2 (by omega) _ _, (h.a0.skip hA.at_ (by omega) _ _), ⟨_, _, _, _, Ac.put hA.at_ hs⟩, (h.a2.skip hA.at_ (by omega) _ _), (h.a3.skip hA.at_ (by omega) _ _), (h.a4.skip hA.at_ (by omega) _ _), (h.gr.set (by omega) _ _).set (by omega) _ _, h.le⟩
theorem Rs.put2 {W w : World} {S : Nat} {z0 z1 z2 z3 z4 z' : Int} {n : Bool} {ad' : Option Addr} {L' cap' : Nat} (h : Rs W w S z0 z1 z2 z3 z4) (hs : Sg W n (.slice ad' L' cap') z') : Rs ((W.setCell ⟨S + 1 + 1 + 1 + 1 + 1, 0, none⟩ (.bool n)).setCell ⟨S + 1 + 1 + 1 + 1 + 1, 1, none⟩ (.slice ad' L' cap')) w S z0 z1 z' z3 z4 := by
  obtain ⟨m, ad, L, cap, hA⟩ := h.a2
  have hle := h.le
  exact ⟨h.r0.skip2 (by omega) _ _, h.r1.skip2 (by omega) _ _, h.r2.skip2 (by omega) _ _, (h.a0.skip hA.at_ (by omega) _ _), (h.a1.skip hA.at_ (by omega) _ _), ⟨_, _, _, _, Ac.put hA.at_ hs⟩, (h.a3.skip hA.at_ (by omega) _ _), (h.a4.skip hA.at_ (by omega) _ _), (h.gr.set (by omega) _ _).set (by omega) _ _, h.le⟩
theorem Rs.put3 {W w : World} {S : Nat} {z0 z1 z2 z3 z4 z' : Int} {n : Bool} {ad' : Option Addr} {L' cap' : Nat} (h : Rs W w S z0 z1 z2 z3 z4) (hs : Sg W n (.slice ad' L' cap') z') : Rs ((W.setCell ⟨S + 1 + 1 + 1 + 1 + 1 + 1, 0, none⟩ (.bool n)).setCell ⟨S + 1 + 1 + 1 + 1 + 1 + 1, 1, none⟩ (.slice ad' L' cap')) w S z0 z1 z2 z' z4 := by
  obtain ⟨m, ad, L, cap, hA⟩ := h.a3
  have hle := h.le
  exact ⟨h.r0.skip2 (by omega) _ _, h.r1.skip2 (by omega) _ _, h.r2.skip2 (by omega) _ _, (h.a0.skip hA.at_ (by omega) _ _), (h.a1.skip hA.at_ (by omega) _ _), (h.a2.skip hA.at_ (by omega) _ _), ⟨_, _, _, _, Ac.put hA.at_ hs⟩, (h.a4.skip hA.at_ (by omega) _ _), (h.gr.set (by omega) _ _).set (by omega) _ _, h.le⟩
theorem Rs.put4 {W w : World} {S : Nat} {z0 z1 z2 z3 z4 z' : Int} {n : Bool} {ad' : Option Addr} {L' cap' : Nat} (h : Rs W w S z0 z1 z2 z3 z4) (hs : Sg W n (.slice ad' L' cap') z') : Rs ((W.setCell ⟨S + 1 + 1 + 1 + 1 + 1 + 1 + 1, 0, none⟩ (.bool n)).setCell ⟨S + 1 + 1 + 1 + 1 + 1 + 1 + 1, 1, none⟩ (.slice ad' L' cap')) w S z0 z1 z2 z3 z' := by
  obtain ⟨m, ad, L, cap, hA⟩ := h.a4
  have hle := h.le
  exact ⟨h.r0.skip2 (by omega) _ _, h.r1.skip2 (by omega) _ _, h.r2.skip2 (by omega) _ _, (h.a0.skip hA.at_ (by omega) _ _), (h.a1.skip hA.at_ (by omega) _ _), (h.a2.skip hA.at_ (by omega) _ _), (h.a3.skip hA.at_ (by omega) _ _), ⟨_, _, _, _, Ac.put hA.at_ hs⟩, (h.gr.set (by omega) _ _).set (by omega) _ _, h.le⟩
theorem Rs.skip {W w : World} {S C : Nat} {z0 z1 z2 z3 z4 : Int} {m' : Bool} {u : Value} (h : Rs W w S z0 z1 z2 z3 z4) (hA : At W C [.bool m', u]) (hC : S + 1 + 1 + 1 + 1 + 1 + 1 + 1 < C) (n : Bool) (v : Value) : Rs ((W.setCell ⟨C, 0, none⟩ (.bool n)).setCell ⟨C, 1, none⟩ v) w S z0 z1 z2 z3 z4 := by
  have hle := h.le
  exact ⟨h.r0.skip2 (by omega) _ _, h.r1.skip2 (by omega) _ _, h.r2.skip2 (by omega) _ _, h.a0.skip hA (by omega) _ _, h.a1.skip hA (by omega) _ _, h.a2.skip hA (by omega) _ _, h.a3.skip hA (by omega) _ _, h.a4.skip hA (by omega) _ _, (h.gr.set (by omega) _ _).set (by omega) _ _, h.le⟩
theorem lid_le {n : Nat} (h : n ≤ 70 * 2 ^ 108) : n ≤ 4 * lid := Nat.le_trans h (by decide +kernel)
theorem keepA {W : World} {b i : Nat} {v : Value} (h : W.cell? ⟨b, i, none⟩ = some v) (o : Obj) : (W.alloc o).cell? ⟨b, i, none⟩ = some v := (Below.cell ((Below.refl W.heap.size W).alloc (Nat.le_refl _) o) (lt_of_cell h)).trans h
theorem keepS {W : World} {b c i : Nat} {v : Value} (h : W.cell? ⟨b, i, none⟩ = some v) (hne : ¬ c = b) (n u : Value) : ((W.setCell ⟨c, 0, none⟩ n).setCell ⟨c, 1, none⟩ u).cell? ⟨b, i, none⟩ = some v := by
  have hn : ¬ b = c := fun e => hne e.symm
  simp [go_sem, h]
theorem sg_zero (W : World) : Sg W false (.slice none 0 0) 0 := ⟨.inl ⟨rfl, dn_zero⟩, by simp⟩
theorem At.new2e {W : World} {B : Nat} (hB : B = W.heap.size) (a b : Value) (t : Nat) : At (W.alloc (.cells #[a, b] t)) B [a, b] := by subst hB; exact At.new2 W a b t
theorem Ak.new {W : World} {B : Nat} (hB : B = W.heap.size) (t : Nat) : Ak (W.alloc (.cells #[.bool false, .slice none 0 0] t)) B 0 := ⟨_, _, _, _, At.new2e hB _ _ t, sg_zero _⟩
theorem Ak.alloc {W : World} {B : Nat} {z : Int} (h : Ak W B z) (o : Obj) : Ak (W.alloc o) B z := h.below ((Below.refl _ _).alloc (Nat.le_refl _) o)
theorem Rs.init (w : World) (t : Nat) : Rs ((((((((w.alloc (.cells #[.bool false, .slice none 0 0] t)).alloc (.cells #[.bool false, .slice none 0 0] t)).alloc (.cells #[.bool false, .slice none 0 0] t)).alloc (.cells #[.bool false, .slice none 0 0] t)).alloc (.cells #[.bool false, .slice none 0 0] t)).alloc (.cells #[.bool false, .slice none 0 0] t)).alloc (.cells #[.bool false, .slice none 0 0] t)).alloc (.cells #[.bool false, .slice none 0 0] t)) w w.heap.size 0 0 0 0 0 := by
  refine ⟨?_, ?_, ?_, ?_, ?_, ?_, ?_, ?_, ?_, Nat.le_refl _⟩
  · exact (((((((At.new2e (by simp) _ _ _).alloc _).alloc _).alloc _).alloc _).alloc _).alloc _).alloc _
  · exact ((((((At.new2e (by simp) _ _ _).alloc _).alloc _).alloc _).alloc _).alloc _).alloc _
  · exact (((((At.new2e (by simp) _ _ _).alloc _).alloc _).alloc _).alloc _).alloc _
  · exact ((((Ak.new (by simp) _).alloc _).alloc _).alloc _).alloc _
  · exact (((Ak.new (by simp) _).alloc _).alloc _).alloc _
  · exact ((Ak.new (by simp) _).alloc _).alloc _
  · exact (Ak.new (by simp) _).alloc _
  · exact Ak.new (by simp) _
  · exact ((((((((Gr.refl w).alloc _).alloc _).alloc _).alloc _).alloc _).alloc _).alloc _).alloc _
/-- The words that are reckoned. -/
theorem sol_words {f r : Rg} (hf : okR f) (hr : okR r) : ∃ X Y Z dx dy rx ry rs rt fx fy fs ft : Int, dif f r = ⟨X, Y, Z⟩ ∧ Sme ⟨X, Y, Z⟩ ∧ IntKind.i64.wrap (r.x - f.x) = dx ∧ IntKind.i64.wrap (2 * dx) = X ∧ IntKind.i64.wrap (r.y - f.y) = dy ∧ IntKind.i64.wrap (2 * dy) = Y ∧ IntKind.i64.wrap (r.x * r.x) = rx ∧ IntKind.i64.wrap (r.y * r.y) = ry ∧ IntKind.i64.wrap (rx + ry) = rs ∧ IntKind.i64.wrap (rs - r.q) = rt ∧ IntKind.i64.wrap (f.x * f.x) = fx ∧ IntKind.i64.wrap (f.y * f.y) = fy ∧ IntKind.i64.wrap (fx + fy) = fs ∧ IntKind.i64.wrap (fs - f.q) = ft ∧ IntKind.i64.wrap (rt - ft) = Z := by
  have b1 := bey_bd hf
  have b2 := bey_bd hr
  have e1 : bey f = f.x * f.x + f.y * f.y - f.q := by unfold bey far; simp
  have e2 : bey r = r.x * r.x + r.y * r.y - r.q := by unfold bey far; simp
  obtain ⟨⟨⟨h1, h2⟩, h3, h4⟩, h5, h6⟩ := hf
  obtain ⟨⟨⟨k1, k2⟩, k3, k4⟩, k5, k6⟩ := hr
  obtain ⟨s1, s2⟩ := sq_le (x := f.x) (b := 16777216) (by omega) (by omega)
  obtain ⟨s3, s4⟩ := sq_le (x := f.y) (b := 16777216) (by omega) (by omega)
  obtain ⟨s5, s6⟩ := sq_le (x := r.x) (b := 16777216) (by omega) (by omega)
  obtain ⟨s7, s8⟩ := sq_le (x := r.y) (b := 16777216) (by omega) (by omega)
  refine ⟨_, _, bey r - bey f, r.x - f.x, r.y - f.y, r.x * r.x, r.y * r.y, r.x * r.x + r.y * r.y, bey r, f.x * f.x, f.y * f.y, f.x * f.x + f.y * f.y, bey f, rfl, ?_, ?_⟩
  · unfold Sme; dsimp only; omega
  rw [e1, e2] at *
  generalize f.x * f.x = a at *
  generalize f.y * f.y = b at *
  generalize r.x * r.x = c at *
  generalize r.y * r.y = d at *
  refine ⟨wr_in (by omega) (by omega), wr_in (by omega) (by omega), wr_in (by omega) (by omega), wr_in (by omega) (by omega), wr_in (by omega) (by omega), wr_in (by omega) (by omega), wr_in (by omega) (by omega), wr_in (by omega) (by omega), wr_in (by omega) (by omega), wr_in (by omega) (by omega), wr_in (by omega) (by omega), wr_in (by omega) (by omega), wr_in (by omega) (by omega)⟩
theorem difs_at {l : List Rg} {k : Nat} (h : k + 1 < l.length) : ∃ h' : k < (difs l).length, (difs l)[k] = dif (l[0]'(by omega)) l[k + 1] := by
  cases l with
  | nil => simp at h
  | cons f l => exact ⟨by simp [difs] at h ⊢; omega, by simp [difs]⟩
end Go.Proofs.YtilgamhdcmkkeaaDoor
