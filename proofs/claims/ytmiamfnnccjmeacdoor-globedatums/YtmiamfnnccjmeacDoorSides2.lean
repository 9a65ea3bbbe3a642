/-
  grain.sides.
-/
import Derived.Test.YtmiamfnnccjmeacDoorSides
import Derived.Deep.RegionWith
import Derived.WalkSpells
namespace Go.Proofs.YtmiamfnnccjmeacDoor
open Go.RowKit FB

theorem run_store_float (P : Program) (w : World) (a : Addr) (m : Mode) (k : FloatKind) (b : Nat) : (store a (.float k b) m).run P w = stored P w a (.float k b) m := run_store P w a _ m rfl
attribute [local go_sem] run_store_float

theorem nine {c0 c1 c2 c3 c4 c5 c6 c7 c8 : Nat} (w : World) (b : Nat) (hh : w.heap[b]? = some (.cells #[.float .f64 c0, .float .f64 c1, .float .f64 c2, .float .f64 c3, .float .f64 c4, .float .f64 c5, .float .f64 c6, .float .f64 c7, .float .f64 c8] 153 (0, 0))) :
    ∀ i, i < 9 → w.cell? ⟨b, i, none⟩ = some (.float .f64 ([c0, c1, c2, c3, c4, c5, c6, c7, c8].getD i 0)) := by
  intro i hi
  simp only [World.cell?, hh]
  match i, hi with
  | 0, _ | 1, _ | 2, _ | 3, _ | 4, _ | 5, _ | 6, _ | 7, _ | 8, _ => rfl
theorem get9 (cs : List Nat) (h : cs.length = 9) : ∀ i, i < 9 → cs[i]? = some (cs.getD i 0) := by
  intro i hi
  rw [List.getElem?_eq_getElem (by omega)]
  simp [List.getElem?_eq_getElem (show i < cs.length by omega)]

theorem poly1 (n : Int) (h0 : 0 ≤ n) (h1 : n < 360000000000) (b : Nat) (w : World) (hc : ∀ i, i < 9 → w.cell? ⟨b, i, none⟩ = some (.float .f64 ((csOf 1).getD i 0))) :
    Calls Tryd.prog 102 #[.float .f64 (zOf n), .slice (some ⟨b, 0, none⟩) 9 9] w fun e w' => e = .returned (.float .f64 (hor (csOf 1) (zOf n))) ∧ w' = w :=
  poly_any b (fun i => (csOf 1).getD i 0) (csOf 1) 9 (zOf n) w rfl (by decide) (ok_ang n 1 h0 h1) (get9 _ rfl) hc
theorem poly0 (n : Int) (h0 : 0 ≤ n) (h1 : n < 360000000000) (b : Nat) (w : World) (hc : ∀ i, i < 9 → w.cell? ⟨b, i, none⟩ = some (.float .f64 ((csOf 0).getD i 0))) :
    Calls Tryd.prog 102 #[.float .f64 (zOf n), .slice (some ⟨b, 0, none⟩) 9 9] w fun e w' => e = .returned (.float .f64 (cOf n)) ∧ w' = w :=
  poly_any b (fun i => (csOf 0).getD i 0) (csOf 0) 9 (zOf n) w rfl (by decide) (ok_ang n 0 h0 h1) (get9 _ rfl) hc

set_option maxHeartbeats 1000000 in
theorem sides_any (a : Int) (w : World) : Calls Tryd.prog 94 #[.int .i64 a] w fun e w' => e = .returned (.tuple #[.float .f64 (sinV (nrm a)), .float .f64 (cosV (nrm a))]) ∧ Below w.heap.size w w' := by
  have hb := nrm_lt a
  obtain ⟨hb0, hb1⟩ := hb
  have hx := fun w => hmul (x_eq (nrm a) hb0 hb1) w
  have hz := fun w => hmul (z_eq (nrm a) hb0 hb1) w
  have hs := fun w => hmul (s_eq (nrm a) hb0 hb1) w
  have hq := q_bd (nrm a) hb0 hb1
  have hN := hneg
  unfold rad at hx
  obtain ⟨k, hke⟩ : ∃ k : Nat, qOf (nrm a) = k := ⟨(qOf (nrm a)).toNat, by omega⟩
  have HV := hid (sinV_eq (nrm a) k hke)
  rw [hke] at hx
  have hqe : (nrm a + 45000000000) / 90000000000 = (k : Int) := hke
  have hk4 : k ≤ 4 := by omega
  clear hke hq
  go_enter Tryd.func94, Tryd.ntmps94
  go_wp2_with (go_at_call 39; refine (norm_any a _).mono ?_; rintro e w' ⟨rfl, rfl⟩)
  have hc1 : ∀ i, i < 9 → ((w.alloc (.cells #[.float .f64 4607182418800017408, .float .f64 13818544856648471893, .float .f64 4575957461383581969, .float .f64 13774824197408792602, .float .f64 4523617214285662004, .float .f64 13716528800881525988, .float .f64 4460272573143870729, .float .f64 13648976655441704991, .float .f64 4389130328383466826] 153)).alloc (.cells #[.float .f64 4607182418800017408, .float .f64 13826050856027422720, .float .f64 4586165620538955093, .float .f64 13787419979223755799, .float .f64 4537941361671905306, .float .f64 13732177094651715420, .float .f64 4477122120089393304, .float .f64 13666517717442657437, .float .f64 4407590220077447199] 153)).cell? ⟨w.heap.size, i, none⟩ = some (.float .f64 ((csOf 1).getD i 0)) :=
    nine _ _ (by rw [Below.heap_alloc _ _ _ (by simp)]; exact heap_alloc_new w _)
  have hc0 : ∀ i, i < 9 → ((w.alloc (.cells #[.float .f64 4607182418800017408, .float .f64 13818544856648471893, .float .f64 4575957461383581969, .float .f64 13774824197408792602, .float .f64 4523617214285662004, .float .f64 13716528800881525988, .float .f64 4460272573143870729, .float .f64 13648976655441704991, .float .f64 4389130328383466826] 153)).alloc (.cells #[.float .f64 4607182418800017408, .float .f64 13826050856027422720, .float .f64 4586165620538955093, .float .f64 13787419979223755799, .float .f64 4537941361671905306, .float .f64 13732177094651715420, .float .f64 4477122120089393304, .float .f64 13666517717442657437, .float .f64 4407590220077447199] 153)).cell? ⟨w.heap.size + 1, i, none⟩ = some (.float .f64 ((csOf 0).getD i 0)) :=
    nine _ _ (by have := heap_alloc_new (w.alloc (.cells #[.float .f64 4607182418800017408, .float .f64 13818544856648471893, .float .f64 4575957461383581969, .float .f64 13774824197408792602, .float .f64 4523617214285662004, .float .f64 13716528800881525988, .float .f64 4460272573143870729, .float .f64 13648976655441704991, .float .f64 4389130328383466826] 153)) (.cells #[.float .f64 4607182418800017408, .float .f64 13826050856027422720, .float .f64 4586165620538955093, .float .f64 13787419979223755799, .float .f64 4537941361671905306, .float .f64 13732177094651715420, .float .f64 4477122120089393304, .float .f64 13666517717442657437, .float .f64 4407590220077447199] 153); simpa using this)
  have HC1 := hid hc1
  have HC0 := hid hc0
  clear hc1 hc0 hx hz
  go_quiet ((first | (go_at_call_of 102 (Value.slice (some ⟨w.heap.size, 0, none⟩) 9 9); exact Calls.quiet_of_same (poly1 (nrm a) hb0 hb1 _ _ (by exact HC1.out))) | (go_at_call 102; exact Calls.quiet_of_same (poly0 (nrm a) hb0 hb1 _ _ (by exact HC0.out)))))
  have hk4' : k % 4 = 0 ∨ k % 4 = 1 ∨ k % 4 = 2 ∨ k % 4 = 3 := by omega
  clear HC1 HC0 hs
  rcases hk4' with h | h | h | h
  · have e1 : ((k : Int) % 4 == 1) = false := by simp; omega
    have e2 : ((k : Int) % 4 == 2) = false := by simp; omega
    have e3 : ((k : Int) % 4 == 3) = false := by simp; omega
    have HK := hid h
    clear h
    go_wp2
    go_ret2
    exact ⟨by rw [HV.out.1, HV.out.2, HK.out]; rfl, below_drewN (((Below.refl _ _).alloc (Nat.le_refl _) _).alloc (by simp) _) _⟩
  · have e1 : ((k : Int) % 4 == 1) = true := by simp; omega
    have HK := hid h
    clear h
    go_wp2
    go_ret2
    exact ⟨by rw [HV.out.1, HV.out.2, HK.out]; rfl, below_drewN (((Below.refl _ _).alloc (Nat.le_refl _) _).alloc (by simp) _) _⟩
  · have e1 : ((k : Int) % 4 == 1) = false := by simp; omega
    have e2 : ((k : Int) % 4 == 2) = true := by simp; omega
    have HK := hid h
    clear h
    go_wp2
    go_ret2
    exact ⟨by rw [HV.out.1, HV.out.2, HK.out]; rfl, below_drewN (((Below.refl _ _).alloc (Nat.le_refl _) _).alloc (by simp) _) _⟩
  · have e1 : ((k : Int) % 4 == 1) = false := by simp; omega
    have e2 : ((k : Int) % 4 == 2) = false := by simp; omega
    have e3 : ((k : Int) % 4 == 3) = true := by simp; omega
    have HK := hid h
    clear h
    go_wp2
    go_ret2
    exact ⟨by rw [HV.out.1, HV.out.2, HK.out]; rfl, below_drewN (((Below.refl _ _).alloc (Nat.le_refl _) _).alloc (by simp) _) _⟩
end Go.Proofs.YtmiamfnnccjmeacDoor
