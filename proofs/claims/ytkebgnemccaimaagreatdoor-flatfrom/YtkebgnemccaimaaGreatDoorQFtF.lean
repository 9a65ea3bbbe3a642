/-
  flat: draws; mercatorref2: PlaceError; mercatorlaw2: paper, sameFlat.
-/
import Derived.Test.YtkebgnemccaimaaGreatDoorQFtE
namespace Go.Proofs.YtkebgnemccaimaaGreatDoor
open Go.RowKit FB
attribute [local go_sem] run_store_float

theorem pcode_cases (a f : Nat) (k : ByteArray) (m : Nat) : pcode a f k m = 0 ∨ pcode a f k m = 3 ∨ pcode a f k m = 5 := by
  unfold pcode
  split
  · split
    · exact .inr (.inr rfl)
    · split
      · exact .inl rfl
      · exact .inr (.inl rfl)
  · exact .inr (.inl rfl)
theorem pcode_ok {a f : Nat} {k : ByteArray} {m : Nat} (h : pcode a f k m = 0) : okG a f = true ∧ (Kd k true false false ∧ kd k = 0 ∨ Kd k false true false ∧ kd k = 1 ∨ Kd k false false true ∧ kd k = 2) ∧ inB 4591870180066957722 4621819117588971520 m = true := by
  unfold pcode at h
  cases hg : okG a f with
  | false => rw [hg] at h; cases h
  | true =>
    rw [if_pos hg] at h
    by_cases h3 : kd k = 3
    · rw [if_pos h3] at h; cases h
    · rw [if_neg h3] at h
      cases hm : inB 4591870180066957722 4621819117588971520 m with
      | false => rw [hm] at h; cases h
      | true =>
        refine ⟨rfl, ?_, rfl⟩
        rcases kd_cases k with ⟨h, e⟩ | ⟨h, e⟩ | ⟨h, e⟩ | ⟨h, e⟩
        · exact .inl ⟨h, e⟩
        · exact .inr (.inl ⟨h, e⟩)
        · exact .inr (.inr ⟨h, e⟩)
        · exact absurd e h3
theorem dcode_cases (a f : Nat) (k : ByteArray) (m : Nat) (lat : Int) : dcode a f k m lat = 0 ∨ dcode a f k m lat = 3 ∨ dcode a f k m lat = 4 ∨ dcode a f k m lat = 5 := by
  unfold dcode
  rcases pcode_cases a f k m with h | h | h
  · rw [if_pos h]; split
    · exact .inr (.inr (.inl rfl))
    · exact .inl rfl
  · rw [if_neg (by omega), h]; exact .inr (.inl rfl)
  · rw [if_neg (by omega), h]; exact .inr (.inr (.inr rfl))
theorem dcode_ok {a f : Nat} {k : ByteArray} {m : Nat} {lat : Int} (h : dcode a f k m lat = 0) : pcode a f k m = 0 ∧ ¬ 89000000000 < lat ∧ ¬ lat < -89000000000 ∧ ¬ (kd k = 2 ∧ lat < 0) := by
  unfold dcode at h
  by_cases hp : pcode a f k m = 0
  · rw [if_pos hp] at h
    split at h
    · cases h
    · rename_i hn
      exact ⟨hp, fun c => hn (.inl c), fun c => hn (.inr (.inl c)), fun c => hn (.inr (.inr c))⟩
  · rw [if_neg hp] at h; exact absurd h hp

theorem draws_no (g : Nat → Addr) (a f m i : Nat) (k : ByteArray) (mid lat : Int) (hp : evOf g (pcode a f k m) = errV g i) (w : World) (hl : Laid w g) : Calls Tryz.prog 42 #[pV a f k mid m, .int .i64 lat] w fun x w' => x = .returned (errV g i) ∧ Gr w w' := by
  have HL := hid hl
  have HV := hid (fun w hl => pvalid_at g a f m k mid w hl)
  rw [hp] at HV
  clear hl hp
  go_enter Tryz.func42, Tryz.ntmps42
  go_wp2_with fail
  refine (HV.out _ (HL.out.alloc _)).mono ?_
  rintro x w1 ⟨rfl, hB⟩
  have HC : Gr w w1 := Gr.step (by ((with_reducible repeat' (first | assumption | refine Gr.drewN ?_ _ | refine Gr.drew ?_ | refine Gr.alloc ?_ _ | exact Gr.refl _)); done)) hB
  clear hB
  go_wp2
  go_ret
  exact ⟨rfl, HC⟩
set_option maxHeartbeats 4000000 in
theorem draws_four (g : Nat → Addr) (a f m : Nat) (k : ByteArray) (mid lat : Int) (hp : pcode a f k m = 0) (h : 89000000000 < lat ∨ lat < -89000000000 ∨ (kd k = 2 ∧ lat < 0)) (w : World) (hl : Laid w g) : Calls Tryz.prog 42 #[pV a f k mid m, .int .i64 lat] w fun x w' => x = .returned (errV g 3) ∧ Gr w w' := by
  have HL := hid hl
  have HV := hid (fun w hl => pvalid_at g a f m k mid w hl)
  rw [hp] at HV
  have HK := hid (pcode_ok hp).2.1
  clear hl hp
  have H : 89000000000 < lat ∨ (¬ 89000000000 < lat ∧ lat < -89000000000) ∨ (¬ 89000000000 < lat ∧ ¬ lat < -89000000000 ∧ lat < 0 ∧ (k.toList == [112, 111, 108, 97, 114]) = true) := by
    by_cases h1 : 89000000000 < lat
    · exact .inl h1
    · by_cases h2 : lat < -89000000000
      · exact .inr (.inl ⟨h1, h2⟩)
      · rcases h with h | h | ⟨h, h'⟩
        · exact absurd h h1
        · exact absurd h h2
        · rcases HK.out with ⟨_, e⟩ | ⟨_, e⟩ | ⟨t, _⟩
          · omega
          · omega
          · exact .inr (.inr ⟨h1, h2, h', t.t2⟩)
  clear h
  rcases H with h1 | ⟨h1, h2⟩ | ⟨h1, h2, h3, t2⟩
  all_goals
    go_enter Tryz.func42, Tryz.ntmps42
    go_wp2_with fail
    refine (HV.out _ (HL.out.alloc _)).mono ?_
    rintro x w1 ⟨rfl, hB⟩
    have HC : Gr w w1 := Gr.step (by ((with_reducible repeat' (first | assumption | refine Gr.drewN ?_ _ | refine Gr.drew ?_ | refine Gr.alloc ?_ _ | exact Gr.refl _)); done)) hB
    have PA : At w1 w.heap.size (pL a f k mid m) := At.below hB (At.new5 w _ _ _ _ _ _)
    have cg : w1.cell? ⟨2, 0, none⟩ = some (.iface 175 (.pointer (some (g 3)))) := (HL.out.below HC).cell 3 (by decide)
    obtain ⟨c0, c1, c2, c3, c4⟩ := PA.c5
    clear hB
    rw [show evOf g 0 = .nilIface from rfl]
    go_wp2
    go_ret
    exact ⟨rfl, HC⟩
set_option maxHeartbeats 4000000 in
theorem draws_ok (g : Nat → Addr) (a f m : Nat) (k : ByteArray) (mid lat : Int) (hp : dcode a f k m lat = 0) (w : World) (hl : Laid w g) : Calls Tryz.prog 42 #[pV a f k mid m, .int .i64 lat] w fun x w' => x = .returned .nilIface ∧ Gr w w' := by
  have HL := hid hl
  have HV := hid (fun w hl => pvalid_at g a f m k mid w hl)
  obtain ⟨hp, h1, h2, h3⟩ := dcode_ok hp
  rw [hp] at HV
  have HK := hid (pcode_ok hp).2.1
  clear hl hp
  have H : (k.toList == [112, 111, 108, 97, 114]) = false ∨ ((k.toList == [112, 111, 108, 97, 114]) = true ∧ ¬ lat < 0) := by
    rcases HK.out with ⟨t, _⟩ | ⟨t, _⟩ | ⟨t, e⟩
    · exact .inl t.t2
    · exact .inl t.t2
    · exact .inr ⟨t.t2, fun c => h3 ⟨e, c⟩⟩
  clear h3
  rcases H with t2 | ⟨t2, h3⟩
  all_goals
    go_enter Tryz.func42, Tryz.ntmps42
    go_wp2_with fail
    refine (HV.out _ (HL.out.alloc _)).mono ?_
    rintro x w1 ⟨rfl, hB⟩
    have HC : Gr w w1 := Gr.step (by ((with_reducible repeat' (first | assumption | refine Gr.drewN ?_ _ | refine Gr.drew ?_ | refine Gr.alloc ?_ _ | exact Gr.refl _)); done)) hB
    have PA : At w1 w.heap.size (pL a f k mid m) := At.below hB (At.new5 w _ _ _ _ _ _)
    obtain ⟨c0, c1, c2, c3, c4⟩ := PA.c5
    clear hB
    rw [show evOf g 0 = .nilIface from rfl]
    go_wp2
    go_ret
    exact ⟨rfl, HC⟩
theorem draws_at (g : Nat → Addr) (a f m : Nat) (k : ByteArray) (mid lat : Int) (w : World) (hl : Laid w g) : Calls Tryz.prog 42 #[pV a f k mid m, .int .i64 lat] w fun x w' => x = .returned (evOf g (dcode a f k m lat)) ∧ Gr w w' := by
  by_cases hd : dcode a f k m lat = 0
  · rw [hd]; exact draws_ok g a f m k mid lat hd w hl
  · rcases pcode_cases a f k m with h | h | h
    · have hc : 89000000000 < lat ∨ lat < -89000000000 ∨ (kd k = 2 ∧ lat < 0) := by
        apply Classical.byContradiction
        intro c
        apply hd
        unfold dcode
        rw [if_pos h, if_neg c]
      have e : dcode a f k m lat = 4 := by unfold dcode; rw [if_pos h, if_pos hc]
      rw [e]; exact draws_four g a f m k mid lat h hc w hl
    · have e : dcode a f k m lat = 3 := by unfold dcode; rw [if_neg (by omega), h]
      rw [e]; exact draws_no g a f m 2 k mid lat (by rw [h]; rfl) w hl
    · have e : dcode a f k m lat = 5 := by unfold dcode; rw [if_neg (by omega), h]
      rw [e]; exact draws_no g a f m 4 k mid lat (by rw [h]; rfl) w hl

theorem placeError_no (a f m c : Nat) (k : ByteArray) (mid lon lat : Int) (hp : pcode a f k m = c) (h0 : c = 3 ∨ c = 5) (w : World) : Calls Tryz.prog 14 #[pV a f k mid m, .agg #[.int .i64 lon, .int .i64 lat]] w fun x w' => x = .returned (.int .i64 c) ∧ Gr w w' := by
  have HV := hid (fun w => paperError_any a f m k mid w)
  rw [hp] at HV
  clear hp
  rcases h0 with rfl | rfl
  all_goals
    go_enter Tryz.func14, Tryz.ntmps14
    go_wp2_with fail
    refine (HV.out _).mono ?_
    rintro x w1 ⟨rfl, hB⟩
    have HC : Gr w w1 := Gr.step (by ((with_reducible repeat' (first | assumption | refine Gr.drewN ?_ _ | refine Gr.drew ?_ | refine Gr.alloc ?_ _ | exact Gr.refl _)); done)) hB
    clear hB
    go_wp2
    go_ret
    exact ⟨rfl, HC⟩
set_option maxHeartbeats 4000000 in
theorem placeError_four (a f m : Nat) (k : ByteArray) (mid lon lat : Int) (hp : pcode a f k m = 0) (h : 89000000000 < lat ∨ lat < -89000000000 ∨ (kd k = 2 ∧ lat < 0)) (w : World) : Calls Tryz.prog 14 #[pV a f k mid m, .agg #[.int .i64 lon, .int .i64 lat]] w fun x w' => x = .returned (.int .i64 4) ∧ Gr w w' := by
  have HV := hid (fun w => paperError_any a f m k mid w)
  rw [hp] at HV
  have HK := hid (pcode_ok hp).2.1
  clear hp
  have H : 89000000000 < lat ∨ (¬ 89000000000 < lat ∧ lat < -89000000000) ∨ (¬ 89000000000 < lat ∧ ¬ lat < -89000000000 ∧ lat < 0 ∧ (k.toList == [112, 111, 108, 97, 114]) = true) := by
    by_cases h1 : 89000000000 < lat
    · exact .inl h1
    · by_cases h2 : lat < -89000000000
      · exact .inr (.inl ⟨h1, h2⟩)
      · rcases h with h | h | ⟨h, h'⟩
        · exact absurd h h1
        · exact absurd h h2
        · rcases HK.out with ⟨_, e⟩ | ⟨_, e⟩ | ⟨t, _⟩
          · omega
          · omega
          · exact .inr (.inr ⟨h1, h2, h', t.t2⟩)
  clear h
  rcases H with h1 | ⟨h1, h2⟩ | ⟨h1, h2, h3, t2⟩
  all_goals
    go_enter Tryz.func14, Tryz.ntmps14
    go_wp2_with fail
    refine (HV.out _).mono ?_
    rintro x w1 ⟨rfl, hB⟩
    have HC : Gr w w1 := Gr.step (by ((with_reducible repeat' (first | assumption | refine Gr.drewN ?_ _ | refine Gr.drew ?_ | refine Gr.alloc ?_ _ | exact Gr.refl _)); done)) hB
    have PA : At w1 w.heap.size (pL a f k mid m) := At.below hB ((At.new5 w _ _ _ _ _ _).alloc _)
    have QA : At w1 (w.heap.size + 1) [.int .i64 lon, .int .i64 lat] := At.below hB (At.nx2 (W := w) _ _ _ _)
    obtain ⟨c0, c1, c2, c3, c4⟩ := PA.c5
    obtain ⟨d0, d1⟩ := QA.c2
    clear hB
    go_wp2
    go_ret
    exact ⟨rfl, HC⟩
set_option maxHeartbeats 4000000 in
theorem placeError_ok (a f m : Nat) (k : ByteArray) (mid lon lat : Int) (hp : dcode a f k m lat = 0) (w : World) : Calls Tryz.prog 14 #[pV a f k mid m, .agg #[.int .i64 lon, .int .i64 lat]] w fun x w' => x = .returned (.int .i64 0) ∧ Gr w w' := by
  have HV := hid (fun w => paperError_any a f m k mid w)
  obtain ⟨hp, h1, h2, h3⟩ := dcode_ok hp
  rw [hp] at HV
  have HK := hid (pcode_ok hp).2.1
  clear hp
  have H : (k.toList == [112, 111, 108, 97, 114]) = false ∨ ((k.toList == [112, 111, 108, 97, 114]) = true ∧ ¬ lat < 0) := by
    rcases HK.out with ⟨t, _⟩ | ⟨t, _⟩ | ⟨t, e⟩
    · exact .inl t.t2
    · exact .inl t.t2
    · exact .inr ⟨t.t2, fun c => h3 ⟨e, c⟩⟩
  clear h3
  rcases H with t2 | ⟨t2, h3⟩
  all_goals
    go_enter Tryz.func14, Tryz.ntmps14
    go_wp2_with fail
    refine (HV.out _).mono ?_
    rintro x w1 ⟨rfl, hB⟩
    have HC : Gr w w1 := Gr.step (by ((with_reducible repeat' (first | assumption | refine Gr.drewN ?_ _ | refine Gr.drew ?_ | refine Gr.alloc ?_ _ | exact Gr.refl _)); done)) hB
    have PA : At w1 w.heap.size (pL a f k mid m) := At.below hB ((At.new5 w _ _ _ _ _ _).alloc _)
    have QA : At w1 (w.heap.size + 1) [.int .i64 lon, .int .i64 lat] := At.below hB (At.nx2 (W := w) _ _ _ _)
    obtain ⟨c0, c1, c2, c3, c4⟩ := PA.c5
    obtain ⟨d0, d1⟩ := QA.c2
    clear hB
    go_wp2
    go_ret
    exact ⟨rfl, HC⟩
theorem placeError_any (a f m : Nat) (k : ByteArray) (mid lon lat : Int) (w : World) : Calls Tryz.prog 14 #[pV a f k mid m, .agg #[.int .i64 lon, .int .i64 lat]] w fun x w' => x = .returned (.int .i64 (dcode a f k m lat)) ∧ Gr w w' := by
  by_cases hd : dcode a f k m lat = 0
  · rw [hd]; exact placeError_ok a f m k mid lon lat hd w
  · rcases pcode_cases a f k m with h | h | h
    · have hc : 89000000000 < lat ∨ lat < -89000000000 ∨ (kd k = 2 ∧ lat < 0) := by
        apply Classical.byContradiction
        intro c
        apply hd
        unfold dcode
        rw [if_pos h, if_neg c]
      have e : dcode a f k m lat = 4 := by unfold dcode; rw [if_pos h, if_pos hc]
      rw [e]; exact placeError_four a f m k mid lon lat h hc w
    · have e : dcode a f k m lat = 3 := by unfold dcode; rw [if_neg (by omega), h]
      rw [e]; exact placeError_no a f m 3 k mid lon lat h (.inl rfl) w
    · have e : dcode a f k m lat = 5 := by unfold dcode; rw [if_neg (by omega), h]
      rw [e]; exact placeError_no a f m 5 k mid lon lat h (.inr rfl) w

set_option maxHeartbeats 1000000 in
theorem sameFlat_any (x y x' y' : Nat) (h1 : SB x x') (h2 : SB y y') (w : World) : Calls Tryz.prog 15 #[.agg #[.float .f64 x, .float .f64 y], .agg #[.float .f64 x', .float .f64 y']] w fun e w' => e = .returned (.bool true) ∧ Gr w w' := by
  have H1 := hid h1
  have H2 := hid h2
  clear h1 h2
  go_enter Tryz.func15, Tryz.ntmps15
  go_wp2_with fail
  refine (H1.out _).mono ?_
  rintro e w1 ⟨rfl, rfl⟩
  go_wp2_with fail
  refine (H2.out _).mono ?_
  rintro e w1 ⟨rfl, rfl⟩
  go_wp2
  go_ret
  exact ⟨rfl, by ((with_reducible repeat' (first | assumption | refine Gr.drewN ?_ _ | refine Gr.drew ?_ | refine Gr.alloc ?_ _ | exact Gr.refl _)); done)⟩
end Go.Proofs.YtkebgnemccaimaaGreatDoor
