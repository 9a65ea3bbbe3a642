/-
  The law GlobePlaces: its walk.
-/
import Derived.Test.YtmiamfnnccjmeabDoorGpT
import Derived.Deep.CutRange
namespace Go.Proofs.YtmiamfnnccjmeabDoor
open Go.RowKit FB
attribute [local go_sem] run_store_float

/-- What the law was handed, in memory: the globe, the place, the vector. -/
structure LF (W : World) (b a f : Nat) (lon lat : Int) (x y z : Nat) : Prop where
  g0 : W.cell? ⟨b, 0, none⟩ = some (.float .f64 a)
  g1 : W.cell? ⟨b, 1, none⟩ = some (.float .f64 f)
  p0 : W.cell? ⟨b + 1, 0, none⟩ = some (.int .i64 lon)
  p1 : W.cell? ⟨b + 1, 1, none⟩ = some (.int .i64 lat)
  v0 : W.cell? ⟨b + 1 + 1, 0, none⟩ = some (.float .f64 x)
  v1 : W.cell? ⟨b + 1 + 1, 1, none⟩ = some (.float .f64 y)
  v2 : W.cell? ⟨b + 1 + 1, 2, none⟩ = some (.float .f64 z)
  lt : b + 1 + 1 < W.heap.size
theorem LF.heap {W W' : World} {b a f x y z : Nat} {lon lat : Int} (h : LF W b a f lon lat x y z) (e : W'.heap = W.heap) : LF W' b a f lon lat x y z := by
  obtain ⟨h1, h2, h3, h4, h5, h6, h7, h8⟩ := h
  refine ⟨?_, ?_, ?_, ?_, ?_, ?_, ?_, ?_⟩ <;> first | (simp only [World.cell?, e] at *; assumption) | (rw [e]; assumption)
theorem LF.below {W w' : World} {b a f x y z : Nat} {lon lat : Int} (h : LF W b a f lon lat x y z) (hB : Below W.heap.size W w') : LF w' b a f lon lat x y z := by
  obtain ⟨c, q⟩ := bcell hB
  have hl := h.lt
  exact ⟨by rw [c _ _ (by omega)]; exact h.g0, by rw [c _ _ (by omega)]; exact h.g1, by rw [c _ _ (by omega)]; exact h.p0, by rw [c _ _ (by omega)]; exact h.p1, by rw [c _ _ hl]; exact h.v0, by rw [c _ _ hl]; exact h.v1, by rw [c _ _ hl]; exact h.v2, Nat.lt_of_lt_of_le hl hB.size⟩
theorem LF.below2 {W W' w5 : World} {b a f x y z : Nat} {lon lat : Int} (h : LF W b a f lon lat x y z) (hB : Below W'.heap.size W' w5) (e : W'.heap = W.heap) : LF w5 b a f lon lat x y z := (h.heap e).below hB
theorem LF.alloc {W : World} {b a f x y z : Nat} {lon lat : Int} (h : LF W b a f lon lat x y z) (o : Obj) : LF (W.alloc o) b a f lon lat x y z := h.below ((Below.refl _ _).alloc (Nat.le_refl _) o)
theorem LF.init (w : World) (a f x y z t u v : Nat) (lon lat : Int) : LF (((w.alloc (.cells #[.float .f64 a, .float .f64 f] t)).alloc (.cells #[.int .i64 lon, .int .i64 lat] u)).alloc (.cells #[.float .f64 x, .float .f64 y, .float .f64 z] v)) w.heap.size a f lon lat x y z :=
  ⟨by simp [go_sem], by simp [go_sem], by simp [go_sem], by simp [go_sem], by simp [go_sem], by simp [go_sem], by simp [go_sem], by simp⟩
theorem LF.set {W : World} {b a f x y z : Nat} {lon lat : Int} (h : LF W b a f lon lat x y z) {c : Nat} (hc : b + 1 + 1 < c) (o : Nat) (v : Value) : LF (W.setCell ⟨c, o, none⟩ v) b a f lon lat x y z :=
  have e1 : ¬ c = b := by omega
  have e2 : ¬ c = b + 1 := by omega
  have e3 : ¬ c = b + 1 + 1 := by omega
  have e1' : ¬ b = c := by omega
  have e2' : ¬ b + 1 = c := by omega
  have e3' : ¬ b + 1 + 1 = c := by omega
  ⟨by simp [go_sem, h.g0], by simp [go_sem, h.g1], by simp [go_sem, h.p0], by simp [go_sem, h.p1], by simp [go_sem, h.v0], by simp [go_sem, h.v1], by simp [go_sem, h.v2], by simpa using h.lt⟩
theorem LF.four {W : World} {b a f x y z : Nat} {lon lat : Int} (h : LF W b a f lon lat x y z) : W.cell? ⟨b, 0, none⟩ = some (.float .f64 a) ∧ W.cell? ⟨b, 1, none⟩ = some (.float .f64 f) ∧ W.cell? ⟨b + 1, 0, none⟩ = some (.int .i64 lon) ∧ W.cell? ⟨b + 1, 1, none⟩ = some (.int .i64 lat) := ⟨h.g0, h.g1, h.p0, h.p1⟩
theorem LF.five {W : World} {b a f x y z : Nat} {lon lat : Int} (h : LF W b a f lon lat x y z) : W.cell? ⟨b, 0, none⟩ = some (.float .f64 a) ∧ W.cell? ⟨b, 1, none⟩ = some (.float .f64 f) ∧ W.cell? ⟨b + 1 + 1, 0, none⟩ = some (.float .f64 x) ∧ W.cell? ⟨b + 1 + 1, 1, none⟩ = some (.float .f64 y) ∧ W.cell? ⟨b + 1 + 1, 2, none⟩ = some (.float .f64 z) := ⟨h.g0, h.g1, h.v0, h.v1, h.v2⟩
/-- A vector, a place at a block. -/
def Tri (W : World) (b x y z : Nat) : Prop := W.cell? ⟨b, 0, none⟩ = some (.float .f64 x) ∧ W.cell? ⟨b, 1, none⟩ = some (.float .f64 y) ∧ W.cell? ⟨b, 2, none⟩ = some (.float .f64 z) ∧ b < W.heap.size
theorem Tri.below {W w' : World} {b x y z : Nat} (h : Tri W b x y z) (hB : Below W.heap.size W w') : Tri w' b x y z := by
  obtain ⟨c, q⟩ := bcell hB
  obtain ⟨h1, h2, h3, h4⟩ := h
  exact ⟨by rw [c _ _ h4]; exact h1, by rw [c _ _ h4]; exact h2, by rw [c _ _ h4]; exact h3, Nat.lt_of_lt_of_le h4 hB.size⟩
theorem Tri.alloc {W : World} {b x y z : Nat} (h : Tri W b x y z) (o : Obj) : Tri (W.alloc o) b x y z := h.below ((Below.refl _ _).alloc (Nat.le_refl _) o)
theorem Tri.new (W : World) (x y z t : Nat) : Tri (W.alloc (.cells #[.float .f64 x, .float .f64 y, .float .f64 z] t)) W.heap.size x y z := ⟨by simp [go_sem], by simp [go_sem], by simp [go_sem], by simp⟩
theorem tri_set {W : World} {B : Nat} {u0 u1 u2 : Value} (h0 : W.cell? ⟨B, 0, none⟩ = some u0) (h1 : W.cell? ⟨B, 1, none⟩ = some u1) (h2 : W.cell? ⟨B, 2, none⟩ = some u2) (lt : B < W.heap.size) (x y z : Nat) : Tri (((W.setCell ⟨B, 0, none⟩ (.float .f64 x)).setCell ⟨B, 1, none⟩ (.float .f64 y)).setCell ⟨B, 2, none⟩ (.float .f64 z)) B x y z :=
  ⟨by simp [go_sem, h0], by simp [go_sem, h1], by simp [go_sem, h2], by simpa using lt⟩
theorem ball_any2 (a f : Nat) (w : World) : Calls Tryd.prog 9 #[.agg #[.float .f64 a, .float .f64 f]] w fun e w' => e = .returned (.agg #[.float .f64 a, .float .f64 f]) ∧ Below w.heap.size w w' ∧ w.heap.size < w'.heap.size := by
  go_enter Tryd.func9, Tryd.ntmps9
  go_wp2
  exact bodyPost_ret (v := .agg #[.float .f64 a, .float .f64 f]) (by simp [results, Tryd.results9, go_sem]) rfl ⟨rfl, ((Below.refl _ _).alloc (Nat.le_refl _) _).alloc (by simp) _, by simp; omega⟩
def Duo (W : World) (b : Nat) (lon lat : Int) : Prop := W.cell? ⟨b, 0, none⟩ = some (.int .i64 lon) ∧ W.cell? ⟨b, 1, none⟩ = some (.int .i64 lat) ∧ b < W.heap.size
theorem Duo.below {W w' : World} {b : Nat} {lon lat : Int} (h : Duo W b lon lat) (hB : Below W.heap.size W w') : Duo w' b lon lat := by
  obtain ⟨c, q⟩ := bcell hB
  obtain ⟨h1, h2, h4⟩ := h
  exact ⟨by rw [c _ _ h4]; exact h1, by rw [c _ _ h4]; exact h2, Nat.lt_of_lt_of_le h4 hB.size⟩
theorem Duo.alloc {W : World} {b : Nat} {lon lat : Int} (h : Duo W b lon lat) (o : Obj) : Duo (W.alloc o) b lon lat := h.below ((Below.refl _ _).alloc (Nat.le_refl _) o)
theorem Duo.new (W : World) (t : Nat) (lon lat : Int) : Duo (W.alloc (.cells #[.int .i64 lon, .int .i64 lat] t)) W.heap.size lon lat := ⟨by simp [go_sem], by simp [go_sem], by simp⟩
theorem duo_set {W : World} {B : Nat} {u0 u1 : Value} (h0 : W.cell? ⟨B, 0, none⟩ = some u0) (h1 : W.cell? ⟨B, 1, none⟩ = some u1) (lt : B < W.heap.size) (lon lat : Int) : Duo ((W.setCell ⟨B, 0, none⟩ (.int .i64 lon)).setCell ⟨B, 1, none⟩ (.int .i64 lat)) B lon lat :=
  ⟨by simp [go_sem, h0], by simp [go_sem, h1], by simpa using lt⟩
theorem eql_place (lon lat : Int) (w : World) : (binOp .eql 41 (.agg #[.int .i64 lon, .int .i64 lat]) (.agg #[.int .i64 lon, .int .i64 lat])).run Tryd.prog w = .ok (.bool true) w := by
  rw [run_eql_struct, run_equalIn_struct w 9999 _ _ _ (by kernel_rfl) (by kernel_rfl)]
  simp [go_sem, Program.fieldsOf, Tryd.underlying41, Tryd.underlying3]
theorem SB.refl (h : Nat) : SB h h := fun w => same_got (o := some h) rfl rfl w
set_option maxRecDepth 4000 in
set_option maxHeartbeats 4000000 in
theorem places_walk (g : Nat → Addr) (a f h x y z : Nat) (lon lat : Int) (ha : a < 18446744073709551616) (hf : f < 18446744073709551616) (hh : h < 18446744073709551616) (lx : x < 18446744073709551616) (ly : y < 18446744073709551616) (lz : z < 18446744073709551616) (w : World) (hl : Laid w g) : Calls Tryd.prog 4 #[.agg #[.float .f64 a, .float .f64 f], .agg #[.int .i64 lon, .int .i64 lat], .float .f64 h, .agg #[.float .f64 x, .float .f64 y, .float .f64 z]] w fun e w' => e = .returned (.bool true) ∧ Below w.heap.size w w' := by
  have HV := hid (fun w hl => vec_any g a f h lon lat ha hf hh w hl)
  have HR := hid (fun w => vecOf_any a f h lon lat ha hf hh w)
  have HX := hid (fun x y z x' y' z' h1 h2 => vec_sb (x := x) (y := y) (z := z) (x' := x') (y' := y') (z' := z') (lon := lon) (lat := lat) ha hf hh h1 h2)
  have HP := hid (fun w hl => place_any g a f x y z ha hf lx ly lz w hl)
  have HQ := hid (fun w => placeOf_any a f x y z ha hf lx ly lz w)
  have VC := hid (vcode_of a f h lat)
  have PC := hid (pcode_of a f x y z)
  have HL := hid hl
  clear ha hf hh lx ly lz hl
  generalize vcode a f h lat = vc at HV HR VC
  go_enter Tryd.func4, Tryd.ntmps4
  go_wp2_with fail
  refine (round_any _).mono ?_
  rintro e w1 ⟨rfl, hB⟩
  have LV := (LF.init w a f x y z 24 41 43 lon lat).below hB
  have HC := bt ((((Below.refl _ _).alloc (Nat.le_refl _) _).alloc (by simp) _).alloc (by simp; omega) _) hB
  clear hB
  have l1 := LV.lt
  go_upto_region 4 with fail
  go_cut [10, 11] from 25 to 32 (fun s10 s11 wx => ∃ B x' y' z', s10 = .pointer (some ⟨B, 0, none⟩) ∧ s11 = evOf g vc ∧ Hid (GV a f h lon lat x' y' z') ∧ Tri wx B x' y' z' ∧ Below w.heap.size w wx ∧ LF wx w.heap.size a f lon lat x y z)
  case first =>
    go_region_held (fun w' => w'.cell? ⟨w.heap.size, 0, none⟩ = some (.float .f64 a) ∧ w'.cell? ⟨w.heap.size, 1, none⟩ = some (.float .f64 f) ∧ w'.cell? ⟨w.heap.size + 1, 0, none⟩ = some (.int .i64 lon) ∧ w'.cell? ⟨w.heap.size + 1, 1, none⟩ = some (.int .i64 lat))
      (first | exact LV.four | exact (LV.alloc _).four | exact (((LV.set l5 _ _).set l5 _ _).set l5 _ _).four | exact (((LV.set l1 _ _).set l1 _ _).set l1 _ _).four)
      ((first
        | (go_at_call 9; refine (ball_any2 _ _ _).mono ?_; rintro e w5 ⟨rfl, hB5, hs5⟩; obtain ⟨hc5, hf5⟩ := bcell hB5; have hz5 : w1.heap.size < w5.heap.size := (by simp at hs5; omega); replace LV : LF w5 w.heap.size a f lon lat x y z := (by first | exact LV.below2 hB5 rfl | exact (LV.alloc _).below2 hB5 rfl); replace HC : Below w.heap.size w w5 := (by first | exact bt HC hB5 | exact bt HC.drew hB5 | exact bt (HC.alloc HC.size _) hB5 | exact bt (HC.alloc HC.size _).drew hB5); have l5 := LV.lt)
        | (go_at_call 16; refine (HV.out _ ?_).mono ?_; (first | exact HL.out.below HC | exact HL.out.below (HC.alloc HC.size _)); rintro e w6 ⟨x', y', z', rfl, hgv, hB6⟩; obtain ⟨hc6, hf6⟩ := bcell hB6; replace LV : LF w6 w.heap.size a f lon lat x y z := (by first | exact LV.below2 hB6 rfl | exact (LV.alloc _).below2 hB6 rfl); replace HC : Below w.heap.size w w6 := (by first | exact bt HC hB6 | exact bt (HC.alloc HC.size _) hB6))))
    · go_wp2_with fail
      go_meet
      exact ⟨w6.heap.size, x', y', z', rfl, rfl, hgv, Tri.new _ _ _ _ _, HC.alloc HC.size _, LV.alloc _⟩
    · have hz6 : w5.heap.size < w6.heap.size := by have := hB6.size; simp at this; omega
      have T6 := tri_set (W := w6) (B := w5.heap.size) (by rw [hc6 _ _ (by simp)]; simp [go_sem]; rfl) (by rw [hc6 _ _ (by simp)]; simp [go_sem]; rfl) (by rw [hc6 _ _ (by simp)]; simp [go_sem]; rfl) hz6 x' y' z'
      go_wp2_with fail
      go_meet
      exact ⟨w5.heap.size, x', y', z', rfl, rfl, hgv, T6, ((HC.setCell (by simp; omega) _).setCell (by simp; omega) _).setCell (by simp; omega) _, ((LV.set l5 _ _).set l5 _ _).set l5 _ _⟩
    · have hz6 := Nat.lt_of_lt_of_le hz5 hB6.size
      have T6 := tri_set (W := w6) (B := w1.heap.size) (by rw [hc6 _ _ hz5, hc5 _ _ (by simp)]; simp [go_sem]; rfl) (by rw [hc6 _ _ hz5, hc5 _ _ (by simp)]; simp [go_sem]; rfl) (by rw [hc6 _ _ hz5, hc5 _ _ (by simp)]; simp [go_sem]; rfl) hz6 x' y' z'
      go_wp2_with fail
      go_meet
      exact ⟨w1.heap.size, x', y', z', rfl, rfl, hgv, T6, ((HC.setCell (by simp; omega) _).setCell (by simp; omega) _).setCell (by simp; omega) _, ((LV.set l1 _ _).set l1 _ _).set l1 _ _⟩
  case rest =>
    clear LV HC l1 HV
    obtain ⟨B, x', y', z', rfl, rfl, HG, TB, HC, LV⟩ := hcut
    obtain ⟨g0, g1, p0, p1, v0, v1, v2, lt⟩ := LV
    go_wp2_with fail
    refine (HR.out _).mono ?_
    rintro e w7 ⟨x2, y2, z2, rfl, hrv, hB⟩
    have SBS := hid (HX.out _ _ _ _ _ _ HG.out hrv)
    have LV := LF.below ⟨g0, g1, p0, p1, v0, v1, v2, lt⟩ hB
    replace TB := TB.below hB
    replace HC := bt HC hB
    clear hB hrv HG HR HX g0 g1 p0 p1 v0 v1 v2 lt
    go_wp2_with fail
    refine (coded_at g vc VC.out _ (HL.out.below (HC.alloc HC.size _))).mono ?_
    rintro e w8 ⟨rfl, hB⟩
    have TC := (Tri.new w7 x2 y2 z2 43).below hB
    replace TB := (TB.alloc _).below hB
    replace LV := (LV.alloc _).below hB
    replace HC := bt (HC.alloc HC.size _) hB
    clear hB
    obtain ⟨b0, b1, b2, bz⟩ := TB
    obtain ⟨c0, c1, c2, cz⟩ := TC
    go_wp2_with fail
    refine (sameVec_any _ _ _ _ _ _ SBS.out.1 SBS.out.2.1 SBS.out.2.2 _).mono ?_
    rintro e w9 ⟨rfl, hB⟩
    replace LV := LV.below hB
    replace HC := bt HC hB
    clear hB b0 b1 b2 bz c0 c1 c2 cz SBS VC
    have l1 := LV.lt
    generalize pcode a f x y z = pc at HP HQ PC
    go_upto_region 8 with fail
    go_cut [11, 16, 17] from 46 to 53 (fun s11 s16 s17 wx => ∃ B lon' lat' h', s11 = evOf g pc ∧ s16 = .pointer (some ⟨B, 0, none⟩) ∧ s17 = .float .f64 h' ∧ Hid (PV a f x y z lon' lat' h') ∧ Duo wx B lon' lat' ∧ Below w.heap.size w wx ∧ LF wx w.heap.size a f lon lat x y z)
    case first =>
      go_region_held (fun w' => w'.cell? ⟨w.heap.size, 0, none⟩ = some (.float .f64 a) ∧ w'.cell? ⟨w.heap.size, 1, none⟩ = some (.float .f64 f) ∧ w'.cell? ⟨w.heap.size + 1 + 1, 0, none⟩ = some (.float .f64 x) ∧ w'.cell? ⟨w.heap.size + 1 + 1, 1, none⟩ = some (.float .f64 y) ∧ w'.cell? ⟨w.heap.size + 1 + 1, 2, none⟩ = some (.float .f64 z))
        (first | exact LV.five | exact (LV.alloc _).five | exact ((LV.set l5 _ _).set l5 _ _).five | exact ((LV.set l1 _ _).set l1 _ _).five)
        ((first
          | (go_at_call 9; refine (ball_any2 _ _ _).mono ?_; rintro e w5 ⟨rfl, hB5, hs5⟩; obtain ⟨hc5, hf5⟩ := bcell hB5; have hz5 : w9.heap.size < w5.heap.size := (by simp at hs5; omega); replace LV : LF w5 w.heap.size a f lon lat x y z := (by first | exact LV.below2 hB5 rfl | exact (LV.alloc _).below2 hB5 rfl); replace HC : Below w.heap.size w w5 := (by first | exact bt HC hB5 | exact bt HC.drew hB5 | exact bt (HC.alloc HC.size _) hB5 | exact bt (HC.alloc HC.size _).drew hB5); have l5 := LV.lt)
          | (go_at_call 19; refine (HP.out _ ?_).mono ?_; (first | exact HL.out.below HC | exact HL.out.below (HC.alloc HC.size _)); rintro e w6 ⟨lon', lat', h', rfl, hgv, hB6⟩; obtain ⟨hc6, hf6⟩ := bcell hB6; replace LV : LF w6 w.heap.size a f lon lat x y z := (by first | exact LV.below2 hB6 rfl | exact (LV.alloc _).below2 hB6 rfl); replace HC : Below w.heap.size w w6 := (by first | exact bt HC hB6 | exact bt (HC.alloc HC.size _) hB6))))
      · go_wp2_with fail
        go_meet
        exact ⟨w6.heap.size, lon', lat', h', rfl, rfl, rfl, hgv, Duo.new _ _ _ _, HC.alloc HC.size _, LV.alloc _⟩
      · have hz6 : w5.heap.size < w6.heap.size := by have := hB6.size; simp at this; omega
        have T6 := duo_set (W := w6) (B := w5.heap.size) (by rw [hc6 _ _ (by simp)]; simp [go_sem]; rfl) (by rw [hc6 _ _ (by simp)]; simp [go_sem]; rfl) hz6 lon' lat'
        go_wp2_with fail
        go_meet
        exact ⟨w5.heap.size, lon', lat', h', rfl, rfl, rfl, hgv, T6, (HC.setCell (by simp; omega) _).setCell (by simp; omega) _, (LV.set l5 _ _).set l5 _ _⟩
      · have hz6 := Nat.lt_of_lt_of_le hz5 hB6.size
        have T6 := duo_set (W := w6) (B := w9.heap.size) (by rw [hc6 _ _ hz5, hc5 _ _ (by simp)]; simp [go_sem]; rfl) (by rw [hc6 _ _ hz5, hc5 _ _ (by simp)]; simp [go_sem]; rfl) hz6 lon' lat'
        go_wp2_with fail
        go_meet
        exact ⟨w9.heap.size, lon', lat', h', rfl, rfl, rfl, hgv, T6, (HC.setCell (by simp; omega) _).setCell (by simp; omega) _, (LV.set l1 _ _).set l1 _ _⟩
    case rest =>
      clear LV HC l1 HP
      obtain ⟨B2, lon', lat', h', rfl, rfl, rfl, HG, TB, HC, LV⟩ := hcut
      obtain ⟨g0, g1, p0, p1, v0, v1, v2, lt⟩ := LV
      go_wp2_with fail
      refine (HQ.out _).mono ?_
      rintro e wa ⟨lon2, lat2, h2, rfl, hpv, hB⟩
      obtain ⟨rfl, rfl, rfl⟩ := PV.same HG.out hpv
      replace TB := TB.below hB
      replace HC := bt HC hB
      clear hB hpv HG HQ g0 g1 p0 p1 v0 v1 v2 lt
      go_wp2_with fail
      refine (coded_at g pc PC.out _ (HL.out.below (HC.alloc HC.size _))).mono ?_
      rintro e wb ⟨rfl, hB⟩
      have TC := (Duo.new wa 41 lon' lat').below hB
      replace TB := (TB.alloc _).below hB
      replace HC := bt (HC.alloc HC.size _) hB
      clear hB PC HL
      have HE := fun w => eql_place lon' lat' w
      obtain ⟨b0, b1, bz⟩ := TB
      obtain ⟨c0, c1, cz⟩ := TC
      go_wp2_with fail
      refine (SB.refl _ _).mono ?_
      rintro e wd ⟨rfl, rfl⟩
      go_wp2
      go_ret
      exact ⟨rfl, HC⟩
end Go.Proofs.YtmiamfnnccjmeabDoor
