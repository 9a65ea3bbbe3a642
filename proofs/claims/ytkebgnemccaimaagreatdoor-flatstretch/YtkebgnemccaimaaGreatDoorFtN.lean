/-
  The law FlatStretch: its walk.
-/
import Derived.Test.YtkebgnemccaimaaGreatDoorFtM
import Derived.Test.YtkebgnemccaimaaGreatDoorFtJ
namespace Go.Proofs.YtkebgnemccaimaaGreatDoor
open Go.RowKit FB
attribute [local go_sem] run_store_float

theorem stretchOf_ok (a f m : Nat) (k : ByteArray) (mid lon lat : Int) (hf : Le 1021 f) (hp : dcode a f k m lat = 0) (w : World) : Calls Tryz.prog 27 #[pV a f k mid m, .agg #[.int .i64 lon, .int .i64 lat]] w fun e w' => ∃ x y, e = .returned (.tuple #[.float .f64 x, .float .f64 y]) ∧ GW (alO a f m k lat) x ∧ GW (acO a f m k lat) y ∧ Gr w w' := by
  rcases (pcode_ok (dcode_ok hp).1).2.1 with ⟨hk, e⟩ | ⟨hk, e⟩ | ⟨hk, e⟩
  · exact stretchOf_k0 a f m k mid lon lat hf hk e w
  · exact stretchOf_k1 a f m k mid lon lat hf hk e w
  · exact stretchOf_k2 a f m k mid lon lat hf hk e w
/-- What Stretch gives. -/
def SO (a f m : Nat) (k : ByteArray) (lat : Int) (x y : Nat) : Prop :=
  (dcode a f k m lat ≠ 0 ∧ x = 0 ∧ y = 0) ∨ (dcode a f k m lat = 0 ∧ GW (alO a f m k lat) x ∧ GW (acO a f m k lat) y)
theorem ok_fs {a f : Nat} {k : ByteArray} {m : Nat} {lat : Int} (ha : a < 18446744073709551616) (hf : f < 18446744073709551616) (h : dcode a f k m lat = 0) : Le 1021 f := (okG_le ha hf (pcode_ok (dcode_ok h).1).1).2.1
theorem stretch_any (g : Nat → Addr) (a f m : Nat) (k : ByteArray) (mid lon lat : Int) (ha : a < 18446744073709551616) (hf : f < 18446744073709551616) (w : World) (hl : Laid w g) : Calls Tryz.prog 26 #[pV a f k mid m, .agg #[.int .i64 lon, .int .i64 lat]] w fun e w' => ∃ x y, e = .returned (.tuple #[.float .f64 x, .float .f64 y, evOf g (dcode a f k m lat)]) ∧ SO a f m k lat x y ∧ Gr w w' := by
  by_cases h0 : dcode a f k m lat = 0
  · refine (stretch_ok g a f m k mid lon lat (ok_fs ha hf h0) h0 w hl).mono ?_
    rintro e w' ⟨x, y, rfl, hx, hy, hB⟩
    exact ⟨_, _, by rw [h0]; rfl, .inr ⟨h0, hx, hy⟩, hB⟩
  · have hi : ∃ i, evOf g (dcode a f k m lat) = errV g i := by
      unfold evOf
      rw [if_neg h0]
      exact ⟨_, rfl⟩
    obtain ⟨i, hi⟩ := hi
    refine (stretch_no g a f m i k mid lon lat hi w hl).mono ?_
    rintro e w' ⟨rfl, hB⟩
    exact ⟨0, 0, by rw [hi], .inl ⟨h0, rfl, rfl⟩, hB⟩
set_option maxRecDepth 4000 in
set_option maxHeartbeats 8000000 in
theorem flatStretch_walk (g : Nat → Addr) (a f m : Nat) (k : ByteArray) (mid lon lat : Int) (ha : a < 18446744073709551616) (hf : f < 18446744073709551616) (w : World) (hl : Laid w g) : Calls Tryz.prog 5 #[pV a f k mid m, .agg #[.int .i64 lon, .int .i64 lat]] w fun e w' => e = .returned (.bool true) ∧ Gr w w' := by
  have HT := hid (fun w hl => stretch_any g a f m k mid lon lat ha hf w hl)
  have HP := hid (fun w => placeError_any a f m k mid lon lat w)
  have DC := hid (dcode_cases a f k m lat)
  have HF := hid (fun (h : dcode a f k m lat = 0) w => stretchOf_ok a f m k mid lon lat (ok_fs ha hf h) h w)
  have HG := hid (fun (h0 : dcode a f k m lat = 0) x y (h : SO a f m k lat x y) => show GW (alO a f m k lat) x ∧ GW (acO a f m k lat) y from h.elim (fun h => absurd h0 h.1) (fun h => h.2))
  have HZ := hid (fun (h0 : dcode a f k m lat ≠ 0) x y (h : SO a f m k lat x y) => show x = 0 ∧ y = 0 from h.elim (fun h => h.2) (fun h => absurd h.1 h0))
  have HL := hid hl
  clear ha hf hl
  generalize SO a f m k lat = so at HT HG HZ
  generalize alO a f m k lat = al at HF HG
  generalize acO a f m k lat = ac at HF HG
  generalize dcode a f k m lat = dc at HT HP DC HF HG HZ
  go_enter Tryz.func5, Tryz.ntmps5
  go_wp2_with fail
  refine (drawn_any g _ (HL.out.below (Gr.out (by ((with_reducible repeat' (first | assumption | refine Gr.drew ?_ | refine Gr.drewN ?_ _ | refine Gr.alloc ?_ _ | refine Gr.set ?_ (by first | omega | (simp; omega)) _ _ | exact Gr.refl _)); done))))).mono ?_
  rintro x w1 ⟨rfl, hB⟩
  have PA : At w1 w.heap.size (pL a f k mid m) := At.below hB (by ((with_reducible repeat' (first | assumption | exact At.new1 _ _ _ | exact At.new2 _ _ _ _ | exact At.new3 _ _ _ _ _ | exact At.new5 _ _ _ _ _ _ _ | exact At.nx1 _ _ _ | exact At.nx2 _ _ _ _ | exact At.nx3 _ _ _ _ _ | exact At.ny1 _ _ _ _ | exact At.ny2 _ _ _ _ _ | exact At.ny3 _ _ _ _ _ _ | exact At.nz1 _ _ _ _ _ | exact At.nz2 _ _ _ _ _ _ | exact At.nz3 _ _ _ _ _ _ _ | exact Has.new1 _ _ _ | exact Has.new2 _ _ _ _ | exact Has.new3 _ _ _ _ _ | exact Has.nx1 _ _ _ | exact Has.nx2 _ _ _ _ | exact Has.nx3 _ _ _ _ _ | exact Has.ny1 _ _ _ _ | exact Has.ny2 _ _ _ _ _ | exact Has.ny3 _ _ _ _ _ _ | exact Has.nz1 _ _ _ _ _ | exact Has.nz2 _ _ _ _ _ _ | exact Has.nz3 _ _ _ _ _ _ _ | refine At.fill1 ?_ _ | refine At.fill2 ?_ _ _ | refine At.fill3 ?_ _ _ _ | refine At.swap ?_ (by first | omega | (simp; omega)) _ _ | refine At.alloc ?_ _ | refine At.drew ?_ | refine At.drewN ?_ _ | refine At.skip ?_ (by first | omega | (simp; omega)) _ _ | refine At.below (by assumption) ?_ | refine Has.alloc ?_ _ | refine Has.drew ?_ | refine Has.drewN ?_ _ | refine Has.set ?_ _ _ _ | refine Has.below (by assumption) ?_)); done))
  have QA : At w1 (w.heap.size + 1) (aL lon lat) := At.below hB (by ((with_reducible repeat' (first | assumption | exact At.new1 _ _ _ | exact At.new2 _ _ _ _ | exact At.new3 _ _ _ _ _ | exact At.new5 _ _ _ _ _ _ _ | exact At.nx1 _ _ _ | exact At.nx2 _ _ _ _ | exact At.nx3 _ _ _ _ _ | exact At.ny1 _ _ _ _ | exact At.ny2 _ _ _ _ _ | exact At.ny3 _ _ _ _ _ _ | exact At.nz1 _ _ _ _ _ | exact At.nz2 _ _ _ _ _ _ | exact At.nz3 _ _ _ _ _ _ _ | exact Has.new1 _ _ _ | exact Has.new2 _ _ _ _ | exact Has.new3 _ _ _ _ _ | exact Has.nx1 _ _ _ | exact Has.nx2 _ _ _ _ | exact Has.nx3 _ _ _ _ _ | exact Has.ny1 _ _ _ _ | exact Has.ny2 _ _ _ _ _ | exact Has.ny3 _ _ _ _ _ _ | exact Has.nz1 _ _ _ _ _ | exact Has.nz2 _ _ _ _ _ _ | exact Has.nz3 _ _ _ _ _ _ _ | refine At.fill1 ?_ _ | refine At.fill2 ?_ _ _ | refine At.fill3 ?_ _ _ _ | refine At.swap ?_ (by first | omega | (simp; omega)) _ _ | refine At.alloc ?_ _ | refine At.drew ?_ | refine At.drewN ?_ _ | refine At.skip ?_ (by first | omega | (simp; omega)) _ _ | refine At.below (by assumption) ?_ | refine Has.alloc ?_ _ | refine Has.drew ?_ | refine Has.drewN ?_ _ | refine Has.set ?_ _ _ _ | refine Has.below (by assumption) ?_)); done))
  have HC : Gr w w1 := Gr.step (by ((with_reducible repeat' (first | assumption | refine Gr.drew ?_ | refine Gr.drewN ?_ _ | refine Gr.alloc ?_ _ | refine Gr.set ?_ (by first | omega | (simp; omega)) _ _ | exact Gr.refl _)); done)) hB
  clear hB
  go_upto_region 4 with fail
  go_region_held (fun w' => w'.cell? ⟨w.heap.size, 0, none⟩ = some (.float .f64 a) ∧ w'.cell? ⟨w.heap.size, 1, none⟩ = some (.float .f64 f) ∧ w'.cell? ⟨w.heap.size, 2, none⟩ = some (.string k) ∧ w'.cell? ⟨w.heap.size, 3, none⟩ = some (.int .i64 mid) ∧ w'.cell? ⟨w.heap.size, 4, none⟩ = some (.float .f64 m) ∧ w'.cell? ⟨w.heap.size + 1, 0, none⟩ = some (.int .i64 lon) ∧ w'.cell? ⟨w.heap.size + 1, 1, none⟩ = some (.int .i64 lat))
    ((refine c52 (a := .float .f64 a) (b := .float .f64 f) (c := .string k) (d := .int .i64 mid) (e := .float .f64 m) (x := .int .i64 lon) (y := .int .i64 lat) ?_ ?_; all_goals ((with_reducible repeat' (first | assumption | exact At.new1 _ _ _ | exact At.new2 _ _ _ _ | exact At.new3 _ _ _ _ _ | exact At.new5 _ _ _ _ _ _ _ | exact At.nx1 _ _ _ | exact At.nx2 _ _ _ _ | exact At.nx3 _ _ _ _ _ | exact At.ny1 _ _ _ _ | exact At.ny2 _ _ _ _ _ | exact At.ny3 _ _ _ _ _ _ | exact At.nz1 _ _ _ _ _ | exact At.nz2 _ _ _ _ _ _ | exact At.nz3 _ _ _ _ _ _ _ | exact Has.new1 _ _ _ | exact Has.new2 _ _ _ _ | exact Has.new3 _ _ _ _ _ | exact Has.nx1 _ _ _ | exact Has.nx2 _ _ _ _ | exact Has.nx3 _ _ _ _ _ | exact Has.ny1 _ _ _ _ | exact Has.ny2 _ _ _ _ _ | exact Has.ny3 _ _ _ _ _ _ | exact Has.nz1 _ _ _ _ _ | exact Has.nz2 _ _ _ _ _ _ | exact Has.nz3 _ _ _ _ _ _ _ | refine At.fill1 ?_ _ | refine At.fill2 ?_ _ _ | refine At.fill3 ?_ _ _ _ | refine At.swap ?_ (by first | omega | (simp; omega)) _ _ | refine At.alloc ?_ _ | refine At.drew ?_ | refine At.drewN ?_ _ | refine At.skip ?_ (by first | omega | (simp; omega)) _ _ | refine At.below (by assumption) ?_ | refine Has.alloc ?_ _ | refine Has.drew ?_ | refine Has.drewN ?_ _ | refine Has.set ?_ _ _ _ | refine Has.below (by assumption) ?_)); done)))
    ((first
      | (go_at_call 10; refine (paper_any _ _ _ _ _ _).mono ?_; rintro x w3 ⟨rfl, hB3, hs3⟩; replace HC : Gr w w3 := Gr.step (by ((with_reducible repeat' (first | assumption | refine Gr.drew ?_ | refine Gr.drewN ?_ _ | refine Gr.alloc ?_ _ | refine Gr.set ?_ (by first | omega | (simp; omega)) _ _ | exact Gr.refl _)); done)) hB3; replace PA : At w3 w.heap.size (pL a f k mid m) := At.below hB3 (by ((with_reducible repeat' (first | assumption | exact At.new1 _ _ _ | exact At.new2 _ _ _ _ | exact At.new3 _ _ _ _ _ | exact At.new5 _ _ _ _ _ _ _ | exact At.nx1 _ _ _ | exact At.nx2 _ _ _ _ | exact At.nx3 _ _ _ _ _ | exact At.ny1 _ _ _ _ | exact At.ny2 _ _ _ _ _ | exact At.ny3 _ _ _ _ _ _ | exact At.nz1 _ _ _ _ _ | exact At.nz2 _ _ _ _ _ _ | exact At.nz3 _ _ _ _ _ _ _ | exact Has.new1 _ _ _ | exact Has.new2 _ _ _ _ | exact Has.new3 _ _ _ _ _ | exact Has.nx1 _ _ _ | exact Has.nx2 _ _ _ _ | exact Has.nx3 _ _ _ _ _ | exact Has.ny1 _ _ _ _ | exact Has.ny2 _ _ _ _ _ | exact Has.ny3 _ _ _ _ _ _ | exact Has.nz1 _ _ _ _ _ | exact Has.nz2 _ _ _ _ _ _ | exact Has.nz3 _ _ _ _ _ _ _ | refine At.fill1 ?_ _ | refine At.fill2 ?_ _ _ | refine At.fill3 ?_ _ _ _ | refine At.swap ?_ (by first | omega | (simp; omega)) _ _ | refine At.alloc ?_ _ | refine At.drew ?_ | refine At.drewN ?_ _ | refine At.skip ?_ (by first | omega | (simp; omega)) _ _ | refine At.below (by assumption) ?_ | refine Has.alloc ?_ _ | refine Has.drew ?_ | refine Has.drewN ?_ _ | refine Has.set ?_ _ _ _ | refine Has.below (by assumption) ?_)); done)); replace QA : At w3 (w.heap.size + 1) (aL lon lat) := At.below hB3 (by ((with_reducible repeat' (first | assumption | exact At.new1 _ _ _ | exact At.new2 _ _ _ _ | exact At.new3 _ _ _ _ _ | exact At.new5 _ _ _ _ _ _ _ | exact At.nx1 _ _ _ | exact At.nx2 _ _ _ _ | exact At.nx3 _ _ _ _ _ | exact At.ny1 _ _ _ _ | exact At.ny2 _ _ _ _ _ | exact At.ny3 _ _ _ _ _ _ | exact At.nz1 _ _ _ _ _ | exact At.nz2 _ _ _ _ _ _ | exact At.nz3 _ _ _ _ _ _ _ | exact Has.new1 _ _ _ | exact Has.new2 _ _ _ _ | exact Has.new3 _ _ _ _ _ | exact Has.nx1 _ _ _ | exact Has.nx2 _ _ _ _ | exact Has.nx3 _ _ _ _ _ | exact Has.ny1 _ _ _ _ | exact Has.ny2 _ _ _ _ _ | exact Has.ny3 _ _ _ _ _ _ | exact Has.nz1 _ _ _ _ _ | exact Has.nz2 _ _ _ _ _ _ | exact Has.nz3 _ _ _ _ _ _ _ | refine At.fill1 ?_ _ | refine At.fill2 ?_ _ _ | refine At.fill3 ?_ _ _ _ | refine At.swap ?_ (by first | omega | (simp; omega)) _ _ | refine At.alloc ?_ _ | refine At.drew ?_ | refine At.drewN ?_ _ | refine At.skip ?_ (by first | omega | (simp; omega)) _ _ | refine At.below (by assumption) ?_ | refine Has.alloc ?_ _ | refine Has.drew ?_ | refine Has.drewN ?_ _ | refine Has.set ?_ _ _ _ | refine Has.below (by assumption) ?_)); done)); clear hB3)
      | (go_at_call 26; refine (HT.out _ (HL.out.below (Gr.out (by ((with_reducible repeat' (first | assumption | refine Gr.drew ?_ | refine Gr.drewN ?_ _ | refine Gr.alloc ?_ _ | refine Gr.set ?_ (by first | omega | (simp; omega)) _ _ | exact Gr.refl _)); done))))).mono ?_; rintro x w4 ⟨rx, ry, rfl, hso, hB3⟩; replace HC : Gr w w4 := Gr.step (by ((with_reducible repeat' (first | assumption | refine Gr.drew ?_ | refine Gr.drewN ?_ _ | refine Gr.alloc ?_ _ | refine Gr.set ?_ (by first | omega | (simp; omega)) _ _ | exact Gr.refl _)); done)) hB3; replace PA : At w4 w.heap.size (pL a f k mid m) := At.below hB3 (by ((with_reducible repeat' (first | assumption | exact At.new1 _ _ _ | exact At.new2 _ _ _ _ | exact At.new3 _ _ _ _ _ | exact At.new5 _ _ _ _ _ _ _ | exact At.nx1 _ _ _ | exact At.nx2 _ _ _ _ | exact At.nx3 _ _ _ _ _ | exact At.ny1 _ _ _ _ | exact At.ny2 _ _ _ _ _ | exact At.ny3 _ _ _ _ _ _ | exact At.nz1 _ _ _ _ _ | exact At.nz2 _ _ _ _ _ _ | exact At.nz3 _ _ _ _ _ _ _ | exact Has.new1 _ _ _ | exact Has.new2 _ _ _ _ | exact Has.new3 _ _ _ _ _ | exact Has.nx1 _ _ _ | exact Has.nx2 _ _ _ _ | exact Has.nx3 _ _ _ _ _ | exact Has.ny1 _ _ _ _ | exact Has.ny2 _ _ _ _ _ | exact Has.ny3 _ _ _ _ _ _ | exact Has.nz1 _ _ _ _ _ | exact Has.nz2 _ _ _ _ _ _ | exact Has.nz3 _ _ _ _ _ _ _ | refine At.fill1 ?_ _ | refine At.fill2 ?_ _ _ | refine At.fill3 ?_ _ _ _ | refine At.swap ?_ (by first | omega | (simp; omega)) _ _ | refine At.alloc ?_ _ | refine At.drew ?_ | refine At.drewN ?_ _ | refine At.skip ?_ (by first | omega | (simp; omega)) _ _ | refine At.below (by assumption) ?_ | refine Has.alloc ?_ _ | refine Has.drew ?_ | refine Has.drewN ?_ _ | refine Has.set ?_ _ _ _ | refine Has.below (by assumption) ?_)); done)); replace QA : At w4 (w.heap.size + 1) (aL lon lat) := At.below hB3 (by ((with_reducible repeat' (first | assumption | exact At.new1 _ _ _ | exact At.new2 _ _ _ _ | exact At.new3 _ _ _ _ _ | exact At.new5 _ _ _ _ _ _ _ | exact At.nx1 _ _ _ | exact At.nx2 _ _ _ _ | exact At.nx3 _ _ _ _ _ | exact At.ny1 _ _ _ _ | exact At.ny2 _ _ _ _ _ | exact At.ny3 _ _ _ _ _ _ | exact At.nz1 _ _ _ _ _ | exact At.nz2 _ _ _ _ _ _ | exact At.nz3 _ _ _ _ _ _ _ | exact Has.new1 _ _ _ | exact Has.new2 _ _ _ _ | exact Has.new3 _ _ _ _ _ | exact Has.nx1 _ _ _ | exact Has.nx2 _ _ _ _ | exact Has.nx3 _ _ _ _ _ | exact Has.ny1 _ _ _ _ | exact Has.ny2 _ _ _ _ _ | exact Has.ny3 _ _ _ _ _ _ | exact Has.nz1 _ _ _ _ _ | exact Has.nz2 _ _ _ _ _ _ | exact Has.nz3 _ _ _ _ _ _ _ | refine At.fill1 ?_ _ | refine At.fill2 ?_ _ _ | refine At.fill3 ?_ _ _ _ | refine At.swap ?_ (by first | omega | (simp; omega)) _ _ | refine At.alloc ?_ _ | refine At.drew ?_ | refine At.drewN ?_ _ | refine At.skip ?_ (by first | omega | (simp; omega)) _ _ | refine At.below (by assumption) ?_ | refine Has.alloc ?_ _ | refine Has.drew ?_ | refine Has.drewN ?_ _ | refine Has.set ?_ _ _ _ | refine Has.below (by assumption) ?_)); done)); clear hB3)))
  all_goals
    have HG' := hid hso
    clear HT hso
    obtain ⟨c0, c1, c2, c3, c4⟩ := PA.c5
    obtain ⟨d0, d1⟩ := QA.c2
    go_wp2_with fail
    refine (HP.out _).mono ?_
    rintro x w5 ⟨rfl, hB3⟩
    replace HC : Gr w w5 := Gr.step HC hB3
    replace PA := At.below hB3 PA
    replace QA := At.below hB3 QA
    clear hB3 c0 c1 c2 c3 c4 d0 d1
    go_wp2_with fail
    refine (coded_p g dc DC.out _ (HL.out.below HC)).mono ?_
    rintro x w6 ⟨rfl, hB3⟩
    replace HC : Gr w w6 := Gr.step HC hB3
    replace PA := At.below hB3 PA
    replace QA := At.below hB3 QA
    clear hB3
    obtain ⟨c0, c1, c2, c3, c4⟩ := PA.c5
    obtain ⟨d0, d1⟩ := QA.c2
    by_cases hd : dc = 0
    · subst hd
      have HF0 := hid (HF.out rfl)
      obtain ⟨gx, gy⟩ := HG.out rfl _ _ HG'.out
      clear HF HZ HG HG'
      go_wp2_with fail
      refine (HF0.out _).mono ?_
      rintro x w7 ⟨sx, sy, rfl, hx, hy, hB5⟩
      replace HC : Gr w w7 := Gr.step HC hB5
      clear hB5 c0 c1 c2 c3 c4 d0 d1
      go_wp2_with fail
      refine (same_got gx.1 hx.1 _).mono ?_
      rintro e w8 ⟨rfl, rfl⟩
      go_wp2_with fail
      refine (same_got gy.1 hy.1 _).mono ?_
      rintro e w9 ⟨rfl, rfl⟩
      go_wp2
      go_ret
      exact ⟨rfl, by ((with_reducible repeat' (first | assumption | refine Gr.drew ?_ | refine Gr.drewN ?_ _ | refine Gr.alloc ?_ _ | refine Gr.set ?_ (by first | omega | (simp; omega)) _ _ | exact Gr.refl _)); done)⟩
    · obtain ⟨rfl, rfl⟩ := HZ.out hd _ _ HG'.out
      have hpos : (0 : Int) < (dc : Int) := by omega
      have hz : (FloatKind.f64.format.order 0 0 == some Ordering.eq) = true := by decide +kernel
      go_wp2
      go_ret
      exact ⟨rfl, by ((with_reducible repeat' (first | assumption | refine Gr.drew ?_ | refine Gr.drewN ?_ _ | refine Gr.alloc ?_ _ | refine Gr.set ?_ (by first | omega | (simp; omega)) _ _ | exact Gr.refl _)); done)⟩
end Go.Proofs.YtkebgnemccaimaaGreatDoor
