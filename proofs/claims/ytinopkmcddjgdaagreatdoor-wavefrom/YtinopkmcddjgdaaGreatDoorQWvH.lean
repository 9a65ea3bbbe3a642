/-
  wave.Strip: cast.
-/
import Derived.Test.YtinopkmcddjgdaaGreatDoorQWvG
import Derived.Deep.RegionLaw
namespace Go.Proofs.YtinopkmcddjgdaaGreatDoor
open Go.RowKit FB
attribute [local go_sem] run_store_float

/-- Beyond what is drawn; the number of a place's error. -/
def offS (lat d : Int) : Prop := lat < -89000000000 ∨ 89000000000 < lat ∨ sgn d < -45000000000 ∨ 45000000000 < sgn d
instance (lat d : Int) : Decidable (offS lat d) := by unfold offS; infer_instance
def tcode (a f m : Nat) (lat d : Int) : Nat := if scode a f m = 0 then (if offS lat d then 4 else 0) else scode a f m
theorem tcode_cases (a f m : Nat) (lat d : Int) : tcode a f m lat d = 0 ∨ tcode a f m lat d = 3 ∨ tcode a f m lat d = 4 := by
  unfold tcode
  rcases scode_cases a f m with h | h
  · rw [if_pos h]; split
    · exact .inr (.inr rfl)
    · exact .inl rfl
  · rw [if_neg (by omega), h]; exact .inr (.inl rfl)
theorem tcode_ok {a f m : Nat} {lat d : Int} (h : tcode a f m lat d = 0) : scode a f m = 0 ∧ ¬ offS lat d := by
  unfold tcode at h
  by_cases hp : scode a f m = 0
  · rw [if_pos hp] at h
    split at h
    · cases h
    · rename_i hn
      exact ⟨hp, hn⟩
  · rw [if_neg hp] at h; exact absurd h hp
theorem nrm_sgn (d : Int) : nrm (sgn d) = nrm d := by unfold sgn nrm; split <;> omega
noncomputable def tnO (f : Nat) (lat : Int) : Option Nat := kO (uzO (isO f lat))
noncomputable def rtC (f : Nat) (lat d : Int) : Option Nat := hyO (tnO f lat) (some (uz (cosV (nrm d))))
noncomputable def vvO (f : Nat) (lat d : Int) : Option Nat := unO (oD (some (uz (sinV (nrm d)))) (rtC f lat d))
abbrev kV (t s c r : Nat) (u : Int) (v : Nat) : Value := .agg #[.float .f64 t, .float .f64 s, .float .f64 c, .float .f64 r, .int .i64 u, .float .f64 v]
abbrev kL (t s c r : Nat) (u : Int) (v : Nat) : List Value := [.float .f64 t, .float .f64 s, .float .f64 c, .float .f64 r, .int .i64 u, .float .f64 v]
theorem At.c6 {W : World} {B : Nat} {a b c d e f : Value} (h : At W B [a, b, c, d, e, f]) : W.cell? ⟨B, 0, none⟩ = some a ∧ W.cell? ⟨B, 1, none⟩ = some b ∧ W.cell? ⟨B, 2, none⟩ = some c ∧ W.cell? ⟨B, 3, none⟩ = some d ∧ W.cell? ⟨B, 4, none⟩ = some e ∧ W.cell? ⟨B, 5, none⟩ = some f := ⟨(h.1 0 (by simp)).1, (h.1 1 (by simp)).1, (h.1 2 (by simp)).1, (h.1 3 (by simp)).1, (h.1 4 (by simp)).1, (h.1 5 (by simp)).1⟩
theorem At.f6 {W : World} {B : Nat} {a b c d e f : Value} (h : At W B [a, b, c, d, e, f]) : W.frozen? ⟨B, 0, none⟩ = false ∧ W.frozen? ⟨B, 1, none⟩ = false ∧ W.frozen? ⟨B, 2, none⟩ = false ∧ W.frozen? ⟨B, 3, none⟩ = false ∧ W.frozen? ⟨B, 4, none⟩ = false ∧ W.frozen? ⟨B, 5, none⟩ = false := ⟨(h.1 0 (by simp)).2, (h.1 1 (by simp)).2, (h.1 2 (by simp)).2, (h.1 3 (by simp)).2, (h.1 4 (by simp)).2, (h.1 5 (by simp)).2⟩
theorem c42 {W : World} {B C : Nat} {a b c d x y : Value} (h : At W B [a, b, c, d]) (k : At W C [x, y]) : W.cell? ⟨B, 0, none⟩ = some a ∧ W.cell? ⟨B, 1, none⟩ = some b ∧ W.cell? ⟨B, 2, none⟩ = some c ∧ W.cell? ⟨B, 3, none⟩ = some d ∧ W.cell? ⟨C, 0, none⟩ = some x ∧ W.cell? ⟨C, 1, none⟩ = some y := ⟨h.c4.1, h.c4.2.1, h.c4.2.2.1, h.c4.2.2.2, k.c2.1, k.c2.2⟩
set_option maxHeartbeats 8000000 in
theorem cast_ok (g : Nat → Addr) (a f m : Nat) (mid lon lat : Int) (hf : Le 1021 f) (hp : tcode a f m lat (nrm lon - nrm mid) = 0) (w : World) (hl : Laid w g) : Calls Tryz.prog 24 #[sV a f mid m, .agg #[.int .i64 lon, .int .i64 lat]] w fun e w' => ∃ t r v, e = .returned (.tuple #[kV t (uz (sinV (nrm (nrm lon - nrm mid)))) (uz (cosV (nrm (nrm lon - nrm mid)))) r (sgn (angV t (uz (cosV (nrm (nrm lon - nrm mid))))).1) v, .nilIface]) ∧ GW (tnO f lat) t ∧ GW (rtC f lat (nrm lon - nrm mid)) r ∧ GW (vvO f lat (nrm lon - nrm mid)) v ∧ Gr w w' := by
  obtain ⟨mF, aF, sF, qF, mD, aD, sD, qD, hm, ha, hss, hq, gm, ga, gs, gq⟩ := ops
  have HL := hid hl
  have HV := hid (fun w hl => svalid_at g a f m mid w hl)
  obtain ⟨hp1, hp2⟩ := tcode_ok hp
  rw [hp1] at HV
  clear hl hp hp1
  obtain ⟨l0, l1⟩ := nrm_lt lon
  obtain ⟨d0, d1⟩ := nrm_lt mid
  have hw : IntKind.i64.wrap (nrm lon - nrm mid) = nrm lon - nrm mid := by simp [IntKind.wrap, IntKind.signed, IntKind.bits]; omega
  go_enter Tryz.func24, Tryz.ntmps24
  go_wp2_with fail
  refine (HV.out _ (HL.out.below (Gr.out (by ((with_reducible repeat' (first | assumption | refine Gr.drew ?_ | refine Gr.drewN ?_ _ | refine Gr.alloc ?_ _ | refine Gr.set ?_ (by first | omega | (simp; omega)) _ _ | exact Gr.refl _)); done))))).mono ?_
  rintro x w1 ⟨rfl, hB⟩
  have PA : At w1 w.heap.size (sL a f mid m) := At.below hB (((At.new4 w _ _ _ _ _).alloc _).alloc _)
  have QA : At w1 (w.heap.size + 1) (aL lon lat) := At.below hB (by ((with_reducible repeat' (first | assumption | exact At.new1 _ _ _ | exact At.new2 _ _ _ _ | exact At.new3 _ _ _ _ _ | exact At.new5 _ _ _ _ _ _ _ | exact At.nx1 _ _ _ | exact At.nx2 _ _ _ _ | exact At.nx3 _ _ _ _ _ | exact At.ny1 _ _ _ _ | exact At.ny2 _ _ _ _ _ | exact At.ny3 _ _ _ _ _ _ | exact At.nz1 _ _ _ _ _ | exact At.nz2 _ _ _ _ _ _ | exact At.nz3 _ _ _ _ _ _ _ | exact Has.new1 _ _ _ | exact Has.new2 _ _ _ _ | exact Has.new3 _ _ _ _ _ | exact Has.nx1 _ _ _ | exact Has.nx2 _ _ _ _ | exact Has.nx3 _ _ _ _ _ | exact Has.ny1 _ _ _ _ | exact Has.ny2 _ _ _ _ _ | exact Has.ny3 _ _ _ _ _ _ | exact Has.nz1 _ _ _ _ _ | exact Has.nz2 _ _ _ _ _ _ | exact Has.nz3 _ _ _ _ _ _ _ | refine At.fill1 ?_ _ | refine At.fill2 ?_ _ _ | refine At.fill3 ?_ _ _ _ | refine At.swap ?_ (by first | omega | (simp; omega)) _ _ | refine At.alloc ?_ _ | refine At.drew ?_ | refine At.drewN ?_ _ | refine At.skip ?_ (by first | omega | (simp; omega)) _ _ | refine At.below (by assumption) ?_ | refine Has.alloc ?_ _ | refine Has.drew ?_ | refine Has.drewN ?_ _ | refine Has.set ?_ _ _ _ | refine Has.below (by assumption) ?_)); done))
  have RA : At w1 (w.heap.size + 1 + 1) (kL 0 0 0 0 0 0) := At.below hB (At.newRow ((w.alloc (.cells #[.float .f64 a, .float .f64 f, .int .i64 mid, .float .f64 m] 35)).alloc (.cells #[.int .i64 lon, .int .i64 lat] 28)) (kL 0 0 0 0 0 0) 66 |> fun h => by simpa using h)
  have HC : Gr w w1 := Gr.step (by ((with_reducible repeat' (first | assumption | refine Gr.drew ?_ | refine Gr.drewN ?_ _ | refine Gr.alloc ?_ _ | refine Gr.set ?_ (by first | omega | (simp; omega)) _ _ | exact Gr.refl _)); done)) hB
  clear hB HV HL
  rw [show evOf g 0 = .nilIface from rfl]
  go_upto_region 4 with fail
  go_region_held (fun w' => w'.cell? ⟨w.heap.size, 0, none⟩ = some (.float .f64 a) ∧ w'.cell? ⟨w.heap.size, 1, none⟩ = some (.float .f64 f) ∧ w'.cell? ⟨w.heap.size, 2, none⟩ = some (.int .i64 mid) ∧ w'.cell? ⟨w.heap.size, 3, none⟩ = some (.float .f64 m) ∧ w'.cell? ⟨w.heap.size + 1, 0, none⟩ = some (.int .i64 lon) ∧ w'.cell? ⟨w.heap.size + 1, 1, none⟩ = some (.int .i64 lat))
    ((refine c42 (a := .float .f64 a) (b := .float .f64 f) (c := .int .i64 mid) (d := .float .f64 m) (x := .int .i64 lon) (y := .int .i64 lat) ?_ ?_; all_goals ((with_reducible repeat' (first | assumption | exact At.new1 _ _ _ | exact At.new2 _ _ _ _ | exact At.new3 _ _ _ _ _ | exact At.new5 _ _ _ _ _ _ _ | exact At.nx1 _ _ _ | exact At.nx2 _ _ _ _ | exact At.nx3 _ _ _ _ _ | exact At.ny1 _ _ _ _ | exact At.ny2 _ _ _ _ _ | exact At.ny3 _ _ _ _ _ _ | exact At.nz1 _ _ _ _ _ | exact At.nz2 _ _ _ _ _ _ | exact At.nz3 _ _ _ _ _ _ _ | exact Has.new1 _ _ _ | exact Has.new2 _ _ _ _ | exact Has.new3 _ _ _ _ _ | exact Has.nx1 _ _ _ | exact Has.nx2 _ _ _ _ | exact Has.nx3 _ _ _ _ _ | exact Has.ny1 _ _ _ _ | exact Has.ny2 _ _ _ _ _ | exact Has.ny3 _ _ _ _ _ _ | exact Has.nz1 _ _ _ _ _ | exact Has.nz2 _ _ _ _ _ _ | exact Has.nz3 _ _ _ _ _ _ _ | refine At.fill1 ?_ _ | refine At.fill2 ?_ _ _ | refine At.fill3 ?_ _ _ _ | refine At.swap ?_ (by first | omega | (simp; omega)) _ _ | refine At.alloc ?_ _ | refine At.drew ?_ | refine At.drewN ?_ _ | refine At.skip ?_ (by first | omega | (simp; omega)) _ _ | refine At.below (by assumption) ?_ | refine Has.alloc ?_ _ | refine Has.drew ?_ | refine Has.drewN ?_ _ | refine Has.set ?_ _ _ _ | refine Has.below (by assumption) ?_)); done)))
    ((first
      | (go_at_call 53; refine (norm_any _ _).mono ?_; rintro x w2 ⟨rfl, rfl⟩)
      | (go_at_call 34; refine (signed_any _ _).mono ?_; rintro x w2 ⟨rfl, rfl⟩)))
  obtain ⟨d, hd⟩ : ∃ d, nrm lon - nrm mid = d := ⟨_, rfl⟩
  rw [hd] at hp2 ⊢
  have HD := hid hd
  have HNS := hid (nrm_sgn d)
  obtain ⟨e, he⟩ : ∃ e, sgn d = e := ⟨_, rfl⟩
  unfold offS at hp2
  rw [he] at hp2 HNS ⊢
  have h1 : ¬ lat < -89000000000 := fun h => hp2 (.inl h)
  have h2 : ¬ 89000000000 < lat := fun h => hp2 (.inr (.inl h))
  have h3 : ¬ e < -45000000000 := fun h => hp2 (.inr (.inr (.inl h)))
  have h4 : ¬ 45000000000 < e := fun h => hp2 (.inr (.inr (.inr h)))
  clear hp2 hw l0 l1 d0 d1 he hd
  replace HC := HC.drew
  replace PA := PA.drew
  replace QA := QA.drew
  replace RA := RA.drew
  generalize hwd : World.drew _ = w3 at HC PA QA RA ⊢
  clear hwd
  obtain ⟨c0, c1, c2, c3⟩ := PA.c4
  obtain ⟨q0, q1⟩ := QA.c2
  go_wp2_with fail
  refine (iso_any _ _ _ hf _).mono ?_
  rintro x w4 ⟨ri, rfl, hi, hB⟩
  replace HC : Gr w w4 := Gr.step HC hB
  replace RA := At.below hB RA
  clear hB c0 c1 c2 c3 q0 q1 PA QA h1 h2 h3 h4
  go_wp2_with fail
  refine (halves_any (uzO (isO f lat)) _ (got_uz hi) _).mono ?_
  rintro x w5 ⟨ch, t, rfl, hch, ht, hB⟩
  replace HC : Gr w w5 := Gr.step HC hB
  replace RA := At.below hB RA
  clear hB hch
  go_wp2_with fail
  refine (sin_any _ _).mono ?_
  rintro x w6 ⟨rfl, hB⟩
  rw [show nrm e = nrm d from HNS.out]
  replace HC : Gr w w6 := Gr.step HC hB
  replace RA := At.below hB RA
  clear hB
  go_wp2_with fail
  refine (cos_any _ _).mono ?_
  rintro x w7 ⟨rfl, hB⟩
  rw [show nrm e = nrm d from HNS.out]
  replace HC : Gr w w7 := Gr.step HC hB
  replace RA := At.below hB RA
  clear hB
  obtain ⟨s, hs⟩ : ∃ s, uz (sinV (nrm d)) = s := ⟨_, rfl⟩
  obtain ⟨c, hc⟩ : ∃ c, uz (cosV (nrm d)) = c := ⟨_, rfl⟩
  have HS := hid hs
  have HN := hid hc
  have hcl : c < 18446744073709551616 := by
    rw [← hc]
    obtain ⟨k0, k1⟩ := nrm_lt d
    exact uz_lt (sinV_le (nrm d) k0 k1).2.1
  rw [hs, hc]
  clear hs hc
  have lr := RA.lt
  have lc : w.heap.size ≤ w7.heap.size := HC.out.size
  go_upto_region 9 with fail
  have KA : At (w7.alloc (.cells #[.float .f64 t, .float .f64 s, .float .f64 c, .float .f64 0, .int .i64 0, .float .f64 0] 66)) w7.heap.size (kL t s c 0 0 0) := At.newRow w7 (kL t s c 0 0 0) 66
  replace HC := HC.alloc (.cells #[.float .f64 t, .float .f64 s, .float .f64 c, .float .f64 0, .int .i64 0, .float .f64 0] 66)
  replace RA := RA.alloc (.cells #[.float .f64 t, .float .f64 s, .float .f64 c, .float .f64 0, .int .i64 0, .float .f64 0] 66)
  have n1 : ¬ w7.heap.size = w.heap.size + 1 + 1 := by omega
  generalize hwd : w7.alloc (.cells #[.float .f64 t, .float .f64 s, .float .f64 c, .float .f64 0, .int .i64 0, .float .f64 0] 66) = w8 at HC KA RA ⊢
  clear hwd lr
  generalize hCC : w7.heap.size = C at n1 lc KA ⊢
  clear hCC
  obtain ⟨k0, k1, k2, k3, k4, k5⟩ := KA.c6
  obtain ⟨j0, j1, j2, j3, j4, j5⟩ := KA.f6
  have lk := KA.lt
  go_wp2_with fail
  refine (hyp_any (tnO f lat) (some c) _ _ ht.1 (gsm _) _).mono ?_
  rintro x w9 ⟨r, rfl, hr, hB⟩
  replace HC : Gr w w9 := Gr.step HC hB
  replace RA := At.below hB RA
  replace KA := At.below hB KA
  clear hB k0 k1 k2 k3 k4 k5 j0 j1 j2 j3 j4 j5 lk
  obtain ⟨k0, k1, k2, k3, k4, k5⟩ := KA.c6
  obtain ⟨j0, j1, j2, j3, j4, j5⟩ := KA.f6
  go_upto_region 10 with fail
  replace HC := HC.set lc 3 (.float .f64 r)
  replace RA := RA.skip n1 3 (.float .f64 r)
  replace KA : At (w9.setCell ⟨C, 3, none⟩ (.float .f64 r)) C (kL t s c r 0 0) := KA.put 3 (.float .f64 r)
  clear k0 k1 k2 k3 k4 k5 j0 j1 j2 j3 j4 j5
  generalize hwd : w9.setCell ⟨C, 3, none⟩ (.float .f64 r) = w10 at HC KA RA ⊢
  clear hwd
  obtain ⟨k0, k1, k2, k3, k4, k5⟩ := KA.c6
  go_wp2_with fail
  refine (angle_any t c ht.2 hcl _).mono ?_
  rintro x w11 ⟨rfl, hB⟩
  replace HC : Gr w w11 := Gr.step HC hB
  replace RA := At.below hB RA
  replace KA := At.below hB KA
  clear hB k0 k1 k2 k3 k4 k5
  go_upto_region 11 with fail
  obtain ⟨k0, k1, k2, k3, k4, k5⟩ := KA.c6
  obtain ⟨j0, j1, j2, j3, j4, j5⟩ := KA.f6
  have HU := hid (fun ww => unroll_any (oD (some s) (hyO (tnO f lat) (some c))) (qF s r ww) (gq _ _ _ _ _ (gsm s) hr.1))
  go_region_law ((first
    | (go_simp; go_wp2_with (go_at_call 34; refine (signed_any _ _).mono ?_; rintro x wp ⟨rfl, rfl⟩); fail_if_success go_at_call 51)
    | (go_simp; go_at_call 51; refine (HU.out _ _).mono ?_; rintro x wp ⟨v, rfl, hv, hB⟩; replace HC : Gr w wp := Gr.step (by ((with_reducible repeat' (first | assumption | refine Gr.drew ?_ | refine Gr.drewN ?_ _ | refine Gr.alloc ?_ _ | refine Gr.set ?_ (by first | omega | (simp; omega)) _ _ | exact Gr.refl _)); done)) hB; replace RA : At wp (w.heap.size + 1 + 1) (kL 0 0 0 0 0 0) := At.below hB (by ((with_reducible repeat' (first | assumption | exact At.new1 _ _ _ | exact At.new2 _ _ _ _ | exact At.new3 _ _ _ _ _ | exact At.new5 _ _ _ _ _ _ _ | exact At.nx1 _ _ _ | exact At.nx2 _ _ _ _ | exact At.nx3 _ _ _ _ _ | exact At.ny1 _ _ _ _ | exact At.ny2 _ _ _ _ _ | exact At.ny3 _ _ _ _ _ _ | exact At.nz1 _ _ _ _ _ | exact At.nz2 _ _ _ _ _ _ | exact At.nz3 _ _ _ _ _ _ _ | exact Has.new1 _ _ _ | exact Has.new2 _ _ _ _ | exact Has.new3 _ _ _ _ _ | exact Has.nx1 _ _ _ | exact Has.nx2 _ _ _ _ | exact Has.nx3 _ _ _ _ _ | exact Has.ny1 _ _ _ _ | exact Has.ny2 _ _ _ _ _ | exact Has.ny3 _ _ _ _ _ _ | exact Has.nz1 _ _ _ _ _ | exact Has.nz2 _ _ _ _ _ _ | exact Has.nz3 _ _ _ _ _ _ _ | refine At.fill1 ?_ _ | refine At.fill2 ?_ _ _ | refine At.fill3 ?_ _ _ _ | refine At.swap ?_ (by first | omega | (simp; omega)) _ _ | refine At.alloc ?_ _ | refine At.drew ?_ | refine At.drewN ?_ _ | refine At.skip ?_ (by first | omega | (simp; omega)) _ _ | refine At.below (by assumption) ?_ | refine Has.alloc ?_ _ | refine Has.drew ?_ | refine Has.drewN ?_ _ | refine Has.set ?_ _ _ _ | refine Has.below (by assumption) ?_)); done)); replace KA : At wp C (kL t s c r 0 0) := At.below hB (by ((with_reducible repeat' (first | assumption | exact At.new1 _ _ _ | exact At.new2 _ _ _ _ | exact At.new3 _ _ _ _ _ | exact At.new5 _ _ _ _ _ _ _ | exact At.nx1 _ _ _ | exact At.nx2 _ _ _ _ | exact At.nx3 _ _ _ _ _ | exact At.ny1 _ _ _ _ | exact At.ny2 _ _ _ _ _ | exact At.ny3 _ _ _ _ _ _ | exact At.nz1 _ _ _ _ _ | exact At.nz2 _ _ _ _ _ _ | exact At.nz3 _ _ _ _ _ _ _ | exact Has.new1 _ _ _ | exact Has.new2 _ _ _ _ | exact Has.new3 _ _ _ _ _ | exact Has.nx1 _ _ _ | exact Has.nx2 _ _ _ _ | exact Has.nx3 _ _ _ _ _ | exact Has.ny1 _ _ _ _ | exact Has.ny2 _ _ _ _ _ | exact Has.ny3 _ _ _ _ _ _ | exact Has.nz1 _ _ _ _ _ | exact Has.nz2 _ _ _ _ _ _ | exact Has.nz3 _ _ _ _ _ _ _ | refine At.fill1 ?_ _ | refine At.fill2 ?_ _ _ | refine At.fill3 ?_ _ _ _ | refine At.swap ?_ (by first | omega | (simp; omega)) _ _ | refine At.alloc ?_ _ | refine At.drew ?_ | refine At.drewN ?_ _ | refine At.skip ?_ (by first | omega | (simp; omega)) _ _ | refine At.below (by assumption) ?_ | refine Has.alloc ?_ _ | refine Has.drew ?_ | refine Has.drewN ?_ _ | refine Has.set ?_ _ _ _ | refine Has.below (by assumption) ?_)); done)); clear hB k0 k1 k2 k3 k4 k5 j0 j1 j2 j3 j4 j5; obtain ⟨k0, k1, k2, k3, k4, k5⟩ := KA.c6; obtain ⟨j0, j1, j2, j3, j4, j5⟩ := KA.f6)))
  all_goals
    clear k0 k1 k2 k3 k4 k5 j0 j1 j2 j3 j4 j5
    replace HC := (HC.set lc 4 (.int .i64 (sgn (angV t c).1))).set lc 5 (.float .f64 v)
    replace RA := (RA.skip n1 4 (.int .i64 (sgn (angV t c).1))).skip n1 5 (.float .f64 v)
    replace KA : At ((wp.setCell ⟨C, 4, none⟩ (.int .i64 (sgn (angV t c).1))).setCell ⟨C, 5, none⟩ (.float .f64 v)) C (kL t s c r (sgn (angV t c).1) v) := (KA.put 4 _).put 5 _
    go_upto_region 12 with fail
    generalize hwd : (wp.setCell ⟨C, 4, none⟩ (.int .i64 (sgn (angV t c).1))).setCell ⟨C, 5, none⟩ (.float .f64 v) = w12 at HC KA RA ⊢
    clear hwd
    obtain ⟨k0, k1, k2, k3, k4, k5⟩ := KA.c6
    obtain ⟨q0, q1, q2, q3, q4, q5⟩ := RA.c6
    obtain ⟨j0, j1, j2, j3, j4, j5⟩ := RA.f6
    have lr := RA.lt
    go_wp2_with fail
    have lb : w.heap.size ≤ w.heap.size + 1 + 1 := by omega
    have TA := (((((RA.put 0 (.float .f64 t)).put 1 (.float .f64 s)).put 2 (.float .f64 c)).put 3 (.float .f64 r)).put 4 (.int .i64 (sgn (angV t c).1))).put 5 (.float .f64 v)
    have HT := (((((HC.set lb 0 (.float .f64 t)).set lb 1 (.float .f64 s)).set lb 2 (.float .f64 c)).set lb 3 (.float .f64 r)).set lb 4 (.int .i64 (sgn (angV t c).1))).set lb 5 (.float .f64 v)
    clear k0 k1 k2 k3 k4 k5 q0 q1 q2 q3 q4 q5 j0 j1 j2 j3 j4 j5 HC RA KA
    generalize hwd : World.setCell _ ⟨w.heap.size + 1 + 1, 5, none⟩ _ = w13 at TA HT ⊢
    clear hwd
    replace TA : At w13 (w.heap.size + 1 + 1) (kL t s c r (sgn (angV t c).1) v) := TA
    obtain ⟨k0, k1, k2, k3, k4, k5⟩ := TA.c6
    refine bodyPost_ret (v := .tuple #[kV t s c r (sgn (angV t c).1) v, .nilIface]) (by simp [results, Tryz.results24, go_sem, k0, k1, k2, k3, k4, k5]) rfl ?_
    have E1 := HS.out
    have E2 := HN.out
    have E3 := HD.out
    clear HS HN HD HNS
    subst E1 E2 E3
    exact ⟨t, r, v, rfl, ht, hr, hv, HT⟩
end Go.Proofs.YtinopkmcddjgdaaGreatDoor
