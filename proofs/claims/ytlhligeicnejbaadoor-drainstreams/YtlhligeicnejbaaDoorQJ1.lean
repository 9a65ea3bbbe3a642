/-
  Rasters: field.within, side, Valid; mercatorref3.great, RasterError.; mercatorref3.great, RasterError, RastersError; mercatorlaw3.small, nothing, sameInts, is.; mercatorref3.RastersError; mercatorlaw3.small, nothing, sameInts, is; field.alike.
-/
import Derived.Test.YtlhligeicnejbaaDoorQGlA
import Derived.BigQuiet
import Derived.Deep.QuietTactic
import Derived.Deep.CutRange
import Derived.Deep.RegionHeld3
import Derived.Deep.RegionLaw
namespace Go.Proofs.YtlhligeicnejbaaDoor
open Go.RowKit

/-- A slice of whole numbers that is read: it may begin anywhere in its block. -/
structure ISl (w : World) (ad : Option Addr) (b o cap : Nat) (l : List Int) : Prop where
  row : ((∀ i, (h : i < l.length) → w.cell? ⟨b, o + i, none⟩ = some (.int .i64 l[i])) ∧ b < w.heap.size) ∨ l = []
  ix : ∀ k : Nat, k < l.length → ∀ w, (Instr.indexAt 30 (.slice ad l.length cap) (.int .i64 k)).run Tryd.prog w = .ok (.pointer (some ⟨b, o + k, none⟩)) w
theorem ISl.below {W w' : World} {ad : Option Addr} {b o cap : Nat} {l : List Int} (hB : Below W.heap.size W w') (h : ISl W ad b o cap l) : ISl w' ad b o cap l :=
  ⟨h.row.imp (fun r => ⟨fun i hi => (hB.cell (p := ⟨b, o + i, none⟩) r.2).trans (r.1 i hi), Nat.lt_of_lt_of_le r.2 hB.size⟩) id, h.ix⟩
theorem ISl.cell {W : World} {ad : Option Addr} {b o cap : Nat} {l : List Int} (h : ISl W ad b o cap l) {k : Nat} (hk : k < l.length) : W.cell? ⟨b, o + k, none⟩ = some (.int .i64 l[k]) := by
  have hn : l ≠ [] := by intro e; rw [e] at hk; simp at hk
  exact (h.row.resolve_right hn).1 k hk
theorem iindex (b o n cap k : Nat) (hk : k < n) (w : World) : (Instr.indexAt 30 (.slice (some ⟨b, o, none⟩) n cap) (.int .i64 k)).run Tryd.prog w = .ok (.pointer (some ⟨b, o + k, none⟩)) w := by
  have hu : Tryd.prog.underlying 30 = some (.slice (Tryd.prog.elem 30)) := by kernel_rfl
  refine (run_indexAt_slice (P := Tryd.prog) (w := w) 30 ⟨b, o, none⟩ n cap .i64 (k : Int) hu).trans ?_
  rw [if_pos ⟨by omega, by omega⟩]
  have hs : (sizeOf (Tryd.prog.elem 30)).run Tryd.prog w = .ok 1 w := by kernel_rfl
  rw [hs]
  simp [Addr.add]
  try (intro h; omega)
theorem ISl.mk' {w : World} {b o cap : Nat} {l : List Int} (h : ∀ i, (h : i < l.length) → w.cell? ⟨b, o + i, none⟩ = some (.int .i64 l[i])) (hb : b < w.heap.size) : ISl w (some ⟨b, o, none⟩) b o cap l := ⟨.inl ⟨h, hb⟩, fun k hk w => iindex b o _ cap k hk w⟩
theorem ISl.nil (w : World) (ad : Option Addr) (b o cap : Nat) : ISl w ad b o cap [] := ⟨.inr rfl, fun k hk => by simp at hk⟩
/-- A raster's value; its error. -/
abbrev raV (W H : Int) (v : Value) : Value := .agg #[.int .i64 W, .int .i64 H, v]
def hiI (x : Int) : Prop := -1048576 ≤ x ∧ x ≤ 1048576
instance (x : Int) : Decidable (hiI x) := by unfold hiI; exact inferInstance
def vcode (W H : Int) (l : List Int) : Nat := if 128 < W ∨ 128 < H then 2 else if (W < 1 ∨ H < 1) ∨ ¬ (l.length : Int) = W * H then 3 else if ∀ x ∈ l, hiI x then 0 else 4
def evc (g : Nat → Addr) (c : Nat) : Value := if c = 0 then .nilIface else errV g (c - 1)
theorem hi_step {l : List Int} {k : Nat} (hk : k < l.length) (h : ∀ r ∈ l.take k, hiI r) (ho : hiI l[k]) : ∀ r ∈ l.take (k + 1), hiI r := by
  intro r hr
  rw [List.take_succ_eq_append_getElem hk] at hr
  rcases List.mem_append.1 hr with hr | hr
  · exact h r hr
  · rw [List.mem_singleton.1 hr]; exact ho
theorem wrap_in {n : Int} (h1 : -9223372036854775808 ≤ n) (h2 : n ≤ 9223372036854775807) : IntKind.i64.wrap n = n := by simp [IntKind.wrap, IntKind.signed, IntKind.bits]; omega
theorem side_mul {W H : Int} (h1 : 1 ≤ W) (h2 : W ≤ 128) (h3 : 1 ≤ H) (h4 : H ≤ 128) : 1 ≤ W * H ∧ W * H ≤ 16384 := by
  constructor
  · have := Int.mul_le_mul h1 h3 (by omega) (by omega); omega
  · have := Int.mul_le_mul h2 h4 (by omega) (by omega); omega
theorem inI_hi (x : Int) : inI (-1048576) 1048576 x = decide (hiI x) := by
  unfold inI
  by_cases h : hiI x
  · rw [decide_eq_true h, decide_eq_true h.1, decide_eq_true h.2]; rfl
  · rw [decide_eq_false h]; unfold hiI at h; rw [← Bool.decide_and]; exact decide_eq_false h
/-- The three errors that a raster can have are laid. -/
structure Lai (w : World) (a : Nat → Addr) : Prop where
  cell : ∀ i, 1 ≤ i ∧ i ≤ 3 → w.cell? ⟨gv i, 0, none⟩ = some (errV a i)
theorem Lai.below {w w' : World} {a : Nat → Addr} (h : Lai w a) (hb : Below w.heap.size w w') : Lai w' a where
  cell i hi := by rw [hb.cell (p := ⟨gv i, 0, none⟩) (lt_of_cell (h.cell i hi))]; exact h.cell i hi
theorem Laid.lai {w : World} {a : Nat → Addr} (h : Laid w a) : Lai w a := ⟨fun i hi => h.cell i (by omega)⟩
set_option maxRecDepth 4000 in
set_option maxHeartbeats 4000000 in
theorem valid_lai (g : Nat → Addr) (W H : Int) (ad : Option Addr) (b o cap : Nat) (l : List Int) (w : World) (h : ISl w ad b o cap l) (ll : l.length ≤ 20000) (hl : Lai w g) : Calls Tryd.prog 27 #[raV W H (.slice ad l.length cap)] w fun e w' => e = .returned (evc g (vcode W H l)) ∧ Gr w w' := by
  have HR := hidb h
  have HL := hidb hl
  clear h hl
  have HW := hidb ((Gr.refl w).alloc (.cells #[.int .i64 W, .int .i64 H, .slice ad l.length cap] 32))
  have AR := At.new3 w (.int .i64 W) (.int .i64 H) (.slice ad l.length cap) 32
  by_cases c : 128 < W ∨ 128 < H
  · have HE : Hid (evc g (vcode W H l) = errV g 1) := by show _ = _; rw [show vcode W H l = 2 by unfold vcode; rw [if_pos c]]; rfl
    have cE : (w.alloc (.cells #[.int .i64 W, .int .i64 H, .slice ad l.length cap] 32)).cell? ⟨2, 0, none⟩ = some (errV g 1) := (HL.out.below HW.out.out).cell 1 (by decide)
    by_cases c1 : 128 < W
    all_goals
      (first | (have c2 : 128 < H := c.resolve_left c1) | skip)
      clear c
      go_enter Tryd.func27, Tryd.ntmps27
      go_wp2
      go_ret
      exact ⟨by rw [HE.out]; rfl, HW.out⟩
  · have c1 : ¬ 128 < W := fun h => c (.inl h)
    have c2 : ¬ 128 < H := fun h => c (.inr h)
    have HC := hidb c
    clear c
    by_cases d : (W < 1 ∨ H < 1) ∨ ¬ (l.length : Int) = W * H
    · have HE : Hid (evc g (vcode W H l) = errV g 2) := by show _ = _; rw [show vcode W H l = 3 by unfold vcode; rw [if_neg HC.out, if_pos d]]; rfl
      have cE : (w.alloc (.cells #[.int .i64 W, .int .i64 H, .slice ad l.length cap] 32)).cell? ⟨0, 0, none⟩ = some (errV g 2) := (HL.out.below HW.out.out).cell 2 (by decide)
      by_cases d1 : W < 1
      · clear d HC
        go_enter Tryd.func27, Tryd.ntmps27
        go_wp2
        go_ret
        exact ⟨by rw [HE.out]; rfl, HW.out⟩
      · by_cases d2 : H < 1
        · clear d HC
          go_enter Tryd.func27, Tryd.ntmps27
          go_wp2
          go_ret
          exact ⟨by rw [HE.out]; rfl, HW.out⟩
        · have d3 : ¬ (l.length : Int) = W * H := d.resolve_left (by omega)
          have b1 := side_mul (W := W) (H := H) (by omega) (by omega) (by omega) (by omega)
          have e1 : IntKind.i64.wrap (W * H) = W * H := wrap_in (by omega) (by omega)
          clear d HC b1
          go_enter Tryd.func27, Tryd.ntmps27
          go_wp2
          go_ret
          exact ⟨by rw [HE.out]; rfl, HW.out⟩
    · have d1 : ¬ W < 1 := fun h => d (.inl (.inl h))
      have d2 : ¬ H < 1 := fun h => d (.inl (.inr h))
      have d3 : (l.length : Int) = W * H := Classical.not_not.1 (fun h => d (.inr h))
      have e1 : IntKind.i64.wrap (W * H) = (l.length : Int) := by rw [← d3]; exact wrap_in (by omega) (by omega)
      have HD := hidb d
      clear d d3
      go_enter Tryd.func27, Tryd.ntmps27
      go_wp2
      generalize w.alloc (.cells #[.int .i64 W, .int .i64 H, .slice ad l.length cap] 32) = w1 at *
      clear AR
      go_loopw [37] (fun t wr => ∃ (k : Nat), k ≤ l.length ∧ t = .int .i64 (k : Int) ∧ Hid (∀ r ∈ l.take k, hiI r) ∧ wr = w1) (fun t _ => l.length - (intOf t).toNat)
      case atStart => exact ⟨0, Nat.zero_le _, rfl, (by intro r hr; simp at hr), rfl⟩
      case round =>
        obtain ⟨k, hk, rfl, HK, rfl⟩ := hrel
        by_cases h1 : k < l.length
        · have c0 := (HR.out.below HW.out.out).cell h1
          have ix := HR.out.ix k h1
          have HOK := hidb (fun ho => hi_step h1 HK.out ho)
          have HNO : Hid (¬ hiI l[k] → evc g (vcode W H l) = errV g 3) := fun hn => by
            rw [show vcode W H l = 4 by unfold vcode; rw [if_neg HC.out, if_neg HD.out, if_neg (fun ha => hn (ha _ (List.getElem_mem h1)))]]; rfl
          have cE : wr.cell? ⟨3, 0, none⟩ = some (errV g 3) := (HL.out.below HW.out.out).cell 3 (by decide)
          generalize l[k] = x at *
          have HP := hidb (fun w => within_any x (-1048576) 1048576 w)
          rw [inI_hi] at HP
          by_cases d4 : hiI x
          · rw [decide_eq_true d4] at HP
            have HE := hidb (HOK.out d4)
            clear d4
            go_wp2_with fail
            refine (HP.out _).mono ?_
            rintro e w2 ⟨rfl, rfl⟩
            go_wp2
            go_roundw
            case rel => exact ⟨k + 1, by omega, by go_num, HE.out, by first | exact trivial | rfl⟩
            case measure => simp [intOf]; omega
          · rw [decide_eq_false d4] at HP
            have HE := hidb (HNO.out d4)
            clear d4
            go_wp2_with fail
            refine (HP.out _).mono ?_
            rintro e w2 ⟨rfl, rfl⟩
            go_wp2
            go_ret
            exact ⟨by rw [HE.out]; rfl, HW.out⟩
        · have HE : Hid (evc g (vcode W H l) = .nilIface) := by
            have ha := HK.out
            rw [List.take_of_length_le (by omega)] at ha
            show _ = _
            rw [show vcode W H l = 0 by unfold vcode; rw [if_neg HC.out, if_neg HD.out, if_pos ha]]; rfl
          go_wp2
          go_ret
          exact ⟨by rw [HE.out]; rfl, HW.out⟩
theorem valid_any (g : Nat → Addr) (W H : Int) (ad : Option Addr) (b o cap : Nat) (l : List Int) (w : World) (h : ISl w ad b o cap l) (ll : l.length ≤ 20000) (hl : Laid w g) : Calls Tryd.prog 27 #[raV W H (.slice ad l.length cap)] w fun e w' => e = .returned (evc g (vcode W H l)) ∧ Gr w w' :=
  valid_lai g W H ad b o cap l w h ll hl.lai
end Go.Proofs.YtlhligeicnejbaaDoor
namespace Go.Proofs.YtlhligeicnejbaaDoor
open Go.RowKit

/-- A raster that a pointer points to. -/
structure PtR (w : World) (pb po : Nat) (W H : Int) (v : Value) : Prop where
  c0 : w.cell? ⟨pb, po, none⟩ = some (.int .i64 W)
  c1 : w.cell? ⟨pb, po + 1, none⟩ = some (.int .i64 H)
  c2 : w.cell? ⟨pb, po + 2, none⟩ = some v
theorem PtR.below {w w' : World} {pb po : Nat} {W H : Int} {v : Value} (hB : Below w.heap.size w w') (h : PtR w pb po W H v) : PtR w' pb po W H v := by
  have hb : pb < w.heap.size := lt_of_cell h.c0
  have e := fun j => hB.cell (p := ⟨pb, j, none⟩) hb
  exact ⟨(e _).trans h.c0, (e _).trans h.c1, (e _).trans h.c2⟩
theorem great_any (x : Int) (w : World) : Calls Tryd.prog 22 #[.int .i64 x] w fun e w' => e = .returned (.bool (decide (¬ hiI x))) ∧ w' = w := by
  by_cases c1 : 1048576 < x
  · rw [decide_eq_true (show ¬ hiI x from fun h => by have := h.2; omega)]
    go_enter Tryd.func22, Tryd.ntmps22
    go_wp2
    go_ret
    exact ⟨rfl, rfl⟩
  · by_cases c2 : x < -1048576
    · rw [decide_eq_true (show ¬ hiI x from fun h => by have := h.1; omega)]
      go_enter Tryd.func22, Tryd.ntmps22
      go_wp2
      go_ret
      exact ⟨rfl, rfl⟩
    · rw [decide_eq_false (show ¬ ¬ hiI x from fun h => h ⟨by omega, by omega⟩)]
      go_enter Tryd.func22, Tryd.ntmps22
      go_wp2
      go_ret
      exact ⟨rfl, rfl⟩
set_option maxRecDepth 4000 in
set_option maxHeartbeats 4000000 in
theorem rasterError_any (pb po : Nat) (W H : Int) (ad : Option Addr) (b o cap : Nat) (l : List Int) (w : World) (hp : PtR w pb po W H (.slice ad l.length cap)) (h : ISl w ad b o cap l) (ll : l.length ≤ 20000) : Calls Tryd.prog 8 #[.pointer (some ⟨pb, po, none⟩)] w fun e w' => e = .returned (.int .i64 (vcode W H l : Int)) ∧ Gr w w' := by
  have HR := hidb h
  have HP := hidb hp
  obtain ⟨p0, p1, p2⟩ := hp
  clear h
  by_cases c : 128 < W ∨ 128 < H
  · have HE : Hid (vcode W H l = 2) := by unfold vcode Hid; rw [if_pos c]
    by_cases c1 : 128 < W
    all_goals
      (first | (have c2 : 128 < H := c.resolve_left c1) | skip)
      clear c
      go_enter Tryd.func8, Tryd.ntmps8
      go_wp2
      go_ret
      exact ⟨by rw [HE.out]; rfl, Gr.refl _⟩
  · have c1 : ¬ 128 < W := fun h => c (.inl h)
    have c2 : ¬ 128 < H := fun h => c (.inr h)
    have HC := hidb c
    clear c
    by_cases d : (W < 1 ∨ H < 1) ∨ ¬ (l.length : Int) = W * H
    · have HE : Hid (vcode W H l = 3) := by unfold vcode Hid; rw [if_neg HC.out, if_pos d]
      by_cases d1 : W < 1
      · clear d HC
        go_enter Tryd.func8, Tryd.ntmps8
        go_upto_region 3 with fail
        go_quiet (fail)
        go_wp2
        go_ret
        exact ⟨by rw [HE.out]; rfl, by first | exact Gr.refl _ | exact (Gr.refl _).drewN _ | exact (Gr.refl _).drew⟩
      · by_cases d2 : H < 1
        · clear d HC
          go_enter Tryd.func8, Tryd.ntmps8
          go_upto_region 3 with fail
          go_quiet (fail)
          go_wp2
          go_ret
          exact ⟨by rw [HE.out]; rfl, by first | exact Gr.refl _ | exact (Gr.refl _).drewN _ | exact (Gr.refl _).drew⟩
        · have d3 : ¬ (l.length : Int) = W * H := d.resolve_left (by omega)
          have b1 := side_mul (W := W) (H := H) (by omega) (by omega) (by omega) (by omega)
          have e1 : IntKind.i64.wrap (W * H) = W * H := wrap_in (by omega) (by omega)
          clear d HC b1
          go_enter Tryd.func8, Tryd.ntmps8
          go_upto_region 3 with fail
          go_quiet (fail)
          go_wp2
          go_ret
          exact ⟨by rw [HE.out]; rfl, by first | exact Gr.refl _ | exact (Gr.refl _).drewN _ | exact (Gr.refl _).drew⟩
    · have d1 : ¬ W < 1 := fun h => d (.inl (.inl h))
      have d2 : ¬ H < 1 := fun h => d (.inl (.inr h))
      have d3 : (l.length : Int) = W * H := Classical.not_not.1 (fun h => d (.inr h))
      have e1 : IntKind.i64.wrap (W * H) = (l.length : Int) := by rw [← d3]; exact wrap_in (by omega) (by omega)
      have HD := hidb d
      clear d d3
      go_enter Tryd.func8, Tryd.ntmps8
      go_upto_region 3 with fail
      go_quiet (fail)
      go_wp2
      clear p0 p1 p2
      generalize hw1 : World.drewN w _ = w1
      have HW : Hid (Gr w w1) := by rw [← hw1]; exact (Gr.refl w).drewN _
      clear hw1
      go_loopw [3] (fun t wr => ∃ (k : Nat), k ≤ l.length ∧ t = .int .i64 (k : Int) ∧ Hid (∀ r ∈ l.take k, hiI r) ∧ wr = w1) (fun t _ => l.length - (intOf t).toNat)
      case atStart => exact ⟨0, Nat.zero_le _, rfl, (by intro r hr; simp at hr), rfl⟩
      case round =>
        obtain ⟨k, hk, rfl, HK, rfl⟩ := hrel
        obtain ⟨p0, p1, p2⟩ := HP.out.below HW.out.out
        by_cases h1 : k < l.length
        · have c0 := (HR.out.below HW.out.out).cell h1
          have ix := HR.out.ix k h1
          have HOK := hidb (fun ho => hi_step h1 HK.out ho)
          have HNO : Hid (¬ hiI l[k] → vcode W H l = 4) := fun hn => by
            unfold vcode; rw [if_neg HC.out, if_neg HD.out, if_neg (fun ha => hn (ha _ (List.getElem_mem h1)))]
          generalize l[k] = x at *
          have HP := hidb (fun w => great_any x w)
          by_cases d4 : hiI x
          · rw [decide_eq_false (fun h => h d4)] at HP
            have HE := hidb (HOK.out d4)
            clear d4
            go_wp2_with fail
            refine (HP.out _).mono ?_
            rintro e w2 ⟨rfl, rfl⟩
            go_wp2
            go_roundw
            case rel => exact ⟨k + 1, by omega, by go_num, HE.out, by first | exact trivial | rfl⟩
            case measure => simp [intOf]; omega
          · rw [decide_eq_true d4] at HP
            have HE := hidb (HNO.out d4)
            clear d4
            go_wp2_with fail
            refine (HP.out _).mono ?_
            rintro e w2 ⟨rfl, rfl⟩
            go_wp2
            go_ret
            exact ⟨by rw [HE.out]; rfl, HW.out⟩
        · have HE : Hid (vcode W H l = 0) := by
            have ha := HK.out
            rw [List.take_of_length_le (by omega)] at ha
            show _ = _
            unfold vcode; rw [if_neg HC.out, if_neg HD.out, if_pos ha]
          go_wp2
          go_ret
          exact ⟨by rw [HE.out]; rfl, HW.out⟩
end Go.Proofs.YtlhligeicnejbaaDoor
namespace Go.Proofs.YtlhligeicnejbaaDoor
open Go.RowKit

/-- Two rasters of one size: which error. -/
def acode (W H : Int) (l : List Int) (W' H' : Int) (l' : List Int) : Nat := if vcode W H l = 0 then (if vcode W' H' l' = 0 then (if W = W' ∧ H = H' then 0 else 3) else vcode W' H' l') else vcode W H l
set_option maxRecDepth 4000 in
set_option maxHeartbeats 4000000 in
theorem sameInts_eq {ad ad' : Option Addr} {b b' o o' cap cap' : Nat} {l : List Int} (hn : l.length ≤ 20000) (w : World) (h : ISl w ad b o cap l) (h' : ISl w ad' b' o' cap' l) : Calls Tryd.prog 12 #[.slice ad l.length cap, .slice ad' l.length cap'] w fun e w' => e = .returned (.bool true) ∧ Gr w w' := by
  have HA := hidb h
  have HB := hidb h'
  clear h h'
  obtain ⟨p, hp⟩ : ∃ p, p = l.length := ⟨_, rfl⟩
  have HI : Hid (∀ k : Nat, k < p → ∀ w, (Instr.indexAt 30 (.slice ad p cap) (.int .i64 k)).run Tryd.prog w = .ok (.pointer (some ⟨b, o + k, none⟩)) w) := by rw [hp]; exact HA.out.ix
  have HI' : Hid (∀ k : Nat, k < p → ∀ w, (Instr.indexAt 30 (.slice ad' p cap') (.int .i64 k)).run Tryd.prog w = .ok (.pointer (some ⟨b', o' + k, none⟩)) w) := by rw [hp]; exact HB.out.ix
  rw [← hp] at hn ⊢
  have HP := hidb hp
  clear hp
  go_enter Tryd.func12, Tryd.ntmps12
  go_wp2
  go_loopw [5] (fun t wr => ∃ (k : Nat), k ≤ p ∧ t = .int .i64 k ∧ Gr w wr) (fun t _ => p - (intOf t).toNat)
  case atStart => exact ⟨0, by omega, rfl, Gr.refl _⟩
  case round =>
    obtain ⟨k, hk, rfl, hB⟩ := hrel
    by_cases h1 : k < p
    · have h1a : k < l.length := by rw [← HP.out]; exact h1
      have ca := (HA.out.below hB.out).cell h1a
      have ca' := (HB.out.below hB.out).cell h1a
      have ixa := HI.out k h1
      have ixa' := HI'.out k h1
      have h1' : (k : Int) < (p : Int) := by omega
      have e5 : IntKind.i64.wrap ((k : Int) + 1) = ((k + 1 : Nat) : Int) := by simp [IntKind.wrap, IntKind.signed, IntKind.bits]; omega
      generalize l[k] = x at ca ca'
      go_upto_region 6 with fail
      go_quiet (fail)
      go_wp2
      go_roundw
      case rel => exact ⟨k + 1, by omega, rfl, by first | exact hB.drew | exact (Gr.drewN (w := w) hB _) | exact hB⟩
      case measure => simp [intOf]; omega
    · have h1' : ¬ (k : Int) < (p : Int) := by omega
      clear h1
      go_wp2
      go_ret
      exact ⟨rfl, hB⟩
end Go.Proofs.YtlhligeicnejbaaDoor
