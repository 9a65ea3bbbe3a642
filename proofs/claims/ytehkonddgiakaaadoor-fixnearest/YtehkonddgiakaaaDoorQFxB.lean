/-
  Rows of ranges; fix.Valid, mercatorref3.RangesError.
-/
import Derived.Test.YtehkonddgiakaaaDoorQFxA
namespace Go.Proofs.YtehkonddgiakaaaDoor
open Go.RowKit

/-- The ranges lie from the head of the block on. -/
def RRow (w : World) (b : Nat) (l : List Rg) : Prop := (∀ i, (h : i < l.length) → w.cell? ⟨b, i * 3, none⟩ = some (.int .i64 l[i].x) ∧ w.cell? ⟨b, i * 3 + 1, none⟩ = some (.int .i64 l[i].y) ∧ w.cell? ⟨b, i * 3 + 2, none⟩ = some (.int .i64 l[i].q)) ∧ b < w.heap.size
theorem RRow.below {W w' : World} {b : Nat} {l : List Rg} (hB : Below W.heap.size W w') (h : RRow W b l) : RRow w' b l := by
  refine ⟨fun i hi => ?_, Nat.lt_of_lt_of_le h.2 hB.size⟩
  obtain ⟨k0, k1, k2⟩ := h.1 i hi
  have e := fun j => hB.cell (p := ⟨b, j, none⟩) h.2
  exact ⟨(e _).trans k0, (e _).trans k1, (e _).trans k2⟩
theorem rindex (T : Nat) (hT : T = 30 ∨ T = 22) (b n cap k : Nat) (hk : k < n) (w : World) : (Instr.indexAt T (.slice (some ⟨b, 0, none⟩) n cap) (.int .i64 k)).run Tryd.prog w = .ok (.pointer (some ⟨b, k * 3, none⟩)) w := by
  have hu : Tryd.prog.underlying T = some (.slice (Tryd.prog.elem T)) := by rcases hT with rfl | rfl <;> kernel_rfl
  refine (run_indexAt_slice (P := Tryd.prog) (w := w) T ⟨b, 0, none⟩ n cap .i64 (k : Int) hu).trans ?_
  rw [if_pos ⟨by omega, by omega⟩]
  have hs : (sizeOf (Tryd.prog.elem T)).run Tryd.prog w = .ok 3 w := by rcases hT with rfl | rfl <;> kernel_rfl
  rw [hs]
  simp [Addr.add]
  intro h; omega
/-- What a walk wants to know of a slice of ranges. -/
structure RSl (T : Nat) (w : World) (ad : Option Addr) (b cap : Nat) (l : List Rg) : Prop where
  row : RRow w b l ∨ l = []
  ix : ∀ k : Nat, k < l.length → ∀ w, (Instr.indexAt T (.slice ad l.length cap) (.int .i64 k)).run Tryd.prog w = .ok (.pointer (some ⟨b, k * 3, none⟩)) w
theorem RSl.below {T : Nat} {W w' : World} {ad : Option Addr} {b cap : Nat} {l : List Rg} (hB : Below W.heap.size W w') (h : RSl T W ad b cap l) : RSl T w' ad b cap l :=
  ⟨h.row.imp (fun r => r.below hB) id, h.ix⟩
theorem RSl.cell {T : Nat} {W : World} {ad : Option Addr} {b cap : Nat} {l : List Rg} (h : RSl T W ad b cap l) {k : Nat} (hk : k < l.length) : W.cell? ⟨b, k * 3, none⟩ = some (.int .i64 l[k].x) ∧ W.cell? ⟨b, k * 3 + 1, none⟩ = some (.int .i64 l[k].y) ∧ W.cell? ⟨b, k * 3 + 2, none⟩ = some (.int .i64 l[k].q) := by
  have hn : l ≠ [] := by intro e; rw [e] at hk; simp at hk
  exact (h.row.resolve_right hn).1 k hk
/-- Which error: 0, 2, 3. -/
def rcode (l : List Rg) : Nat := if 60 < l.length then 2 else if ∀ r ∈ l, okR r then 0 else 3
def rerr (g : Nat → Addr) (l : List Rg) : Value := if 60 < l.length then errV g 1 else if ∀ r ∈ l, okR r then .nilIface else errV g 2
theorem ok_step {l : List Rg} {k : Nat} (hk : k < l.length) (h : ∀ r ∈ l.take k, okR r) (ho : okR l[k]) : ∀ r ∈ l.take (k + 1), okR r := by
  intro r hr
  rw [List.take_succ_eq_append_getElem hk] at hr
  rcases List.mem_append.1 hr with hr | hr
  · exact h r hr
  · rw [List.mem_singleton.1 hr]; exact ho
set_option maxRecDepth 4000 in
set_option maxHeartbeats 4000000 in
theorem valid_any (g : Nat → Addr) (ad : Option Addr) (b cap : Nat) (l : List Rg) (w : World) (h : RSl 30 w ad b cap l) (ll : l.length ≤ 1000) (hl : Laid w g) : Calls Tryd.prog 11 #[.slice ad l.length cap] w fun e w' => e = .returned (rerr g l) ∧ Gr w w' := by
  have HR := hidb h
  have HL := hidb hl
  clear h hl
  by_cases c : 60 < l.length
  · have HE : Hid (rerr g l = errV g 1) := by unfold rerr Hid; rw [if_pos c]
    have cE : w.cell? ⟨1, 0, none⟩ = some (errV g 1) := HL.out.cell 1 (by decide)
    go_enter Tryd.func11, Tryd.ntmps11
    go_wp2
    go_ret
    exact ⟨by rw [HE.out]; rfl, Gr.refl _⟩
  · go_enter Tryd.func11, Tryd.ntmps11
    go_wp2
    go_loopw [11] (fun t wr => ∃ (k : Nat), k ≤ l.length ∧ t = .int .i64 (k : Int) ∧ Hid (∀ r ∈ l.take k, okR r) ∧ Hid (Gr w wr)) (fun t _ => l.length - (intOf t).toNat)
    case atStart => exact ⟨0, Nat.zero_le _, rfl, (by intro r hr; simp at hr), Gr.refl _⟩
    case round =>
      obtain ⟨k, hk, rfl, HK, HG⟩ := hrel
      by_cases h1 : k < l.length
      · obtain ⟨c0, c1, c2⟩ := (HR.out.below HG.out.out).cell h1
        have ix := HR.out.ix k h1
        have HOK := hidb (fun ho => ok_step h1 HK.out ho)
        have HNO : Hid (¬ okR l[k] → rerr g l = errV g 2) := fun hn => by
          unfold rerr
          rw [if_neg c, if_neg (fun ha => hn (ha _ (List.getElem_mem h1)))]
        generalize l[k] = r at *
        obtain ⟨x, y, q⟩ := r
        dsimp only at c0 c1 c2
        have HP := hidb (fun w => placed_any x y w)
        have AN := At.new3 wr (.int .i64 x) (.int .i64 y) (.int .i64 q) 61
        have HG1 := HG.out.alloc (.cells #[.int .i64 x, .int .i64 y, .int .i64 q] 61)
        by_cases d1 : inP x y
        · rw [decide_eq_true d1] at HP
          have HD1 := hidb d1
          clear d1
          go_wp2_with fail
          refine (HP.out _).mono ?_
          rintro e w1 ⟨rfl, hB, _⟩
          replace AN := At.below hB AN
          replace HG1 := Gr.step HG1 hB
          obtain ⟨n0, n1, n2⟩ := AN.c3
          have cE : w1.cell? ⟨2, 0, none⟩ = some (errV g 2) := (HL.out.below HG1.out).cell 2 (by decide)
          have HG2 := hidb HG1
          clear hB HG1 AN c0 c1 c2
          by_cases d2 : q < 0
          · have HE := hidb (HNO.out (fun h => by have : 0 ≤ q := h.2.1; omega))
            go_wp2
            go_ret
            exact ⟨by rw [HE.out]; rfl, HG2.out⟩
          · by_cases d3 : 4503599627370496 < q
            · have HE := hidb (HNO.out (fun h => by have : q ≤ 4503599627370496 := h.2.2; omega))
              go_wp2
              go_ret
              exact ⟨by rw [HE.out]; rfl, HG2.out⟩
            · have HE := hidb (HOK.out ⟨HD1.out, (show 0 ≤ q by omega), (show q ≤ 4503599627370496 by omega)⟩)
              go_wp2
              go_roundw
              case rel => exact ⟨k + 1, by omega, by go_num, HE.out, HG2.out⟩
              case measure => simp [intOf]; omega
        · rw [decide_eq_false d1] at HP
          have HE := hidb (HNO.out (fun h => d1 h.1))
          clear d1
          go_wp2_with fail
          refine (HP.out _).mono ?_
          rintro e w1 ⟨rfl, hB, _⟩
          replace HG1 := Gr.step HG1 hB
          have cE : w1.cell? ⟨2, 0, none⟩ = some (errV g 2) := (HL.out.below HG1.out).cell 2 (by decide)
          have HG2 := hidb HG1
          clear hB HG1 AN c0 c1 c2
          go_wp2
          go_ret
          exact ⟨by rw [HE.out]; rfl, HG2.out⟩
      · have HE : Hid (rerr g l = .nilIface) := by
          have ha := HK.out
          rw [List.take_of_length_le (by omega)] at ha
          unfold rerr Hid
          rw [if_neg c, if_pos ha]
        go_wp2
        go_ret
        exact ⟨by rw [HE.out]; rfl, HG.out⟩
set_option maxRecDepth 4000 in
set_option maxHeartbeats 4000000 in
theorem rangesError_any (ad : Option Addr) (b cap : Nat) (l : List Rg) (w : World) (h : RSl 22 w ad b cap l) (ll : l.length ≤ 1000) : Calls Tryd.prog 9 #[.slice ad l.length cap] w fun e w' => e = .returned (.int .i64 (rcode l : Int)) ∧ Gr w w' := by
  have HR := hidb h
  clear h
  by_cases c : 60 < l.length
  · have HE : Hid (rcode l = 2) := by unfold rcode Hid; rw [if_pos c]
    go_enter Tryd.func9, Tryd.ntmps9
    go_wp2
    go_ret
    exact ⟨by rw [HE.out]; rfl, Gr.refl _⟩
  · go_enter Tryd.func9, Tryd.ntmps9
    go_wp2
    go_loopw [3] (fun t wr => ∃ (k : Nat), k ≤ l.length ∧ t = .int .i64 (k : Int) ∧ Hid (∀ r ∈ l.take k, okR r) ∧ Hid (Gr w wr)) (fun t _ => l.length - (intOf t).toNat)
    case atStart => exact ⟨0, Nat.zero_le _, rfl, (by intro r hr; simp at hr), Gr.refl _⟩
    case round =>
      obtain ⟨k, hk, rfl, HK, HG⟩ := hrel
      by_cases h1 : k < l.length
      · obtain ⟨c0, c1, c2⟩ := (HR.out.below HG.out.out).cell h1
        have ix := HR.out.ix k h1
        have HOK := hidb (fun ho => ok_step h1 HK.out ho)
        have HNO : Hid (¬ okR l[k] → rcode l = 3) := fun hn => by
          unfold rcode
          rw [if_neg c, if_neg (fun ha => hn (ha _ (List.getElem_mem h1)))]
        have HCL := hidb (fun w' (hB : Below w.heap.size w w') => (HR.out.below hB).cell h1)
        generalize l[k] = r at *
        obtain ⟨x, y, q⟩ := r
        dsimp only at c0 c1 c2 HCL
        have HP := hidb (fun w => isPlace_any x y w)
        by_cases d1 : inP x y
        · rw [decide_eq_true d1] at HP
          have HD1 := hidb d1
          clear d1
          go_wp2_with fail
          refine (HP.out _).mono ?_
          rintro e w1 ⟨rfl, hB, _⟩
          have HG2 := hidb (Gr.step HG.out hB)
          clear hB c0 c1 c2
          obtain ⟨c0, c1, c2⟩ := HCL.out w1 HG2.out
          by_cases d2 : q < 0
          · have HE := hidb (HNO.out (fun h => by have : 0 ≤ q := h.2.1; omega))
            go_wp2
            go_ret
            exact ⟨by rw [HE.out]; rfl, HG2.out⟩
          · by_cases d3 : 4503599627370496 < q
            · have HE := hidb (HNO.out (fun h => by have : q ≤ 4503599627370496 := h.2.2; omega))
              go_wp2
              go_ret
              exact ⟨by rw [HE.out]; rfl, HG2.out⟩
            · have HE := hidb (HOK.out ⟨HD1.out, (show 0 ≤ q by omega), (show q ≤ 4503599627370496 by omega)⟩)
              go_wp2
              go_roundw
              case rel => exact ⟨k + 1, by omega, by go_num, HE.out, HG2.out⟩
              case measure => simp [intOf]; omega
        · rw [decide_eq_false d1] at HP
          have HE := hidb (HNO.out (fun h => d1 h.1))
          clear d1
          go_wp2_with fail
          refine (HP.out _).mono ?_
          rintro e w1 ⟨rfl, hB, _⟩
          have HG2 := hidb (Gr.step HG.out hB)
          clear hB c0 c1 c2
          obtain ⟨c0, c1, c2⟩ := HCL.out w1 HG2.out
          go_wp2
          go_ret
          exact ⟨by rw [HE.out]; rfl, HG2.out⟩
      · have HE : Hid (rcode l = 0) := by
          have ha := HK.out
          rw [List.take_of_length_le (by omega)] at ha
          unfold rcode Hid
          rw [if_neg c, if_pos ha]
        go_wp2
        go_ret
        exact ⟨by rw [HE.out]; rfl, HG.out⟩
end Go.Proofs.YtehkonddgiakaaaDoor
