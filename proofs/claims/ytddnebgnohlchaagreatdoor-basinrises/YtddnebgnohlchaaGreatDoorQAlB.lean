/-
  mercatorref4.lower, Wet: where a height is told as a whole number: what is wet is joined by cells that are not above it.
-/
import Derived.Test.YtddnebgnohlchaaGreatDoorQJ13
import Derived.Test.YtddnebgnohlchaaGreatDoorQDrT
import Derived.Test.YtddnebgnohlchaaGreatDoorQJ12
namespace Go.Proofs.YtddnebgnohlchaaGreatDoor
open Go.RowKit
attribute [local go_sem ↓] Go.wp_at_zero Go.wp_at_succ

abbrev br (l : List Bool) : List Value := l.map Value.bool
def glb (l : List Bool) (i : Nat) : Bool := l.getD i false
theorem glb_get {l : List Bool} {i : Nat} (h : i < l.length) : l[i] = glb l i := by unfold glb; simp [h]
theorem infoB : (Tryz.prog.info? 4).map (fun i => (i.zero, i.size, i.bytes)) = some (some (.bool false), 1, 1) := by kernel_rfl
theorem undB : Tryz.prog.underlying 54 = some (.slice 4) := by kernel_rfl
theorem made_runB (K : Nat) (hK : K ≤ 20000) : ∃ CS : Array Value, CS.toList = br (List.replicate K false) ∧ ∀ w, (Instr.makeSlice 54 (.int .i64 (K : Int)) (.int .i64 (K : Int))).run Tryz.prog w = .ok (.slice (some ⟨w.heap.size, 0, none⟩) K K) (w.alloc (.cells CS 4)) := by
  obtain ⟨i0, hi, hz0, hz1, hz2⟩ := info_parts infoB
  refine ⟨madeCells #[Value.bool false] K, by rw [toList_madeCells_one]; simp [br], fun w => ?_⟩
  have := run_makeSlice (P := Tryz.prog) w 54 4 i0 (.bool false) undB hi hz0 .i64 .i64 (K : Int) (K : Int) (by omega) (Int.le_refl _) (by rw [hz1]; omega) (by rw [hz2]; omega) (by omega)
  rw [hz1, Int.toNat_natCast, Nat.mul_one] at this
  exact this
theorem bindex (b n cap k : Nat) (hk : k < n) (w : World) : (Instr.indexAt 54 (.slice (some ⟨b, 0, none⟩) n cap) (.int .i64 k)).run Tryz.prog w = .ok (.pointer (some ⟨b, k, none⟩)) w := by
  have hu : Tryz.prog.underlying 54 = some (.slice (Tryz.prog.elem 54)) := by kernel_rfl
  refine (run_indexAt_slice (P := Tryz.prog) (w := w) 54 ⟨b, 0, none⟩ n cap .i64 (k : Int) hu).trans ?_
  rw [if_pos ⟨by omega, by omega⟩]
  have hs : (sizeOf (Tryz.prog.elem 54)).run Tryz.prog w = .ok 1 w := by kernel_rfl
  rw [hs]
  simp [Addr.add]
  intro h; omega
theorem At.getb {W : World} {B : Nat} {L : List Bool} (h : At W B (br L)) {j : Nat} (hj : j < L.length) : W.cell? ⟨B, j, none⟩ = some (.bool (glb L j)) ∧ W.frozen? ⟨B, j, none⟩ = false := by
  have := h.1 j (by simpa [br] using hj)
  rw [← glb_get hj]
  simpa [br] using this
theorem br_set (L : List Bool) (i : Nat) (x : Bool) : (br L).set i (.bool x) = br (L.set i x) := by simp [br]
theorem lower_any (h num : Int) (hh : -9223372036854775808 ≤ h ∧ h ≤ 9223372036854775807) (w : World) : Calls Tryz.prog 40 #[.int .i64 h, .int .i64 num, .int .i64 1, .bool true] w fun e w' => e = .returned (.bool (decide (h ≤ num))) ∧ w' = w := by
  have e1 : IntKind.i64.wrap (h * 1) = h := by rw [Int.mul_one]; exact wrap_in (by omega) (by omega)
  have e2 : IntKind.i64.wrap h = h := wrap_in (by omega) (by omega)
  clear hh
  by_cases c : h ≤ num
  · go_enter Tryz.func40, Tryz.ntmps40
    go_wp2
    go_ret
    exact ⟨by rw [decide_eq_true c]; rfl, rfl⟩
  · go_enter Tryz.func40, Tryz.ntmps40
    go_wp2
    go_ret
    exact ⟨by rw [show decide (h ≤ num) = false from decide_eq_false (by omega)]; rfl, rfl⟩
/-- How many are not wet. -/
def cf : List Bool → Nat
  | [] => 0
  | b :: l => cf l + if b then 0 else 1
theorem cf_set : ∀ {l : List Bool} {i : Nat}, i < l.length → glb l i = false → cf (l.set i true) + 1 = cf l
  | b :: l, 0, _, h => by
    have : b = false := h
    subst this
    show cf l + 0 + 1 = cf l + 1
    omega
  | b :: l, i + 1, hi, h => by
    have ih := cf_set (l := l) (i := i) (by simp at hi; omega) h
    show cf (l.set i true) + (if b then 0 else 1) + 1 = cf l + (if b then 0 else 1)
    omega
theorem glb_set {L : List Bool} {i : Nat} (h : i < L.length) (x : Bool) (k : Nat) : glb (L.set i x) k = if k = i then x else glb L k := by
  unfold glb
  by_cases e : k = i
  · subst e; simp [h]
  · rw [if_neg e]
    simp [List.getElem?_set_ne (Ne.symm e)]
/-- What lies in memory, and what is wet so far. -/
structure WS (m n : Nat) (l : List Int) (num : Int) (c : Nat) (w W : World) (B : Nat) (L : List Bool) : Prop where
  d : At W B (br L)
  gr : Gr w W
  b : w.heap.size ≤ B
  len : L.length = l.length
  ok : ∀ k, glb L k = true → Rch m l num c k
section
variable {m n : Nat} {l : List Int} {num : Int} {c : Nat} {w W : World} {B : Nat} {L : List Bool}
theorem WS.below {w' : World} (h : WS m n l num c w W B L) (hB : Below W.heap.size W w') : WS m n l num c w w' B L := ⟨At.below hB h.d, Gr.step h.gr hB, h.b, h.len, h.ok⟩
theorem WS.put (h : WS m n l num c w W B L) {i : Nat} (hi : i < l.length) (hr : Rch m l num c i) : WS m n l num c w (W.setCell ⟨B, i, none⟩ (.bool true)) B (L.set i true) := by
  refine ⟨?_, h.gr.set h.b _ _, h.b, by rw [List.length_set]; exact h.len, fun k hk => ?_⟩
  · rw [← br_set]; exact h.d.put i _
  · rw [glb_set (by rw [h.len]; exact hi)] at hk
    by_cases e : k = i
    · rw [e]; exact hr
    · rw [if_neg e] at hk; exact h.ok k hk
end
set_option maxRecDepth 4000 in
set_option maxHeartbeats 8000000 in
theorem wet_any {m n pb po Lb Lo Lcap : Nat} {l : List Int} (c : Nat) (num : Int) (hc : c < l.length) (w : World) (hp : PtR w pb po m n (.slice (some ⟨Lb, Lo, none⟩) l.length Lcap)) (hR : Rs w Lb Lo Lcap l) (ok : Ok l m n) : Calls Tryz.prog 19 #[.pointer (some ⟨pb, po, none⟩), .int .i64 (c : Int), .int .i64 num, .int .i64 1, .bool true] w fun e w' => ∃ B, e = .returned (.slice (some ⟨B, 0, none⟩) l.length l.length) ∧ ∃ L, WS m n l num c w w' B L := by
  have hlen := ok.len_le
  obtain ⟨CS, hCS, mk⟩ := made_runB l.length (by omega)
  have hhi : ∀ i, -9223372036854775808 ≤ gl l i ∧ gl l i ≤ 9223372036854775807 := fun i => by have := ok.hi i; unfold hiI at this; omega
  have HLo := hidb (fun i W => lower_any (gl l i) num (hhi i) W)
  have HTo := hidb (fun i k (hi : i < l.length) (hk : k < l.length) W (hG : Gr w W) => touchOf_any (pb := pb) (po := po) i k ok.m1 (by omega) (by omega) W (hp.below hG.out))
  have HPt := hidb (fun W (hG : Gr w W) => (hp.below hG.out).all)
  have HRs := hidb (fun W (hG : Gr w W) => hR.below hG.out)
  have HCS := hidb hCS
  have HL := hidb (show c < l.length ∧ l.length ≤ 16384 from ⟨hc, hlen⟩)
  obtain ⟨N, hN⟩ : ∃ N, N = l.length := ⟨_, rfl⟩
  have HN := hidb hN
  rw [← hN] at mk HPt HTo HL HCS ⊢
  have hcN : c < N := by omega
  clear hp hR ok hlen hCS hhi hN hc
  go_enter Tryz.func19, Tryz.ntmps19
  obtain ⟨p0, p1, p2⟩ := HPt.out _ (Gr.refl w)
  have G0 := (Gr.refl w).alloc (.cells CS 4)
  have A0 : At (w.alloc (.cells CS 4)) w.heap.size (br (List.replicate N false)) := by rw [← HCS.out]; exact At.newArr _ _ _
  go_upto_region 2 with fail
  clear p0 p1 p2
  obtain ⟨B, hBd⟩ : ∃ B, B = w.heap.size := ⟨_, rfl⟩
  rw [← hBd] at A0 ⊢
  have HB := hidb (show w.heap.size ≤ B by omega)
  clear hBd mk HCS
  generalize w.alloc (.cells CS 4) = w1 at *
  obtain ⟨p0, p1, p2⟩ := HPt.out _ G0
  have ixL := iindex Lb Lo N Lcap c hcN
  have cL := (HRs.out _ G0).get (i := c) (by rw [← HN.out]; exact hcN)
  have ixB := bindex B N N c hcN
  obtain ⟨cB, fB⟩ := A0.getb (j := c) (by rw [List.length_replicate]; exact hcN)
  go_wp2_with fail
  refine (HLo.out c _).mono ?_
  rintro e w2 ⟨rfl, rfl⟩
  -- how it begins
  have E0 : Hid (WS m n l num c w (w2.setCell ⟨B, c, none⟩ (.bool (decide (gl l c ≤ num)))) B ((List.replicate N false).set c (decide (gl l c ≤ num)))) := by
    refine ⟨?_, G0.set HB.out _ _, HB.out, by rw [List.length_set, List.length_replicate, HN.out], fun k hk => ?_⟩
    · rw [← br_set]; exact A0.put c _
    · rw [glb_set (by rw [List.length_replicate]; exact hcN)] at hk
      by_cases e : k = c
      · rw [if_pos e] at hk
        rw [e]
        exact .here (of_decide_eq_true hk) (by rw [← HN.out]; exact hcN)
      · rw [if_neg e] at hk
        have : glb (List.replicate N false) k = false := by unfold glb; rw [List.getD_eq_getElem?_getD, List.getElem?_replicate]; split <;> rfl
        rw [this] at hk
        cases hk
  generalize decide (gl l c ≤ num) = b0 at *
  go_upto_region 3 with fail
  have cB2 : (w2.setCell ⟨B, c, none⟩ (.bool b0)).cell? ⟨B, c, none⟩ = some (.bool b0) := ((A0.put c (.bool b0)).1 c (by simp [br]; exact hcN)).1.trans (by simp)
  generalize w2.setCell ⟨B, c, none⟩ (.bool b0) = w3 at *
  generalize (List.replicate N false).set c b0 = L0 at *
  clear A0 G0 cB fB cL p0 p1 p2 ixL
  go_wp2
  clear cB2 ixB
  go_loopg [12] (2 * cf L0 + 1) (fun gk s wr => ∃ (b : Bool) (L : List Bool), s = .bool b ∧ Hid (WS m n l num c w wr B L ∧ 2 * cf L + (if b then 1 else 0) ≤ gk))
  case atStart => exact ⟨b0, L0, rfl, hidb ⟨E0.out, by split <;> omega⟩⟩
  case round =>
    clear E0
    obtain ⟨b, L, rfl, E⟩ := hrel
    cases b with
    | false =>
      go_wp2
      go_ret
      exact ⟨B, rfl, L, E.out.1⟩
    | true =>
      have HC := hidb (show 2 * cf L + 1 ≤ gk from E.out.2)
      have E1 := hidb E.out.1
      obtain ⟨C0, hC0⟩ : ∃ C, C = cf L := ⟨_, rfl⟩
      rw [← hC0] at HC
      have HC0 := hidb hC0
      clear E hC0
      go_wp2
      go_loopw [12, 13] (fun s t wr => ∃ (b : Bool) (i : Nat) (L : List Bool), i ≤ N ∧ s = .bool b ∧ t = .int .i64 (i : Int) ∧ Hid (WS m n l num c w wr B L ∧ cf L ≤ C0 ∧ (b = true → cf L < C0))) (fun _ t _ => N - (intOf t).toNat)
      case atStart => exact ⟨false, 0, L, Nat.zero_le _, rfl, rfl, hidb ⟨E1.out, Nat.le_of_eq HC0.out.symm, fun h => by cases h⟩⟩
      case round =>
        clear E1 HC0
        obtain ⟨b, i, L, hi, rfl, rfl, E⟩ := hrel
        obtain ⟨p0, p1, p2⟩ := HPt.out _ E.out.1.gr
        by_cases h1 : ¬ i < N
        · have h1' : ¬ (i : Int) < (N : Int) := by omega
          clear h1
          go_wp2
          go_roundg (2 * cf L + (if b then 1 else 0))
          case measure =>
            have k1 := HC.out
            have k2 := E.out.2.1
            have k3 := E.out.2.2
            cases b with
            | false => simp; omega
            | true => have := k3 rfl; simp; omega
          case rel => exact ⟨b, L, rfl, hidb ⟨E.out.1, Nat.le_refl _⟩⟩
        · have h1' : (i : Int) < (N : Int) := by omega
          have hiN : i < N := by omega
          have HiN := hidb hiN
          have hil : i < l.length := by rw [← HN.out]; exact hiN
          have e1 : IntKind.i64.wrap ((i : Int) + 1) = ((i + 1 : Nat) : Int) := by rw [show (i : Int) + 1 = ((i + 1 : Nat) : Int) by omega]; exact wrap_in (by have := HL.out; omega) (by have := HL.out; omega)
          have HE1 := hidb e1
          have ixL := iindex Lb Lo N Lcap i hiN
          have cL := (HRs.out _ E.out.1.gr).get hil
          have ixB := bindex B N N i hiN
          obtain ⟨cB, fB⟩ := E.out.1.d.getb (j := i) (by rw [E.out.1.len]; exact hil)
          have HLi := hidb (HLo.out i)
          have HGi := hidb (show gl l i ≤ num ∨ ¬ gl l i ≤ num from Classical.em _)
          clear h1 hiN
          go_wp2_with fail
          refine (HLi.out _).mono ?_
          rintro e w4 ⟨rfl, rfl⟩
          cases hb : glb L i with
          | true =>
            rw [hb] at cB
            clear hb hil
            go_wp2
            go_roundw
            case rel => exact ⟨b, i + 1, L, HiN.out, rfl, by go_num, E⟩
            case measure => have := HiN.out; simp [intOf]; omega
          | false =>
            rw [hb] at cB
            by_cases hlow : gl l i ≤ num
            · rw [decide_eq_true hlow]
              have HIl := hidb (show i < l.length ∧ gl l i ≤ num from ⟨hil, hlow⟩)
              clear hb hil hlow cL p0 p1 p2 ixL e1
              go_wp2
              clear cB fB
              go_loopw [12, 15] (fun s t wr => ∃ (b : Bool) (k : Nat) (L : List Bool), k ≤ N ∧ s = .bool b ∧ t = .int .i64 (k : Int) ∧ Hid (WS m n l num c w wr B L ∧ cf L ≤ C0 ∧ (b = true → cf L < C0))) (fun _ t _ => N - (intOf t).toNat)
              case atStart => exact ⟨b, 0, L, Nat.zero_le _, rfl, rfl, E⟩
              case round =>
                clear E
                obtain ⟨b, k, L, hk, rfl, rfl, E⟩ := hrel
                obtain ⟨p0, p1, p2⟩ := HPt.out _ E.out.1.gr
                by_cases h2 : ¬ k < N
                · have h2' : ¬ (k : Int) < (N : Int) := by omega
                  have e1 := HE1.out
                  clear h2
                  go_wp2
                  go_roundw
                  case rel => exact ⟨b, i + 1, L, HiN.out, rfl, by go_num, E⟩
                  case measure => have := HiN.out; simp [intOf]; omega
                · have h2' : (k : Int) < (N : Int) := by omega
                  have hkN : k < N := by omega
                  have HkN := hidb hkN
                  have e2 : IntKind.i64.wrap ((k : Int) + 1) = ((k + 1 : Nat) : Int) := by rw [show (k : Int) + 1 = ((k + 1 : Nat) : Int) by omega]; exact wrap_in (by have := HL.out; omega) (by have := HL.out; omega)
                  have ixK := bindex B N N k hkN
                  have HT := hidb (HTo.out i k HiN.out hkN _ E.out.1.gr)
                  by_cases ht : tch m i k
                  · rw [decide_eq_true ht] at HT
                    clear h2 hkN
                    go_wp2_with fail
                    refine HT.out.mono ?_
                    rintro e w5 ⟨rfl, hB5⟩
                    replace E := hidb (show WS m n l num c w w5 B L ∧ cf L ≤ C0 ∧ (b = true → cf L < C0) from ⟨E.out.1.below hB5.out, E.out.2⟩)
                    obtain ⟨cK, fK⟩ := E.out.1.d.getb (j := k) (by rw [E.out.1.len, ← HN.out]; exact HkN.out)
                    obtain ⟨cI, fI⟩ := E.out.1.d.getb (j := i) (by rw [E.out.1.len]; exact HIl.out.1)
                    clear hB5 p0 p1 p2 HT
                    cases hbk : glb L k with
                    | false =>
                      rw [hbk] at cK
                      clear hbk ht
                      go_wp2
                      go_roundw
                      case rel => exact ⟨b, k + 1, L, HkN.out, rfl, by go_num, E⟩
                      case measure => have := HkN.out; simp [intOf]; omega
                    | true =>
                      rw [hbk] at cK
                      cases hbi : glb L i with
                      | true =>
                        rw [hbi] at cI
                        clear hbk hbi ht
                        go_wp2
                        go_roundw
                        case rel => exact ⟨b, k + 1, L, HkN.out, rfl, by go_num, E⟩
                        case measure => have := HkN.out; simp [intOf]; omega
                      | false =>
                        rw [hbi] at cI
                        have HE2 := hidb (E.out.1.put HIl.out.1 (.on (E.out.1.ok k hbk) HIl.out.1 HIl.out.2 ht))
                        have HCf := hidb (cf_set (l := L) (i := i) (by rw [E.out.1.len]; exact HIl.out.1) hbi)
                        have HEc := hidb E.out.2.1
                        clear hbk hbi ht E
                        go_wp2
                        go_roundw
                        case rel => exact ⟨true, k + 1, _, HkN.out, rfl, by go_num, hidb ⟨HE2.out, by have := HCf.out; have := HEc.out; omega, fun _ => by have := HCf.out; have := HEc.out; omega⟩⟩
                        case measure => have := HkN.out; simp [intOf]; omega
                  · rw [decide_eq_false ht] at HT
                    clear h2 hkN ht
                    go_wp2_with fail
                    refine HT.out.mono ?_
                    rintro e w5 ⟨rfl, hB5⟩
                    replace E := hidb (show WS m n l num c w w5 B L ∧ cf L ≤ C0 ∧ (b = true → cf L < C0) from ⟨E.out.1.below hB5.out, E.out.2⟩)
                    clear hB5 p0 p1 p2 HT
                    go_wp2
                    go_roundw
                    case rel => exact ⟨b, k + 1, L, HkN.out, rfl, by go_num, E⟩
                    case measure => have := HkN.out; simp [intOf]; omega
            · rw [decide_eq_false hlow]
              clear hb hil hlow
              go_wp2
              go_roundw
              case rel => exact ⟨b, i + 1, L, HiN.out, rfl, by go_num, E⟩
              case measure => have := HiN.out; simp [intOf]; omega
end Go.Proofs.YtddnebgnohlchaaGreatDoor
