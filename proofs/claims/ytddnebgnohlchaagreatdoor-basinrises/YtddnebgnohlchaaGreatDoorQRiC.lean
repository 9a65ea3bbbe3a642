/-
  mercatorref4.lower, Wet, at any height: just those cells are wet that are joined by cells not above it.
-/
import Derived.Test.YtddnebgnohlchaaGreatDoorQAlB
import Derived.Test.YtddnebgnohlchaaGreatDoorQJ14
namespace Go.Proofs.YtddnebgnohlchaaGreatDoor
open Go.RowKit
attribute [local go_sem ↓] Go.wp_at_zero Go.wp_at_succ

/-- Is a height below num/den, or as low, too? -/
def lwB (num den : Int) (too : Bool) (h : Int) : Bool := if too then decide (h * den ≤ num) else decide (h * den < num)
theorem lower_gen (h num den : Int) (too : Bool) (hh : hiI h) (hd : 1 ≤ den ∧ den ≤ 1048576) (w : World) : Calls Tryz.prog 40 #[.int .i64 h, .int .i64 num, .int .i64 den, .bool too] w fun e w' => e = .returned (.bool (lwB num den too h)) ∧ w' = w := by
  obtain ⟨x, hx, e1⟩ : ∃ x, x = h * den ∧ IntKind.i64.wrap (h * den) = x := by
    unfold hiI at hh
    have h1 := Int.mul_le_mul hh.2 hd.2 (by omega) (by omega)
    have h2 := Int.mul_le_mul (show -h ≤ 1048576 by omega) hd.2 (by omega) (by omega)
    rw [Int.neg_mul] at h2
    exact ⟨_, rfl, wrap_in (by omega) (by omega)⟩
  unfold lwB
  rw [← hx]
  clear hh hd hx
  cases too with
  | true =>
    show Calls Tryz.prog 40 #[.int .i64 h, .int .i64 num, .int .i64 den, .bool true] w fun e w' => e = .returned (.bool (decide (x ≤ num))) ∧ w' = w
    by_cases c : x ≤ num
    · rw [decide_eq_true c]
      go_enter Tryz.func40, Tryz.ntmps40
      go_wp2
      go_ret
      exact ⟨rfl, rfl⟩
    · rw [decide_eq_false c]
      go_enter Tryz.func40, Tryz.ntmps40
      go_wp2
      go_ret
      exact ⟨rfl, rfl⟩
  | false =>
    show Calls Tryz.prog 40 #[.int .i64 h, .int .i64 num, .int .i64 den, .bool false] w fun e w' => e = .returned (.bool (decide (x < num))) ∧ w' = w
    by_cases c : x < num
    · rw [decide_eq_true c]
      go_enter Tryz.func40, Tryz.ntmps40
      go_wp2
      go_ret
      exact ⟨rfl, rfl⟩
    · rw [decide_eq_false c]
      go_enter Tryz.func40, Tryz.ntmps40
      go_wp2
      go_ret
      exact ⟨rfl, rfl⟩
/-- Nothing more is to be made wet. -/
def Cls (m N : Nat) (l : List Int) (t : Int) (i : Nat) (L : List Bool) : Prop := ∀ i', i' < i → gl l i' ≤ t → glb L i' = true ∨ ∀ k, k < N → tch m i' k → glb L k = false
/-- What lies in memory, and what is wet so far. -/
structure WS2 (m n : Nat) (l : List Int) (t : Int) (c : Nat) (w W : World) (B : Nat) (L : List Bool) : Prop where
  d : At W B (br L)
  gr : Gr w W
  b : w.heap.size ≤ B
  len : L.length = l.length
  ok : ∀ k, glb L k = true → Rch m l t c k
  cw : gl l c ≤ t → glb L c = true
section
variable {m n : Nat} {l : List Int} {t : Int} {c : Nat} {w W : World} {B : Nat} {L : List Bool}
theorem WS2.below {w' : World} (h : WS2 m n l t c w W B L) (hB : Below W.heap.size W w') : WS2 m n l t c w w' B L := ⟨At.below hB h.d, Gr.step h.gr hB, h.b, h.len, h.ok, h.cw⟩
theorem WS2.put (h : WS2 m n l t c w W B L) {i : Nat} (hi : i < l.length) (hr : Rch m l t c i) : WS2 m n l t c w (W.setCell ⟨B, i, none⟩ (.bool true)) B (L.set i true) := by
  refine ⟨?_, h.gr.set h.b _ _, h.b, by rw [List.length_set]; exact h.len, fun k hk => ?_, fun hc => ?_⟩
  · rw [← br_set]; exact h.d.put i _
  · rw [glb_set (by rw [h.len]; exact hi)] at hk
    by_cases e : k = i
    · rw [e]; exact hr
    · rw [if_neg e] at hk; exact h.ok k hk
  · rw [glb_set (by rw [h.len]; exact hi)]
    split
    · rfl
    · exact h.cw hc
end
set_option maxRecDepth 4000 in
set_option maxHeartbeats 8000000 in
theorem wet_gen {m n pb po Lb Lo Lcap : Nat} {l : List Int} (c : Nat) (num den : Int) (too : Bool) (t : Int) (hd : 1 ≤ den ∧ den ≤ 1048576) (ht : ∀ h, lwB num den too h = decide (h ≤ t)) (hc : c < l.length) (w : World) (hp : PtR w pb po m n (.slice (some ⟨Lb, Lo, none⟩) l.length Lcap)) (hR : Rs w Lb Lo Lcap l) (ok : Ok l m n) : Calls Tryz.prog 19 #[.pointer (some ⟨pb, po, none⟩), .int .i64 (c : Int), .int .i64 num, .int .i64 den, .bool too] w fun e w' => ∃ B, e = .returned (.slice (some ⟨B, 0, none⟩) l.length l.length) ∧ ∃ L, WS2 m n l t c w w' B L ∧ ∀ k, glb L k = true ↔ Rch m l t c k := by
  have hlen := ok.len_le
  obtain ⟨CS, hCS, mk⟩ := made_runB l.length (by omega)
  have HLo := hidb (fun i W => lower_gen (gl l i) num den too (ok.hi i) hd W)
  have HTo := hidb (fun i k (hi : i < l.length) (hk : k < l.length) W (hG : Gr w W) => touchOf_any (pb := pb) (po := po) i k ok.m1 (by omega) (by omega) W (hp.below hG.out))
  have HPt := hidb (fun W (hG : Gr w W) => (hp.below hG.out).all)
  have HRs := hidb (fun W (hG : Gr w W) => hR.below hG.out)
  have HCS := hidb hCS
  have HL := hidb (show c < l.length ∧ l.length ≤ 16384 from ⟨hc, hlen⟩)
  obtain ⟨N, hN⟩ : ∃ N, N = l.length := ⟨_, rfl⟩
  have HN := hidb hN
  have Ht := hidb ht
  rw [← hN] at mk HPt HTo HL HCS ⊢
  have hcN : c < N := by omega
  clear hp hR ok hlen hCS hN hc ht hd
  go_enter Tryz.func19, Tryz.ntmps19
  obtain ⟨p0, p1, p2⟩ := HPt.out _ (Gr.refl w)
  have G0 := (Gr.refl w).alloc (.cells CS 4)
  have A0 : At (w.alloc (.cells CS 4)) w.heap.size (br (List.replicate N false)) := by rw [← HCS.out]; exact At.newArr _ _ _
  go_upto_region 2 with fail
  clear p0 p1 p2
  obtain ⟨B, hBd⟩ : ∃ B, B = w.heap.size := ⟨_, rfl⟩
  rw [← hBd] at A0 ⊢
  have HB := hidb (show w.heap.size ≤ B by omega)
  clear hBd mk HCS
  generalize w.alloc (.cells CS 4) = w1 at *
  obtain ⟨p0, p1, p2⟩ := HPt.out _ G0
  have ixL := iindex Lb Lo N Lcap c hcN
  have cL := (HRs.out _ G0).get (i := c) (by rw [← HN.out]; exact hcN)
  have ixB := bindex B N N c hcN
  obtain ⟨cB, fB⟩ := A0.getb (j := c) (by rw [List.length_replicate]; exact hcN)
  go_wp2_with fail
  refine (HLo.out c _).mono ?_
  rintro e w2 ⟨rfl, rfl⟩
  rw [Ht.out]
  -- how it begins
  have E0 : Hid (WS2 m n l t c w (w2.setCell ⟨B, c, none⟩ (.bool (decide (gl l c ≤ t)))) B ((List.replicate N false).set c (decide (gl l c ≤ t)))) := by
    refine ⟨?_, G0.set HB.out _ _, HB.out, by rw [List.length_set, List.length_replicate, HN.out], fun k hk => ?_, fun hlow => ?_⟩
    · rw [← br_set]; exact A0.put c _
    · rw [glb_set (by rw [List.length_replicate]; exact hcN)] at hk
      by_cases e : k = c
      · rw [if_pos e] at hk
        rw [e]
        exact .here (of_decide_eq_true hk) (by rw [← HN.out]; exact hcN)
      · rw [if_neg e] at hk
        have : glb (List.replicate N false) k = false := by unfold glb; rw [List.getD_eq_getElem?_getD, List.getElem?_replicate]; split <;> rfl
        rw [this] at hk
        cases hk
    · rw [glb_set (by rw [List.length_replicate]; exact hcN), if_pos rfl]
      exact decide_eq_true hlow
  have E1 : Hid (decide (gl l c ≤ t) = false → Cls m N l t N ((List.replicate N false).set c (decide (gl l c ≤ t)))) := by
    intro hb i' _ _
    refine .inr (fun k _ _ => ?_)
    rw [hb, glb_set (by rw [List.length_replicate]; exact hcN)]
    split
    · rfl
    · unfold glb; rw [List.getD_eq_getElem?_getD, List.getElem?_replicate]; split <;> rfl
  generalize decide (gl l c ≤ t) = b0 at *
  go_upto_region 3 with fail
  have cB2 : (w2.setCell ⟨B, c, none⟩ (.bool b0)).cell? ⟨B, c, none⟩ = some (.bool b0) := ((A0.put c (.bool b0)).1 c (by simp [br]; exact hcN)).1.trans (by simp)
  generalize w2.setCell ⟨B, c, none⟩ (.bool b0) = w3 at *
  generalize (List.replicate N false).set c b0 = L0 at *
  clear A0 G0 cB fB cL p0 p1 p2 ixL
  go_wp2
  clear cB2 ixB
  go_loopg [12] (2 * cf L0 + 1) (fun gk s wr => ∃ (b : Bool) (L : List Bool), s = .bool b ∧ Hid (WS2 m n l t c w wr B L ∧ 2 * cf L + (if b then 1 else 0) ≤ gk ∧ (b = false → Cls m N l t N L)))
  case atStart => exact ⟨b0, L0, rfl, hidb ⟨E0.out, by split <;> omega, E1.out⟩⟩
  case round =>
    clear E0 E1
    obtain ⟨b, L, rfl, E⟩ := hrel
    cases b with
    | false =>
      have hcl0 := hidb (E.out.2.2 rfl)
      go_wp2
      go_ret
      refine ⟨B, rfl, L, E.out.1, fun k => ⟨E.out.1.ok k, fun hk => ?_⟩⟩
      have hcl := hcl0.out
      induction hk with
      | here h1 _ => exact E.out.1.cw h1
      | @on a b hr hb hh ht ih =>
        rcases hcl b (by rw [HN.out]; exact hb) hh with h | h
        · exact h
        · have := h a (by rw [HN.out]; exact hr.le.2) ht
          rw [ih] at this
          cases this
    | true =>
      have HC := hidb (show 2 * cf L + 1 ≤ gk from E.out.2.1)
      have E1 := hidb E.out.1
      obtain ⟨C0, hC0⟩ : ∃ C, C = cf L := ⟨_, rfl⟩
      rw [← hC0] at HC
      have HC0 := hidb hC0
      clear E hC0
      go_wp2
      go_loopw [12, 13] (fun s tt wr => ∃ (b : Bool) (i : Nat) (L : List Bool), i ≤ N ∧ s = .bool b ∧ tt = .int .i64 (i : Int) ∧ Hid (WS2 m n l t c w wr B L ∧ cf L ≤ C0 ∧ (b = true → cf L < C0) ∧ (b = false → Cls m N l t i L))) (fun _ t _ => N - (intOf t).toNat)
      case atStart => exact ⟨false, 0, L, Nat.zero_le _, rfl, rfl, hidb ⟨E1.out, Nat.le_of_eq HC0.out.symm, (fun h => by cases h), fun _ i' h => absurd h (Nat.not_lt_zero _)⟩⟩
      case round =>
        clear E1 HC0
        obtain ⟨b, i, L, hi, rfl, rfl, E⟩ := hrel
        obtain ⟨p0, p1, p2⟩ := HPt.out _ E.out.1.gr
        by_cases h1 : ¬ i < N
        · have h1' : ¬ (i : Int) < (N : Int) := by omega
          clear h1
          go_wp2
          go_roundg (2 * cf L + (if b then 1 else 0))
          case measure =>
            have k1 := HC.out
            have k2 := E.out.2.1
            have k3 := E.out.2.2.1
            cases b with
            | false => simp; omega
            | true => have := k3 rfl; simp; omega
          case rel => exact ⟨b, L, rfl, hidb ⟨E.out.1, Nat.le_refl _, fun hb i' hi' => E.out.2.2.2 hb i' (by omega)⟩⟩
        · have h1' : (i : Int) < (N : Int) := by omega
          have hiN : i < N := by omega
          have HiN := hidb hiN
          have hil : i < l.length := by rw [← HN.out]; exact hiN
          have e1 : IntKind.i64.wrap ((i : Int) + 1) = ((i + 1 : Nat) : Int) := by rw [show (i : Int) + 1 = ((i + 1 : Nat) : Int) by omega]; exact wrap_in (by have := HL.out; omega) (by have := HL.out; omega)
          have HE1 := hidb e1
          have ixL := iindex Lb Lo N Lcap i hiN
          have cL := (HRs.out _ E.out.1.gr).get hil
          have ixB := bindex B N N i hiN
          obtain ⟨cB, fB⟩ := E.out.1.d.getb (j := i) (by rw [E.out.1.len]; exact hil)
          have HLi := hidb (HLo.out i)
          have HGi := hidb (show gl l i ≤ t ∨ ¬ gl l i ≤ t from Classical.em _)
          clear h1 hiN
          go_wp2_with fail
          refine (HLi.out _).mono ?_
          rintro e w4 ⟨rfl, rfl⟩
          rw [Ht.out]
          cases hb : glb L i with
          | true =>
            rw [hb] at cB
            have HCl : Hid (b = false → Cls m N l t (i + 1) L) := fun h0 i' hi' hlw => by
              by_cases e : i' = i
              · rw [e]; exact .inl hb
              · exact E.out.2.2.2 h0 i' (by omega) hlw
            clear hb hil
            go_wp2
            go_roundw
            case rel => exact ⟨b, i + 1, L, HiN.out, rfl, by go_num, hidb ⟨E.out.1, E.out.2.1, E.out.2.2.1, HCl.out⟩⟩
            case measure => have := HiN.out; simp [intOf]; omega
          | false =>
            rw [hb] at cB
            by_cases hlow : gl l i ≤ t
            · rw [decide_eq_true hlow]
              have HIl := hidb (show i < l.length ∧ gl l i ≤ t from ⟨hil, hlow⟩)
              have HB0 := hidb hb
              clear hb hil hlow cL p0 p1 p2 ixL e1
              go_wp2
              clear cB fB
              go_loopw [12, 15] (fun s tt wr => ∃ (b : Bool) (k : Nat) (L : List Bool), k ≤ N ∧ s = .bool b ∧ tt = .int .i64 (k : Int) ∧ Hid (WS2 m n l t c w wr B L ∧ cf L ≤ C0 ∧ (b = true → cf L < C0) ∧ (b = false → (glb L i = false ∧ Cls m N l t i L) ∧ ∀ k', k' < k → tch m i k' → glb L k' = false))) (fun _ t _ => N - (intOf t).toNat)
              case atStart => exact ⟨b, 0, L, Nat.zero_le _, rfl, rfl, hidb ⟨E.out.1, E.out.2.1, E.out.2.2.1, fun h0 => ⟨⟨HB0.out, E.out.2.2.2 h0⟩, fun k' hk' => absurd hk' (Nat.not_lt_zero _)⟩⟩⟩
              case round =>
                clear E
                obtain ⟨b, k, L, hk, rfl, rfl, E⟩ := hrel
                obtain ⟨p0, p1, p2⟩ := HPt.out _ E.out.1.gr
                by_cases h2 : ¬ k < N
                · have h2' : ¬ (k : Int) < (N : Int) := by omega
                  have e1 := HE1.out
                  have HCl : Hid (b = false → Cls m N l t (i + 1) L) := fun h0 i' hi' hlw => by
                    by_cases e : i' = i
                    · rw [e]; exact .inr (fun k' hk' => (E.out.2.2.2 h0).2 k' (by omega))
                    · exact (E.out.2.2.2 h0).1.2 i' (by omega) hlw
                  clear h2
                  go_wp2
                  go_roundw
                  case rel => exact ⟨b, i + 1, L, HiN.out, rfl, by go_num, hidb ⟨E.out.1, E.out.2.1, E.out.2.2.1, HCl.out⟩⟩
                  case measure => have := HiN.out; simp [intOf]; omega
                · have h2' : (k : Int) < (N : Int) := by omega
                  have hkN : k < N := by omega
                  have HkN := hidb hkN
                  have e2 : IntKind.i64.wrap ((k : Int) + 1) = ((k + 1 : Nat) : Int) := by rw [show (k : Int) + 1 = ((k + 1 : Nat) : Int) by omega]; exact wrap_in (by have := HL.out; omega) (by have := HL.out; omega)
                  have ixK := bindex B N N k hkN
                  have HT := hidb (HTo.out i k HiN.out hkN _ E.out.1.gr)
                  by_cases ht : tch m i k
                  · rw [decide_eq_true ht] at HT
                    clear h2 hkN
                    go_wp2_with fail
                    refine HT.out.mono ?_
                    rintro e w5 ⟨rfl, hB5⟩
                    replace E := hidb (show WS2 m n l t c w w5 B L ∧ cf L ≤ C0 ∧ (b = true → cf L < C0) ∧ (b = false → (glb L i = false ∧ Cls m N l t i L) ∧ ∀ k', k' < k → tch m i k' → glb L k' = false) from ⟨E.out.1.below hB5.out, E.out.2⟩)
                    obtain ⟨cK, fK⟩ := E.out.1.d.getb (j := k) (by rw [E.out.1.len, ← HN.out]; exact HkN.out)
                    obtain ⟨cI, fI⟩ := E.out.1.d.getb (j := i) (by rw [E.out.1.len]; exact HIl.out.1)
                    clear hB5 p0 p1 p2 HT
                    cases hbk : glb L k with
                    | false =>
                      rw [hbk] at cK
                      have HCl : Hid (b = false → (glb L i = false ∧ Cls m N l t i L) ∧ ∀ k', k' < k + 1 → tch m i k' → glb L k' = false) := fun h0 => ⟨(E.out.2.2.2 h0).1, fun k' hk' htt => by
                        by_cases e : k' = k
                        · rw [e]; exact hbk
                        · exact (E.out.2.2.2 h0).2 k' (by omega) htt⟩
                      clear hbk ht
                      go_wp2
                      go_roundw
                      case rel => exact ⟨b, k + 1, L, HkN.out, rfl, by go_num, hidb ⟨E.out.1, E.out.2.1, E.out.2.2.1, HCl.out⟩⟩
                      case measure => have := HkN.out; simp [intOf]; omega
                    | true =>
                      rw [hbk] at cK
                      cases hbi : glb L i with
                      | true =>
                        rw [hbi] at cI
                        have HBt : Hid (b = true ∧ WS2 m n l t c w w5 B L ∧ cf L ≤ C0 ∧ (b = true → cf L < C0)) := by
                          refine ⟨?_, E.out.1, E.out.2.1, E.out.2.2.1⟩
                          cases b with
                          | true => rfl
                          | false => have := (E.out.2.2.2 rfl).1.1; rw [hbi] at this; cases this
                        clear hbk hbi ht E
                        go_wp2
                        go_roundw
                        case rel => exact ⟨b, k + 1, L, HkN.out, rfl, by go_num, hidb ⟨HBt.out.2.1, HBt.out.2.2.1, HBt.out.2.2.2, fun h0 => by have := HBt.out.1; rw [h0] at this; cases this⟩⟩
                        case measure => have := HkN.out; simp [intOf]; omega
                      | false =>
                        rw [hbi] at cI
                        have HE2 := hidb (E.out.1.put HIl.out.1 (.on (E.out.1.ok k hbk) HIl.out.1 HIl.out.2 ht))
                        have HCf := hidb (cf_set (l := L) (i := i) (by rw [E.out.1.len]; exact HIl.out.1) hbi)
                        have HEc := hidb E.out.2.1
                        clear hbk hbi ht E
                        go_wp2
                        go_roundw
                        case rel => exact ⟨true, k + 1, _, HkN.out, rfl, by go_num, hidb ⟨HE2.out, by have := HCf.out; have := HEc.out; omega, fun _ => by have := HCf.out; have := HEc.out; omega, fun h0 => by cases h0⟩⟩
                        case measure => have := HkN.out; simp [intOf]; omega
                  · rw [decide_eq_false ht] at HT
                    have Hnt := hidb ht
                    clear h2 hkN ht
                    go_wp2_with fail
                    refine HT.out.mono ?_
                    rintro e w5 ⟨rfl, hB5⟩
                    replace E := hidb (show WS2 m n l t c w w5 B L ∧ cf L ≤ C0 ∧ (b = true → cf L < C0) ∧ (b = false → (glb L i = false ∧ Cls m N l t i L) ∧ ∀ k', k' < k → tch m i k' → glb L k' = false) from ⟨E.out.1.below hB5.out, E.out.2⟩)
                    clear hB5 p0 p1 p2 HT
                    have HCl : Hid (b = false → (glb L i = false ∧ Cls m N l t i L) ∧ ∀ k', k' < k + 1 → tch m i k' → glb L k' = false) := fun h0 => ⟨(E.out.2.2.2 h0).1, fun k' hk' htt => by
                      by_cases e : k' = k
                      · rw [e] at htt; exact absurd htt Hnt.out
                      · exact (E.out.2.2.2 h0).2 k' (by omega) htt⟩
                    go_wp2
                    go_roundw
                    case rel => exact ⟨b, k + 1, L, HkN.out, rfl, by go_num, hidb ⟨E.out.1, E.out.2.1, E.out.2.2.1, HCl.out⟩⟩
                    case measure => have := HkN.out; simp [intOf]; omega
            · rw [decide_eq_false hlow]
              have HCl : Hid (b = false → Cls m N l t (i + 1) L) := fun h0 i' hi' hlw => by
                by_cases e : i' = i
                · rw [e] at hlw; exact absurd hlw hlow
                · exact E.out.2.2.2 h0 i' (by omega) hlw
              clear hb hil hlow
              go_wp2
              go_roundw
              case rel => exact ⟨b, i + 1, L, HiN.out, rfl, by go_num, hidb ⟨E.out.1, E.out.2.1, E.out.2.2.1, HCl.out⟩⟩
              case measure => have := HiN.out; simp [intOf]; omega
end Go.Proofs.YtddnebgnohlchaaGreatDoor
