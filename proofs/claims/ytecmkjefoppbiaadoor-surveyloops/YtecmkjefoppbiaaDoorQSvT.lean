/-
  mercatorref3.Reached.
-/
import Derived.Test.YtecmkjefoppbiaaDoorQSvS
import Derived.Test.YtecmkjefoppbiaaDoorQJ15
namespace Go.Proofs.YtecmkjefoppbiaaDoor
open Go.RowKit
attribute [local go_sem ↓] Go.wp_at_zero Go.wp_at_succ

/-- A survey that a pointer points to. -/
structure SIn (w : World) (pb po : Nat) (M B : Int) (ad : Option Addr) (b o cap : Nat) (l : List Sn) : Prop where
  pt : PtR w pb po M B (.slice ad l.length cap)
  sl : SeL 24 w ad b o cap l
theorem SIn.below {w w' : World} {pb po : Nat} {M B : Int} {ad : Option Addr} {b o cap : Nat} {l : List Sn} (h : SIn w pb po M B ad b o cap l) (hB : Gr w w') : SIn w' pb po M B ad b o cap l := ⟨h.pt.below hB.out, h.sl.below hB.out⟩
abbrev brL (l : List Bool) : List Value := l.map Value.bool
theorem infoBo : (Tryd.prog.info? 4).map (fun i => (i.zero, i.size, i.bytes)) = some (some (.bool false), 1, 1) := by kernel_rfl
theorem undBo : Tryd.prog.underlying 74 = some (.slice 4) := by kernel_rfl
theorem made_runBo (K : Nat) (hK : K ≤ 20000) : ∃ CS : Array Value, CS.toList = brL (List.replicate K false) ∧ ∀ w, (Instr.makeSlice 74 (.int .i64 (K : Int)) (.int .i64 (K : Int))).run Tryd.prog w = .ok (.slice (some ⟨w.heap.size, 0, none⟩) K K) (w.alloc (.cells CS 4)) := by
  obtain ⟨i0, hi, hz0, hz1, hz2⟩ := info_parts infoBo
  refine ⟨madeCells #[Value.bool false] K, by rw [toList_madeCells_one]; simp [brL], fun w => ?_⟩
  have := run_makeSlice (P := Tryd.prog) w 74 4 i0 (.bool false) undBo hi hz0 .i64 .i64 (K : Int) (K : Int) (by omega) (Int.le_refl _) (by rw [hz1]; omega) (by rw [hz2]; omega) (by omega)
  rw [hz1, Int.toNat_natCast, Nat.mul_one] at this
  exact this
theorem boindex (b n cap k : Nat) (hk : k < n) (w : World) : (Instr.indexAt 74 (.slice (some ⟨b, 0, none⟩) n cap) (.int .i64 k)).run Tryd.prog w = .ok (.pointer (some ⟨b, k, none⟩)) w := by
  have hu : Tryd.prog.underlying 74 = some (.slice (Tryd.prog.elem 74)) := by kernel_rfl
  refine (run_indexAt_slice (P := Tryd.prog) (w := w) 74 ⟨b, 0, none⟩ n cap .i64 (k : Int) hu).trans ?_
  rw [if_pos ⟨by omega, by omega⟩]
  have hs : (sizeOf (Tryd.prog.elem 74)).run Tryd.prog w = .ok 1 w := by kernel_rfl
  rw [hs]
  simp [Addr.add]
  intro h; omega
theorem At.bo {W : World} {B : Nat} {L : List Bool} (h : At W B (brL L)) {j : Nat} (hj : j < L.length) : W.cell? ⟨B, j, none⟩ = some (.bool (onX L j)) ∧ W.frozen? ⟨B, j, none⟩ = false := by
  have := h.1 j (by simpa [brL] using hj)
  simpa [brL, onX, hj] using this
theorem At.putb {W : World} {B : Nat} {L : List Bool} (h : At W B (brL L)) (j : Nat) (x : Bool) : At (W.setCell ⟨B, j, none⟩ (.bool x)) B (brL (L.set j x)) := by
  have := h.put j (.bool x)
  rwa [show (brL L).set j (.bool x) = brL (L.set j x) by simp [brL]] at this
/-- Is each mark joined to mark 0? -/
noncomputable def reB (E : List Ed) (wo : Int) (M : Nat) : Bool := @decide (∀ x, x < M → jnE (edR E wo) x) (Classical.propDecidable _)
theorem reB_t {E : List Ed} {wo : Int} {M : Nat} (h : ∀ x, x < M → jnE (edR E wo) x) : reB E wo M = true := @decide_eq_true _ (Classical.propDecidable _) h
theorem reB_f {E : List Ed} {wo : Int} {M x : Nat} (hx : x < M) (h : ¬ jnE (edR E wo) x) : reB E wo M = false := @decide_eq_false _ (Classical.propDecidable _) (fun k => h (k x hx))
section
variable {l : List Sn} {ad : Option Addr} {b o cap pb po : Nat}
set_option maxRecDepth 4000 in
set_option maxHeartbeats 16000000 in
theorem reached_any (w : World) {M : Nat} {B : Int} (hS : SIn w pb po M B ad b o cap l) (hM : 1 ≤ M ∧ M ≤ 20) (hn : l.length ≤ 80) (hF : FT M l) (wo : Int) : Calls Tryd.prog 18 #[.pointer (some ⟨pb, po, none⟩), .int .i64 wo] w fun e w' => e = .returned (.bool (reB (edL l) wo M)) ∧ Gr w w' := by
  have HIff := hidb (fun y => rr_iff (wo := wo) hF.ok (show 0 < M by omega) y)
  have HS := hidb hS
  have HIx := hidb hS.sl.ix
  have HF := hidb hF
  have HM := hidb hM
  obtain ⟨n, hn'⟩ : ∃ n, n = l.length := ⟨_, rfl⟩
  have HNl : Hid (n = l.length ∧ n ≤ 80) := ⟨hn', by omega⟩
  have HPt := hidb (fun W (hG : Gr w W) => (hS.below hG).pt)
  rw [← hn'] at HIx HPt
  obtain ⟨CS, hCS, mk⟩ := made_runBo M (by omega)
  have AW := At.newArr w CS 4
  rw [hCS] at AW
  have HW1 : Hid (At (w.alloc (.cells CS 4)) w.heap.size (brL (List.replicate M false)) ∧ Gr w (w.alloc (.cells CS 4))) := ⟨AW, (Gr.refl _).alloc _⟩
  obtain ⟨p0, p1, p2⟩ := HPt.out w (Gr.refl w)
  have ix0 := boindex w.heap.size M M 0 (by omega)
  push_cast at ix0
  obtain ⟨b0, b1⟩ := HW1.out.1.bo (j := 0) (by simp; omega)
  clear AW hS hM hn hF hn' hCS
  go_enter Tryd.func18, Tryd.ntmps18
  go_upto_region 2 with fail
  obtain ⟨OB, hOB⟩ : ∃ z, z = w.heap.size := ⟨_, rfl⟩
  rw [← hOB] at HW1 b0 b1 ix0 ⊢
  have HOb : Hid (w.heap.size ≤ OB) := by show _ ≤ _; omega
  have E0 : Hid (At ((w.alloc (.cells CS 4)).setCell ⟨OB, 0, none⟩ (.bool true)) OB (brL (rrE (edL l) wo M 0)) ∧ Gr w ((w.alloc (.cells CS 4)).setCell ⟨OB, 0, none⟩ (.bool true))) := ⟨HW1.out.1.putb 0 true, HW1.out.2.set HOb.out _ _⟩
  clear hOB HW1
  go_upto_region 3 with fail
  generalize (w.alloc (.cells CS 4)).setCell ⟨OB, 0, none⟩ (.bool true) = W2 at *
  clear p0 p1 p2 b0 b1 ix0
  go_wp2
  go_loopw [6] (fun t wr => ∃ j : Nat, j ≤ M ∧ t = .int .i64 (j : Int) ∧ Hid (At wr OB (brL (rrE (edL l) wo M j)) ∧ Gr w wr)) (fun t _ => M - (intOf t).toNat)
  case atStart => exact ⟨0, Nat.zero_le _, rfl, E0⟩
  case round =>
    clear E0
    obtain ⟨j, hj, rfl, E⟩ := hrel
    obtain ⟨p0, p1, p2⟩ := HPt.out wr E.out.2
    by_cases h1 : ¬ j < M
    · have h1' : ¬ (j : Int) < (M : Int) := by omega
      obtain rfl : j = M := by omega
      clear h1
      have HG := hidb E.out
      go_wp2
      clear p0 p1 p2
      go_loopw [9] (fun t wq => ∃ k : Nat, k ≤ j ∧ t = .int .i64 (k : Int) ∧ Hid (At wq OB (brL (rrE (edL l) wo j j)) ∧ Gr w wq ∧ ∀ x, x < k → onX (rrE (edL l) wo j j) x = true)) (fun t _ => j - (intOf t).toNat)
      case atStart => exact ⟨0, Nat.zero_le _, rfl, hidb ⟨HG.out.1, HG.out.2, fun x hx => by omega⟩⟩
      case round =>
        clear HG E
        obtain ⟨k, hk, rfl, E⟩ := hrel
        obtain ⟨p0, p1, p2⟩ := HPt.out wr E.out.2.1
        by_cases h2 : ¬ k < j
        · have h2' : ¬ (k : Int) < (j : Int) := by omega
          have HZ : Hid (reB (edL l) wo j = true ∧ Gr w wr) := ⟨reB_t (fun x hx => (HIff.out x).1 (E.out.2.2 x (by omega))), E.out.2.1⟩
          clear h2 hk E
          go_wp2
          go_ret
          exact ⟨by rw [HZ.out.1]; rfl, HZ.out.2⟩
        · have h2' : (k : Int) < (j : Int) := by omega
          have H2 := hidb (show k < j by omega)
          have ix := boindex OB j j k H2.out
          obtain ⟨ck, -⟩ := E.out.1.bo (j := k) (by rw [rr_len]; exact H2.out)
          have e9 : IntKind.i64.wrap ((k : Int) + 1) = ((k + 1 : Nat) : Int) := by rw [show (k : Int) + 1 = ((k + 1 : Nat) : Int) by omega]; exact wr_in (by omega) (by have := HM.out; omega)
          by_cases d : onX (rrE (edL l) wo j j) k = true
          · rw [d] at ck
            have HN : Hid (∀ x, x < k + 1 → onX (rrE (edL l) wo j j) x = true) := fun x hx => by
              by_cases e : x = k
              · rw [e]; exact d
              · exact E.out.2.2 x (by omega)
            have HE := hidb E.out
            clear h2 hk d E
            go_wp2
            go_roundw
            case rel => exact ⟨k + 1, H2.out, by go_num, hidb ⟨HE.out.1, HE.out.2.1, HN.out⟩⟩
            case measure => have := H2.out; simp [intOf]; omega
          · have d' : onX (rrE (edL l) wo j j) k = false := by simpa using d
            rw [d'] at ck
            have HZ : Hid (reB (edL l) wo j = false ∧ Gr w wr) := ⟨reB_f H2.out (fun h => d ((HIff.out k).2 h)), E.out.2.1⟩
            clear h2 hk d d' E
            go_wp2
            go_ret
            exact ⟨by rw [HZ.out.1]; rfl, HZ.out.2⟩
    · have h1' : (j : Int) < (M : Int) := by omega
      have H1 := hidb (show j < M by omega)
      have e9 : IntKind.i64.wrap ((j : Int) + 1) = ((j + 1 : Nat) : Int) := by rw [show (j : Int) + 1 = ((j + 1 : Nat) : Int) by omega]; exact wr_in (by omega) (by have := HM.out; omega)
      have HG := hidb E.out
      have HL0 : Hid ((rrE (edL l) wo M j).length = M ∧ rrE (edL l) wo M (j + 1) = rdE (edL l) wo (rrE (edL l) wo M j) n) := ⟨rr_len _ _ _ _, by rw [HNl.out.1, ← ed_len]; rfl⟩
      clear h1 hj E
      go_wp2
      clear p0 p1 p2
      generalize rrE (edL l) wo M j = L at *
      go_loopw [7] (fun t wq => ∃ k : Nat, k ≤ n ∧ t = .int .i64 (k : Int) ∧ Hid (At wq OB (brL (rdE (edL l) wo L k)) ∧ Gr w wq)) (fun t _ => n - (intOf t).toNat)
      case atStart => exact ⟨0, Nat.zero_le _, rfl, HG⟩
      case round =>
        clear HG
        obtain ⟨k, hk, rfl, E⟩ := hrel
        obtain ⟨p0, p1, p2⟩ := HPt.out wr E.out.2
        by_cases h2 : ¬ k < n
        · have h2' : ¬ (k : Int) < (n : Int) := by omega
          obtain rfl : k = n := by omega
          have HZ : Hid (At wr OB (brL (rrE (edL l) wo M (j + 1))) ∧ Gr w wr) := by rw [HL0.out.2]; exact E.out
          clear h2 E hk
          go_wp2
          go_roundw
          case rel => exact ⟨j + 1, H1.out, by go_num, HZ⟩
          case measure => have := H1.out; simp [intOf]; omega
        · have h2' : (k : Int) < (n : Int) := by omega
          have H2 := hidb (show k < n by omega)
          have hkl : k < l.length := by have := HNl.out; omega
          obtain ⟨⟨f1, f2⟩, ⟨t1, t2⟩, ft, -⟩ := HF.out k hkl
          have ix := HIx.out k H2.out
          obtain ⟨⟨c0, c1, c2, c3⟩, -⟩ := (HS.out.below E.out.2).sl.row k hkl
          have e8 : IntKind.i64.wrap ((k : Int) + 1) = ((k + 1 : Nat) : Int) := by rw [show (k : Int) + 1 = ((k + 1 : Nat) : Int) by omega]; exact wr_in (by omega) (by have := HNl.out; omega)
          have hex := eX_ed hkl
          obtain ⟨y, hy⟩ : ∃ y : Nat, (snX l k).f = y := ⟨(snX l k).f.toNat, by omega⟩
          obtain ⟨x, hx⟩ : ∃ x : Nat, (snX l k).t = x := ⟨(snX l k).t.toNat, by omega⟩
          rw [hy, hx, Int.toNat_natCast, Int.toNat_natCast] at hex
          rw [hy] at c0 f1 f2
          rw [hx] at c1 t1 t2
          generalize (snX l k).u = u at *
          generalize (snX l k).w = gw at *
          have HX : Hid (x < M ∧ y < M) := ⟨by omega, by omega⟩
          have hyx : ¬ y = x := fun e => ft (by rw [hy, hx, e])
          have hL : (rdE (edL l) wo L k).length = M := by rw [rd_len]; exact HL0.out.1
          have HSt : Hid (rdE (edL l) wo L (k + 1) = if ¬ (k : Int) = wo ∧ (onX (rdE (edL l) wo L k) y = true ∨ onX (rdE (edL l) wo L k) x = true) then ((rdE (edL l) wo L k).set y true).set x true else rdE (edL l) wo L k) := by
            show _ = _
            rw [rdE, rsE, hex]
          have AR := hidb (At.new4 wr (.int .i64 (y : Int)) (.int .i64 (x : Int)) (.int .i64 u) (.int .i64 gw) 51)
          have E2 := hidb (show At (wr.alloc (.cells #[.int .i64 (y : Int), .int .i64 (x : Int), .int .i64 u, .int .i64 gw] 51)) OB (brL (rdE (edL l) wo L k)) ∧ Gr w (wr.alloc (.cells #[.int .i64 (y : Int), .int .i64 (x : Int), .int .i64 u, .int .i64 gw] 51)) from ⟨E.out.1.alloc _, E.out.2.alloc _⟩)
          have HNw : Hid (OB < wr.heap.size) := E.out.1.lt
          have ixy := boindex OB M M y HX.out.2
          have ixx := boindex OB M M x HX.out.1
          clear h2 hkl f1 f2 t1 t2 ft hex hy hx hk
          go_upto_region 10 with fail
          clear c0 c1 c2 c3 ix E p0 p1 p2
          obtain ⟨NB, hNB⟩ : ∃ z, z = wr.heap.size := ⟨_, rfl⟩
          rw [← hNB] at AR HNw ⊢
          generalize wr.alloc (.cells #[.int .i64 (y : Int), .int .i64 (x : Int), .int .i64 u, .int .i64 gw] 51) = W3 at *
          clear hNB
          obtain ⟨c0, c1, c2, c3⟩ := AR.out.c4
          obtain ⟨by0, by1⟩ := E2.out.1.bo (j := y) (by rw [hL]; exact HX.out.2)
          obtain ⟨bx0, bx1⟩ := E2.out.1.bo (j := x) (by rw [hL]; exact HX.out.1)
          have hne : ¬ OB = NB := by have := HNw.out; omega
          by_cases d0 : (k : Int) = wo
          · have q0 : ((k : Int) != wo) = false := by simpa using d0
            have HE : Hid (At W3 OB (brL (rdE (edL l) wo L (k + 1))) ∧ Gr w W3) := by rw [HSt.out, if_neg (fun h => h.1 d0)]; exact E2.out
            clear d0 HSt by0 by1 bx0 bx1 hne
            go_wp2
            go_roundw
            case rel => exact ⟨k + 1, H2.out, by go_num, HE⟩
            case measure => have := H2.out; simp [intOf]; omega
          · have q0 : ((k : Int) != wo) = true := by simpa using d0
            have HP2 : Hid (At ((W3.setCell ⟨OB, y, none⟩ (.bool true)).setCell ⟨OB, x, none⟩ (.bool true)) OB (brL (((rdE (edL l) wo L k).set y true).set x true)) ∧ Gr w ((W3.setCell ⟨OB, y, none⟩ (.bool true)).setCell ⟨OB, x, none⟩ (.bool true))) := ⟨(E2.out.1.putb y true).putb x true, (E2.out.2.set HOb.out _ _).set HOb.out _ _⟩
            by_cases d1 : onX (rdE (edL l) wo L k) y = true
            · rw [d1] at by0
              have HE : Hid (At ((W3.setCell ⟨OB, y, none⟩ (.bool true)).setCell ⟨OB, x, none⟩ (.bool true)) OB (brL (rdE (edL l) wo L (k + 1))) ∧ Gr w ((W3.setCell ⟨OB, y, none⟩ (.bool true)).setCell ⟨OB, x, none⟩ (.bool true))) := by rw [HSt.out, if_pos ⟨d0, .inl d1⟩]; exact HP2.out
              clear d0 d1 HSt HP2 E2
              go_wp2
              go_roundw
              case rel => exact ⟨k + 1, H2.out, by go_num, HE⟩
              case measure => have := H2.out; simp [intOf]; omega
            · have d1' : onX (rdE (edL l) wo L k) y = false := by simpa using d1
              rw [d1'] at by0
              by_cases d2 : onX (rdE (edL l) wo L k) x = true
              · rw [d2] at bx0
                have HE : Hid (At ((W3.setCell ⟨OB, y, none⟩ (.bool true)).setCell ⟨OB, x, none⟩ (.bool true)) OB (brL (rdE (edL l) wo L (k + 1))) ∧ Gr w ((W3.setCell ⟨OB, y, none⟩ (.bool true)).setCell ⟨OB, x, none⟩ (.bool true))) := by rw [HSt.out, if_pos ⟨d0, .inr d2⟩]; exact HP2.out
                clear d0 d1 d1' d2 HSt HP2 E2
                go_wp2
                go_roundw
                case rel => exact ⟨k + 1, H2.out, by go_num, HE⟩
                case measure => have := H2.out; simp [intOf]; omega
              · have d2' : onX (rdE (edL l) wo L k) x = false := by simpa using d2
                rw [d2'] at bx0
                have HE : Hid (At W3 OB (brL (rdE (edL l) wo L (k + 1))) ∧ Gr w W3) := by rw [HSt.out, if_neg (fun h => h.2.elim d1 d2)]; exact E2.out
                clear d0 d1 d1' d2 d2' HSt HP2 E2
                go_wp2
                go_roundw
                case rel => exact ⟨k + 1, H2.out, by go_num, HE⟩
                case measure => have := H2.out; simp [intOf]; omega
end
end Go.Proofs.YtecmkjefoppbiaaDoor
