/-
  mercatorref3.AllAround.
-/
import Derived.Test.YtphpfongdbidoaaDoorQFaF0
import Derived.Test.YtphpfongdbidoaaDoorQFaF1
import Derived.Test.YtphpfongdbidoaaDoorQFaF2
namespace Go.Proofs.YtphpfongdbidoaaDoor
open Go.RowKit

theorem map_snoc (f : Nat → Int) (k : Nat) : (List.range k).map f ++ [f k] = (List.range (k + 1)).map f := by
  rw [List.range_succ, List.map_append]
  rfl
set_option maxRecDepth 4000 in
set_option maxHeartbeats 8000000 in
theorem allAround_any (K : Int) (f : Nat → Int) {pb po b o cap m n : Nat} {rI : Int} {l : List Int} (w : World) (rp : PtR w pb po m n (.slice (some ⟨b, o, none⟩) l.length cap)) (ll : l.length ≤ 16384) (hA : ∀ W cell, Gr w W → cell < l.length → Calls Tryd.prog 33 #[.pointer (some ⟨pb, po, none⟩), .int .i64 (cell : Int), .int .i64 rI, .int .i64 K] W fun e w' => e = .returned (.int .i64 (f cell)) ∧ Gr W w') : Calls Tryd.prog 15 #[.pointer (some ⟨pb, po, none⟩), .int .i64 rI, .int .i64 K] w fun e w' => ∃ ad b2 cap2, e = .returned (.slice ad l.length cap2) ∧ ISl w' ad b2 0 cap2 ((List.range l.length).map f) ∧ Gr w w' := by
  have RP := hidb rp
  have HA := hidb hA
  have HLl := hidb ll
  obtain ⟨i0, hi, hz0, hz1, hz2⟩ := info_parts infoJ
  clear rp hA ll
  go_enter Tryd.func15, Tryd.ntmps15
  go_wp2
  go_loopw [7, 8] (fun v t wr => ∃ (k : Nat) (ad : Option Addr) (cp : Nat), k ≤ l.length ∧ t = .int .i64 (k : Int) ∧ v = .slice ad k cp ∧ Hid (wr.ownsRow w.heap.size 3 1 v k (ir ((List.range k).map f))) ∧ Hid (Gr w wr)) (fun _ t _ => (20000 - intOf t).toNat)
  case atStart => exact ⟨0, none, 0, Nat.zero_le _, rfl, rfl, hidb (by simpa using World.ownsRow_nil w w.heap.size 3 1), hidb (Gr.refl _)⟩
  case round =>
    obtain ⟨k, ad, cp, hk, rfl, rfl, HO, HG⟩ := hrel
    obtain ⟨p0, p1, p2⟩ := RP.out.below HG.out.out
    by_cases h1 : k < l.length
    · have h1' : (k : Int) < (l.length : Int) := by omega
      have e1 : IntKind.i64.wrap ((k : Int) + 1) = ((k + 1 : Nat) : Int) := wrap_in (by omega) (by have := HLl.out; omega)
      have KA := hidb (HA.out wr k HG.out h1)
      have HSn := hidb (map_snoc f k)
      generalize f k = q0 at *
      generalize hcl : (List.range k).map f = lc at *
      clear hcl
      go_wp2_with fail
      refine KA.out.mono ?_
      rintro e w2 ⟨rfl, hB⟩
      have HGt := hidb (Gr.step HG.out hB.out)
      have hO := own_keep HO.out hB.out
      have HBs := hidb HGt.out.out.size
      clear p0 p1 p2 hB HO HG KA
      go_wp2_with (at_builtin; refine wpList_append_own _ rfl _ _ 25 rfl w.heap.size 3 i0 (.int .i64 0) 1 8 undI hi hz0 hz1 hz2 rfl (by decide) _ _ _ rfl (hO.alloc _) ⟨w2.heap.size, 0, none⟩ 1 1 [.int .i64 q0] rfl rfl ?c1 ?c2 ?c3 ?c4 ?c5 ?_)
      case c1 => intro j u hj; exact news1r hj (by simp [go_sem, Addr.add])
      case c2 => intro u hu; simp at hu; subst hu; rfl
      case c3 => have := HLl.out; unfold maxLen; omega
      case c4 => have := HLl.out; omega
      case c5 => have := HBs.out; simp; omega
      intro u2 w4 hown' hgrow _
      have HGn := hidb (gr_app HGt.out hO (Nat.le_refl _) hgrow)
      rw [ir_snoc, HSn.out] at hown'
      have HOn := hidb hown'
      obtain ⟨ad', cap', hv'⟩ := own_shapeS hown'
      clear hgrow hown' hO
      subst hv'
      obtain ⟨p0, p1, p2⟩ := RP.out.below HGn.out.out
      go_wp2
      go_roundw
      case rel => exact ⟨k + 1, ad', cap', by omega, rfl, rfl, HOn, HGn⟩
      case measure => have := HLl.out; simp [intOf]; omega
    · have h1' : ¬ (k : Int) < (l.length : Int) := by omega
      have hkl : k = l.length := by omega
      have hO := HO.out
      obtain ⟨ad2, b2, cap2, hv, hI⟩ := own_isl2 hO
      have hI2 : ISl wr ad2 b2 0 cap2 ((List.range l.length).map f) := by rw [← hkl]; exact hI
      have HI := hidb hI2
      simp only [List.length_map, List.length_range, Value.slice.injEq] at hv
      obtain ⟨rfl, _, rfl⟩ := hv
      have HKl := hidb hkl
      clear hI hI2 hO HO hkl hk h1
      go_wp2
      go_ret
      exact ⟨_, b2, _, by rw [← HKl.out]; rfl, HI.out, HG.out⟩
end Go.Proofs.YtphpfongdbidoaaDoor
