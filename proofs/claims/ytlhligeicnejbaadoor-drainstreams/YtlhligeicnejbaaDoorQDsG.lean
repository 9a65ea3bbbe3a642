/-
  drain.Strahler, where the raster is right.
-/
import Derived.Test.YtlhligeicnejbaaDoorQDsC
import Derived.Test.YtlhligeicnejbaaDoorQDsD
import Derived.Test.YtlhligeicnejbaaDoorQGaD
import Derived.Test.YtlhligeicnejbaaDoorQRoH
import Derived.Sort.CutIn
import Derived.Sort.QuietIn
namespace Go.Proofs.YtlhligeicnejbaaDoor
open Go.RowKit Go.Shelf
attribute [local go_sem] Oper.semAt_some

/-- What lies in memory between two rounds. -/
structure GS (W : World) (Z O8 O9 OUT RK F FL IS N : Nat) (zs fs : List Value) (Fl : List Int) (Bs : List Bool) (L KL : List Int) : Prop where
  z : At W Z zs
  a : At W O8 [.slice (some ⟨OUT, 0, none⟩) N N]
  b : At W O9 [.slice (some ⟨RK, 0, none⟩) N N]
  o : At W OUT (ir L)
  k : At W RK (ir KL)
  nf : NF W F FL fs Fl
  s : At W IS (br Bs)
section
variable {W W' : World} {Z O8 O9 OUT RK F FL IS N : Nat} {zs fs : List Value} {Fl : List Int} {Bs : List Bool} {L KL : List Int}
theorem GS.below (h : GS W Z O8 O9 OUT RK F FL IS N zs fs Fl Bs L KL) (hB : Below W.heap.size W W') : GS W' Z O8 O9 OUT RK F FL IS N zs fs Fl Bs L KL :=
  ⟨At.below hB h.z, At.below hB h.a, At.below hB h.b, At.below hB h.o, At.below hB h.k, h.nf.below hB, At.below hB h.s⟩
theorem GS.drew (h : GS W Z O8 O9 OUT RK F FL IS N zs fs Fl Bs L KL) : GS W.drew Z O8 O9 OUT RK F FL IS N zs fs Fl Bs L KL := ⟨h.z, h.a, h.b, h.o, h.k, h.nf.drew, h.s⟩
theorem GS.kept {row : Option Nat} (h : GS W Z O8 O9 OUT RK F FL IS N zs fs Fl Bs L KL) (hg : W.grownBy W' row) (hr : ∀ r, row = some r → ∃ o : Obj, W.heap[r]? = some o ∧ o.isCells = false) : GS W' Z O8 O9 OUT RK F FL IS N zs fs Fl Bs L KL :=
  ⟨h.z.kept hg hr, h.a.kept hg hr, h.b.kept hg hr, h.o.kept hg hr, h.k.kept hg hr, ⟨h.nf.f.kept hg hr, h.nf.fl.kept hg hr⟩, h.s.kept hg hr⟩
/-- The blocks that are written are none of the others. -/
def Ap (Z O8 O9 OUT RK F FL IS X : Nat) : Prop := (OUT ≠ Z ∧ OUT ≠ O8 ∧ OUT ≠ O9 ∧ OUT ≠ F ∧ OUT ≠ FL ∧ OUT ≠ IS ∧ OUT ≠ X) ∧ (RK ≠ Z ∧ RK ≠ O8 ∧ RK ≠ O9 ∧ RK ≠ F ∧ RK ≠ FL ∧ RK ≠ IS ∧ RK ≠ X) ∧ OUT ≠ RK
theorem GS.putO {X : Nat} (h : GS W Z O8 O9 OUT RK F FL IS N zs fs Fl Bs L KL) (hn : Ap Z O8 O9 OUT RK F FL IS X) (i : Nat) (x : Int) : GS (W.setCell ⟨OUT, i, none⟩ (.int .i64 x)) Z O8 O9 OUT RK F FL IS N zs fs Fl Bs (L.set i x) KL := by
  obtain ⟨⟨a1, a2, a3, a4, a5, a6, a7⟩, -, b1⟩ := hn
  refine ⟨h.z.skip a1 _ _, h.a.skip a2 _ _, h.b.skip a3 _ _, ?_, h.k.skip b1 _ _, ⟨h.nf.f.skip a4 _ _, h.nf.fl.skip a5 _ _⟩, h.s.skip a6 _ _⟩
  rw [← ir_set]; exact h.o.put i _
theorem GS.putK {X : Nat} (h : GS W Z O8 O9 OUT RK F FL IS N zs fs Fl Bs L KL) (hn : Ap Z O8 O9 OUT RK F FL IS X) (i : Nat) (x : Int) : GS (W.setCell ⟨RK, i, none⟩ (.int .i64 x)) Z O8 O9 OUT RK F FL IS N zs fs Fl Bs L (KL.set i x) := by
  obtain ⟨-, ⟨a1, a2, a3, a4, a5, a6, a7⟩, b1⟩ := hn
  refine ⟨h.z.skip a1 _ _, h.a.skip a2 _ _, h.b.skip a3 _ _, h.o.skip (Ne.symm b1) _ _, ?_, ⟨h.nf.f.skip a4 _ _, h.nf.fl.skip a5 _ _⟩, h.s.skip a6 _ _⟩
  rw [← ir_set]; exact h.k.put i _
end
set_option maxRecDepth 100000 in
set_option maxHeartbeats 16000000 in
theorem strahler_ok (g : Nat → Addr) {m n Lb Lo Lcap : Nat} {l : List Int} (q : Int) (hq : 1 ≤ q) (w : World) (hR : Rs w Lb Lo Lcap l) (ok : Ok l m n) (hv : vcode m n l = 0) (hl : Lai w g) : Calls Tryd.prog 7 #[raV m n (.slice (some ⟨Lb, Lo, none⟩) l.length Lcap), .int .i64 q] w fun e w' => ∃ OUT, e = .returned (.tuple #[.slice (some ⟨OUT, 0, none⟩) l.length l.length, .nilIface]) ∧ At w' OUT (ir (iF l.length (fun c => if stB m n l q c = true then (so m n l q c : Int) else 0))) ∧ Gr w w' := by
  have hlen := ok.len_le
  have hN1 : 1 ≤ l.length := by rw [ok.len]; exact Nat.mul_le_mul ok.m1 ok.n1
  have PX : Hid (PF w (w.alloc (.cells #[.int .i64 (m : Int), .int .i64 (n : Int), .slice (some ⟨Lb, Lo, none⟩) l.length Lcap] 32)) w.heap.size [.int .i64 (m : Int), .int .i64 (n : Int), .slice (some ⟨Lb, Lo, none⟩) l.length Lcap]) := ⟨At.new3 _ _ _ _ _, (Gr.refl w).alloc _⟩
  have C1 := hidb (streamsOf_ok g q hq _ (hR.below PX.out.gr.out) ok hv (hl.below PX.out.gr.out))
  obtain ⟨CI, hCI, mkI⟩ := made_run l.length (by omega)
  obtain ⟨CK, hCK, mkK⟩ := made_runR l.length (by omega)
  have HCS := hidb (show CI.toList = ir (List.replicate l.length 0) ∧ CK.toList = ir (List.replicate (2 * l.length) 0) from ⟨hCI, hCK⟩)
  have HNx := hidb (fun (W : World) F FL LV vo vq Fl (h : NF W F FL (fsV m n Lb Lo Lcap l.length LV FL vo vq) Fl) (hf : FlE m n l Fl) c (hc : c < l.length) => next_at c W ok h hf hc)
  have HOl : Hid ((flo m n l l.length).ord.length = l.length ∧ ∀ k, k < l.length → gl (on (flo m n l l.length).ord) k = (oc m n l k : Int)) := ⟨ord_len m n l ok.m1 ok.len, fun k hk => oc_on ok hk⟩
  have HLt : Hid (∀ j, oc m n l (l.length - 1 - j) < l.length ∧ tw m n l (oc m n l (l.length - 1 - j)) < l.length) := fun j => by
    have h1 := oc_lt m n l ok.m1 ok.len (k := l.length - 1 - j) (by omega)
    exact ⟨h1, tw_lt m n l ok.m1 ok.len h1⟩
  have HEq := hidb (sF_eq q ok.m1 ok.len l.length (Nat.le_refl _))
  have HAll := hidb (fun c (hc : c < l.length) => ouS_all m n l q ok.m1 ok.len hc)
  have HL := hidb (show 1 ≤ l.length ∧ l.length ≤ 16384 from ⟨hN1, hlen⟩)
  obtain ⟨N, hN⟩ : ∃ N, N = l.length := ⟨_, rfl⟩
  have HN := hidb hN
  unfold raV at C1 ⊢
  rw [← hN] at PX C1 HCS HNx HOl HLt HEq HAll HL mkI mkK ⊢
  clear hR ok hv hl hlen hN1 hCI hCK hN hq
  refine (callsIn_wide (n := 3)).1 ?_
  refine callsIn_of_wp_marks Tryd.func7 rfl trivial ?_ rfl
  simp only [Tryd.ntmps7, List.size_toArray, List.length_cons, List.length_nil, Nat.reduceAdd, Nat.reduceSub, Array.replicate_succ, Array.replicate_zero, List.push_toArray, List.append_toArray, List.nil_append, List.cons_append]
  gi_upto_region 1 with fail
  generalize w.alloc (.cells #[.int .i64 (m : Int), .int .i64 (n : Int), .slice (some ⟨Lb, Lo, none⟩) N Lcap] 32) = w1 at *
  obtain ⟨T, hT⟩ : ∃ z, z = w.heap.size := ⟨_, rfl⟩
  rw [← hT] at PX ⊢
  clear hT
  obtain ⟨q0, q1, q2⟩ := PX.out.a.c3
  gi_wp2_with fail
  refine ⟨trivial, (callsIn_wide.2 C1.out).mono ?_⟩
  rintro e w2 ⟨F, IS, IN, rfl, hX, hG2⟩
  clear q0 q1 q2 C1
  have HX := hidb hX
  have HT := hidb (At.below hG2.out PX.out.a)
  have HGw := hidb (Gr.step PX.out.gr hG2.out)
  have HTR := hidb HT.out.lt
  clear hX hG2 PX
  have HZ := hidb (At.new3 w2 (.pointer (some ⟨F, 0, none⟩)) (.slice (some ⟨IS, 0, none⟩) N N) (.slice (some ⟨IN, 0, none⟩) N N) 49)
  have HG := hidb ((Gr.refl w2).alloc (.cells #[.pointer (some ⟨F, 0, none⟩), .slice (some ⟨IS, 0, none⟩) N N, .slice (some ⟨IN, 0, none⟩) N N] 49))
  replace HT := hidb (HT.out.alloc (.cells #[.pointer (some ⟨F, 0, none⟩), .slice (some ⟨IS, 0, none⟩) N N, .slice (some ⟨IN, 0, none⟩) N N] 49))
  gi_upto_region 4 with fail
  generalize w2.alloc (.cells #[.pointer (some ⟨F, 0, none⟩), .slice (some ⟨IS, 0, none⟩) N N, .slice (some ⟨IN, 0, none⟩) N N] 49) = w3 at *
  obtain ⟨Z, hZ⟩ : ∃ z, z = w2.heap.size := ⟨_, rfl⟩
  rw [← hZ] at HZ ⊢
  replace HTR := hidb (show T < w2.heap.size ∧ Z = w2.heap.size from ⟨HTR.out, hZ⟩)
  clear hZ
  gi_cut [8, 9] from 23 (fun s8 s9 wx => ∃ O8 O9 OUT RK, s8 = .pointer (some ⟨O8, 0, none⟩) ∧ s9 = .pointer (some ⟨O9, 0, none⟩) ∧ Hid (At wx Z [.pointer (some ⟨F, 0, none⟩), .slice (some ⟨IS, 0, none⟩) N N, .slice (some ⟨IN, 0, none⟩) N N] ∧ At wx O8 [.slice (some ⟨OUT, 0, none⟩) N N] ∧ At wx O9 [.slice (some ⟨RK, 0, none⟩) N N] ∧ At wx OUT (ir (iF N (fun _ => 0))) ∧ At wx RK (ir (iF (2 * N) (kfn (fun _ => (0, 0))))) ∧ (OUT ≠ RK ∧ OUT ≠ Z ∧ OUT ≠ O8 ∧ OUT ≠ O9 ∧ RK ≠ Z ∧ RK ≠ O8 ∧ RK ≠ O9 ∧ w2.heap.size ≤ OUT ∧ w2.heap.size ≤ RK ∧ w2.heap.size ≤ Z) ∧ Gr w2 wx))
  case first =>
    refine hi_regionN (S := (fun w' => At w' T [.int .i64 (m : Int), .int .i64 (n : Int), .slice (some ⟨Lb, Lo, none⟩) N Lcap])) (by kernel_rfl) ?_ (fun hHeld => ?_)
    · (try dsimp only); exact HT.out.drew
    replace HT := hidb HT.out.drew
    replace HZ := hidb HZ.out.drew
    replace HG := hidb HG.out.drew
    have HS0 : Hid (Z < w3.drew.heap.size ∧ T < w3.drew.heap.size) := ⟨HZ.out.lt, HT.out.lt⟩
    generalize w3.drew = V0 at *
    refine hi_take (i := 0) (v := ?vg0x7) (by kernel_rfl) rfl (fun _ _ => rfl) (by kernel_rfl) (by kernel_rfl) (by kernel_rfl) (fun _ _ _ h => h) (Or.inl ⟨by kernel_rfl, ?hg0x7⟩) (by assumption) ?rg0x7
    case hg0x7 => (intro w hSw; (try dsimp only at hSw); obtain ⟨x0, x1, x2⟩ := hSw.c3; go_simp; try with_reducible rfl)
    (try simp only [Act.put, List.getElem_toArray, List.getElem_cons_zero, List.setIfInBounds_toArray, List.set_cons_zero, List.set_cons_succ])
    refine hi_take (i := 1) (v := ?vg1x10) (by kernel_rfl) rfl (fun _ _ => rfl) (by kernel_rfl) (by kernel_rfl) (by kernel_rfl) (fun _ _ _ h => h) (Or.inl ⟨by kernel_rfl, ?hg1x10⟩) (by assumption) ?rg1x10
    case hg1x10 => (intro w hSw; (try dsimp only at hSw); obtain ⟨x0, x1, x2⟩ := hSw.c3; go_simp; try with_reducible rfl)
    (try simp only [Act.put, List.getElem_toArray, List.getElem_cons_zero, List.getElem_cons_succ, List.setIfInBounds_toArray, List.set_cons_zero, List.set_cons_succ])
    refine hi_take (i := 2) (v := ?vg2x13) (by kernel_rfl) rfl (fun _ _ => rfl) (by kernel_rfl) (by kernel_rfl) (by kernel_rfl) (fun _ _ _ h => h) (Or.inl ⟨by kernel_rfl, ?hg2x13⟩) (by assumption) ?rg2x13
    case hg2x13 => (intro w hSw; (try dsimp only at hSw); obtain ⟨x0, x1, x2⟩ := hSw.c3; go_simp; try with_reducible rfl)
    (try simp only [Act.put, List.getElem_toArray, List.getElem_cons_zero, List.getElem_cons_succ, List.setIfInBounds_toArray, List.set_cons_zero, List.set_cons_succ])
    refine hi_take (i := 4) (v := ?vg4x16) (by kernel_rfl) rfl (fun _ _ => rfl) (by kernel_rfl) (by kernel_rfl) (by kernel_rfl) (fun _ _ _ h => h) (Or.inl ⟨by kernel_rfl, ?hg4x16⟩) (by assumption) ?rg4x16
    case hg4x16 => (intro w hSw; (try dsimp only at hSw); obtain ⟨x0, x1, x2⟩ := hSw.c3; go_simp; try with_reducible rfl)
    (try simp only [Act.put, List.getElem_toArray, List.getElem_cons_zero, List.getElem_cons_succ, List.setIfInBounds_toArray, List.set_cons_zero, List.set_cons_succ])
    refine hi_take (i := 5) (v := ?vg5x19) (by kernel_rfl) rfl (fun _ _ => rfl) (by kernel_rfl) (by kernel_rfl) (by kernel_rfl) (fun _ _ _ h => h) (Or.inl ⟨by kernel_rfl, ?hg5x19⟩) (by assumption) ?rg5x19
    case hg5x19 => (intro w hSw; (try dsimp only at hSw); obtain ⟨x0, x1, x2⟩ := hSw.c3; go_simp; try with_reducible rfl)
    (try simp only [Act.put, List.getElem_toArray, List.getElem_cons_zero, List.getElem_cons_succ, List.setIfInBounds_toArray, List.set_cons_zero, List.set_cons_succ])
    refine hi_take (i := 6) (v := ?vg6x22) (by kernel_rfl) rfl (fun _ _ => rfl) (by kernel_rfl) (by kernel_rfl) (by kernel_rfl) (fun _ _ _ h => h) (Or.inl ⟨by kernel_rfl, ?hg6x22⟩) (by assumption) ?rg6x22
    case hg6x22 => (intro w hSw; (try dsimp only at hSw); obtain ⟨x0, x1, x2⟩ := hSw.c3; go_simp; try with_reducible rfl)
    (try simp only [Act.put, List.getElem_toArray, List.getElem_cons_zero, List.getElem_cons_succ, List.setIfInBounds_toArray, List.set_cons_zero, List.set_cons_succ])
    refine hi_ready (rs := [3, 7, 8, 9]) (by kernel_rfl) (by simp) ?_
    refine ReadyHI.cons rfl (fun K hK => ?_) (ReadyHI.cons rfl (fun K hK => ?_) (ReadyHI.cons rfl (fun K hK => ?_) (ReadyHI.cons rfl (fun K hK => ?_) ReadyHI.nil)))
    · skip
      go_simp
      refine hK.out _ _ ?_ (fun hHeld => ?_)
      · (try dsimp only); exact HT.out.alloc _
      clear hK K
      have szV1 : Hid ((V0.alloc (.cells CI 3)).heap.size = V0.heap.size + 1) := by show _ = _; simp
      have AO := hidb (At.newArr V0 CI 3)
      obtain ⟨OUT, hOUT⟩ : ∃ z, z = V0.heap.size := ⟨_, rfl⟩
      rw [← hOUT] at AO ⊢
      replace hOUT := hidb hOUT
      replace HT := hidb (HT.out.alloc (.cells CI 3))
      replace HZ := hidb (HZ.out.alloc (.cells CI 3))
      replace HG := hidb (HG.out.alloc (.cells CI 3))
      generalize V0.alloc (.cells CI 3) = V1 at *
      refine hi_ready (rs := [7, 8, 9]) (by kernel_rfl) (by simp) ?_
      refine ReadyHI.cons rfl (fun K hK => ?_) (ReadyHI.cons rfl (fun K hK => ?_) (ReadyHI.cons rfl (fun K hK => ?_) ReadyHI.nil))
      · skip
        go_simp
        refine hK.out _ _ ?_ (fun hHeld => ?_)
        · (try dsimp only); exact HT.out.alloc _
        clear hK K
        have szV2 : Hid ((V1.alloc (.cells CK 63)).heap.size = V1.heap.size + 1) := by show _ = _; simp
        have AK := hidb (At.newArr V1 CK 63)
        obtain ⟨RK, hRK⟩ : ∃ z, z = V1.heap.size := ⟨_, rfl⟩
        rw [← hRK] at AK ⊢
        replace hRK := hidb hRK
        replace HT := hidb (HT.out.alloc (.cells CK 63))
        replace HZ := hidb (HZ.out.alloc (.cells CK 63))
        replace HG := hidb (HG.out.alloc (.cells CK 63))
        replace AO := hidb (AO.out.alloc (.cells CK 63))
        generalize V1.alloc (.cells CK 63) = V2 at *
        refine hi_ready (rs := [8, 9]) (by kernel_rfl) (by simp) ?_
        refine ReadyHI.cons rfl (fun K hK => ?_) (ReadyHI.cons rfl (fun K hK => ?_) ReadyHI.nil)
        · skip
          go_simp
          refine hK.out _ _ ?_ (fun hHeld => ?_)
          · (try dsimp only); exact HT.out.alloc _
          clear hK K
          have szV3 : Hid ((V2.alloc (.cells #[.slice none 0 0] 30)).heap.size = V2.heap.size + 1) := by show _ = _; simp
          have A8 := hidb (At.new1 V2 (.slice none 0 0) 30)
          obtain ⟨O8, hO8⟩ : ∃ z, z = V2.heap.size := ⟨_, rfl⟩
          rw [← hO8] at A8 ⊢
          replace hO8 := hidb hO8
          replace HT := hidb (HT.out.alloc (.cells #[.slice none 0 0] 30))
          replace HZ := hidb (HZ.out.alloc (.cells #[.slice none 0 0] 30))
          replace HG := hidb (HG.out.alloc (.cells #[.slice none 0 0] 30))
          replace AO := hidb (AO.out.alloc (.cells #[.slice none 0 0] 30))
          replace AK := hidb (AK.out.alloc (.cells #[.slice none 0 0] 30))
          generalize V2.alloc (.cells #[.slice none 0 0] 30) = V3 at *
          refine hi_ready (rs := [9]) (by kernel_rfl) (by simp) ?_
          refine ReadyHI.cons rfl (fun K hK => ?_) ReadyHI.nil
          go_simp
          refine hK.out _ _ ?_ (fun hHeld => ?_)
          · (try dsimp only); exact HT.out.alloc _
          clear hK K
          have szV4 : Hid ((V3.alloc (.cells #[.slice none 0 0] 54)).heap.size = V3.heap.size + 1) := by show _ = _; simp
          have A9 := hidb (At.new1 V3 (.slice none 0 0) 54)
          obtain ⟨O9, hO9⟩ : ∃ z, z = V3.heap.size := ⟨_, rfl⟩
          rw [← hO9] at A9 ⊢
          replace hO9 := hidb hO9
          replace HT := hidb (HT.out.alloc (.cells #[.slice none 0 0] 54))
          replace HZ := hidb (HZ.out.alloc (.cells #[.slice none 0 0] 54))
          replace HG := hidb (HG.out.alloc (.cells #[.slice none 0 0] 54))
          replace AO := hidb (AO.out.alloc (.cells #[.slice none 0 0] 54))
          replace AK := hidb (AK.out.alloc (.cells #[.slice none 0 0] 54))
          replace A8 := hidb (A8.out.alloc (.cells #[.slice none 0 0] 54))
          generalize V3.alloc (.cells #[.slice none 0 0] 54) = V4 at *
          refine hi_ready (rs := [10]) (by kernel_rfl) (by simp) ?_
          refine ReadyHI.cons rfl (fun K hK => ?_) ReadyHI.nil
          have NT10 : Hid (¬ O8 = T) := by
            show ¬ _
            have n1 := hOUT.out; have n1 := hRK.out; have n1 := hO8.out; have n1 := hO9.out; have n5 := HS0.out; have n6 := HTR.out; have mV4 := szV4.out; have mV3 := szV3.out; have mV2 := szV2.out; have mV1 := szV1.out
            omega
          have z0 := A8.out.c1
          have y0 := A8.out.f1
          go_simp
          refine hK.out _ _ ?_ (fun hHeld => ?_)
          · (try dsimp only); exact HT.out.skip NT10.out _ _
          clear hK K
          clear z0 y0
          have szV5 : Hid ((V4.setCell ⟨O8, 0, none⟩ (.slice (some ⟨OUT, 0, none⟩) N N)).heap.size = V4.heap.size) := by show _ = _; simp
          have nn : Hid (¬ O8 = OUT ∧ ¬ O8 = RK ∧ ¬ O8 = O9) := by
            show _ ∧ _ ∧ _
            have n1 := hOUT.out; have n1 := hRK.out; have n1 := hO8.out; have n1 := hO9.out; have n5 := HS0.out; have n6 := HTR.out; have mV4 := szV4.out; have mV3 := szV3.out; have mV2 := szV2.out; have mV1 := szV1.out
            refine ⟨?_, ?_, ?_⟩ <;> omega
          replace AO := hidb (AO.out.skip (nn.out.1) 0 (.slice (some ⟨OUT, 0, none⟩) N N))
          replace AK := hidb (AK.out.skip (nn.out.2.1) 0 (.slice (some ⟨OUT, 0, none⟩) N N))
          replace A9 := hidb (A9.out.skip (nn.out.2.2) 0 (.slice (some ⟨OUT, 0, none⟩) N N))
          clear nn
          have nn : Hid (¬ O8 = Z ∧ w2.heap.size ≤ O8) := by
            show _ ∧ _
            have n1 := hOUT.out; have n1 := hRK.out; have n1 := hO8.out; have n1 := hO9.out; have n5 := HS0.out; have n6 := HTR.out; have mV4 := szV4.out; have mV3 := szV3.out; have mV2 := szV2.out; have mV1 := szV1.out
            omega
          replace HT := hidb (HT.out.skip NT10.out 0 (.slice (some ⟨OUT, 0, none⟩) N N))
          replace HZ := hidb (HZ.out.skip nn.out.1 0 (.slice (some ⟨OUT, 0, none⟩) N N))
          replace HG := hidb (HG.out.set nn.out.2 0 (.slice (some ⟨OUT, 0, none⟩) N N))
          replace A8 := hidb (At.fill1 (A8.out.has rfl) (.slice (some ⟨OUT, 0, none⟩) N N))
          clear nn NT10
          generalize V4.setCell ⟨O8, 0, none⟩ (.slice (some ⟨OUT, 0, none⟩) N N) = V5 at *
          refine hi_ready (rs := [11]) (by kernel_rfl) (by simp) ?_
          refine ReadyHI.cons rfl (fun K hK => ?_) ReadyHI.nil
          have NT11 : Hid (¬ O9 = T) := by
            show ¬ _
            have n1 := hOUT.out; have n1 := hRK.out; have n1 := hO8.out; have n1 := hO9.out; have n5 := HS0.out; have n6 := HTR.out; have mV5 := szV5.out; have mV4 := szV4.out; have mV3 := szV3.out; have mV2 := szV2.out; have mV1 := szV1.out
            omega
          have z0 := A9.out.c1
          have y0 := A9.out.f1
          go_simp
          refine hK.out _ _ ?_ (fun hHeld => ?_)
          · (try dsimp only); exact HT.out.skip NT11.out _ _
          clear hK K
          clear z0 y0
          have szV6 : Hid ((V5.setCell ⟨O9, 0, none⟩ (.slice (some ⟨RK, 0, none⟩) N N)).heap.size = V5.heap.size) := by show _ = _; simp
          have nn : Hid (¬ O9 = OUT ∧ ¬ O9 = RK ∧ ¬ O9 = O8) := by
            show _ ∧ _ ∧ _
            have n1 := hOUT.out; have n1 := hRK.out; have n1 := hO8.out; have n1 := hO9.out; have n5 := HS0.out; have n6 := HTR.out; have mV5 := szV5.out; have mV4 := szV4.out; have mV3 := szV3.out; have mV2 := szV2.out; have mV1 := szV1.out
            refine ⟨?_, ?_, ?_⟩ <;> omega
          replace AO := hidb (AO.out.skip (nn.out.1) 0 (.slice (some ⟨RK, 0, none⟩) N N))
          replace AK := hidb (AK.out.skip (nn.out.2.1) 0 (.slice (some ⟨RK, 0, none⟩) N N))
          replace A8 := hidb (A8.out.skip (nn.out.2.2) 0 (.slice (some ⟨RK, 0, none⟩) N N))
          clear nn
          have nn : Hid (¬ O9 = Z ∧ w2.heap.size ≤ O9) := by
            show _ ∧ _
            have n1 := hOUT.out; have n1 := hRK.out; have n1 := hO8.out; have n1 := hO9.out; have n5 := HS0.out; have n6 := HTR.out; have mV5 := szV5.out; have mV4 := szV4.out; have mV3 := szV3.out; have mV2 := szV2.out; have mV1 := szV1.out
            omega
          replace HT := hidb (HT.out.skip NT11.out 0 (.slice (some ⟨RK, 0, none⟩) N N))
          replace HZ := hidb (HZ.out.skip nn.out.1 0 (.slice (some ⟨RK, 0, none⟩) N N))
          replace HG := hidb (HG.out.set nn.out.2 0 (.slice (some ⟨RK, 0, none⟩) N N))
          replace A9 := hidb (At.fill1 (A9.out.has rfl) (.slice (some ⟨RK, 0, none⟩) N N))
          clear nn NT11
          generalize V5.setCell ⟨O9, 0, none⟩ (.slice (some ⟨RK, 0, none⟩) N N) = V6 at *
          refine hi_doneN (by kernel_rfl) ?_ _
          gi_wp2_with fail
          gi_meet
          have n1 := hOUT.out; have n1 := hRK.out; have n1 := hO8.out; have n1 := hO9.out; have n5 := HS0.out; have n6 := HTR.out; have mV6 := szV6.out; have mV5 := szV5.out; have mV4 := szV4.out; have mV3 := szV3.out; have mV2 := szV2.out; have mV1 := szV1.out
          refine ⟨O8, O9, OUT, RK, rfl, rfl, hidb ⟨HZ.out, A8.out, A9.out, by rw [← iF_rep, ← HCS.out.1]; exact AO.out, ?_, ⟨?_, ?_, ?_, ?_, ?_, ?_, ?_, ?_, ?_, ?_⟩, HG.out⟩⟩
          · rw [← iF_congr (f := fun _ => 0) (g := kfn (fun _ => (0, 0))) (fun j _ => by unfold kfn; split <;> rfl), ← iF_rep, ← HCS.out.2]; exact AK.out
          all_goals omega
        · skip
          go_simp
          refine hK.out _ _ ?_ (fun hHeld => ?_)
          · (try dsimp only); exact HT.out.alloc _
          clear hK K
          have szV7 : Hid ((V2.alloc (.cells #[.slice none 0 0] 54)).heap.size = V2.heap.size + 1) := by show _ = _; simp
          have A9 := hidb (At.new1 V2 (.slice none 0 0) 54)
          obtain ⟨O9, hO9⟩ : ∃ z, z = V2.heap.size := ⟨_, rfl⟩
          rw [← hO9] at A9 ⊢
          replace hO9 := hidb hO9
          replace HT := hidb (HT.out.alloc (.cells #[.slice none 0 0] 54))
          replace HZ := hidb (HZ.out.alloc (.cells #[.slice none 0 0] 54))
          replace HG := hidb (HG.out.alloc (.cells #[.slice none 0 0] 54))
          replace AO := hidb (AO.out.alloc (.cells #[.slice none 0 0] 54))
          replace AK := hidb (AK.out.alloc (.cells #[.slice none 0 0] 54))
          generalize V2.alloc (.cells #[.slice none 0 0] 54) = V7 at *
          refine hi_ready (rs := [8]) (by kernel_rfl) (by simp) ?_
          refine ReadyHI.cons rfl (fun K hK => ?_) ReadyHI.nil
          go_simp
          refine hK.out _ _ ?_ (fun hHeld => ?_)
          · (try dsimp only); exact HT.out.alloc _
          clear hK K
          have szV8 : Hid ((V7.alloc (.cells #[.slice none 0 0] 30)).heap.size = V7.heap.size + 1) := by show _ = _; simp
          have A8 := hidb (At.new1 V7 (.slice none 0 0) 30)
          obtain ⟨O8, hO8⟩ : ∃ z, z = V7.heap.size := ⟨_, rfl⟩
          rw [← hO8] at A8 ⊢
          replace hO8 := hidb hO8
          replace HT := hidb (HT.out.alloc (.cells #[.slice none 0 0] 30))
          replace HZ := hidb (HZ.out.alloc (.cells #[.slice none 0 0] 30))
          replace HG := hidb (HG.out.alloc (.cells #[.slice none 0 0] 30))
          replace AO := hidb (AO.out.alloc (.cells #[.slice none 0 0] 30))
          replace AK := hidb (AK.out.alloc (.cells #[.slice none 0 0] 30))
          replace A9 := hidb (A9.out.alloc (.cells #[.slice none 0 0] 30))
          generalize V7.alloc (.cells #[.slice none 0 0] 30) = V8 at *
          refine hi_ready (rs := [10]) (by kernel_rfl) (by simp) ?_
          refine ReadyHI.cons rfl (fun K hK => ?_) ReadyHI.nil
          have NT10 : Hid (¬ O8 = T) := by
            show ¬ _
            have n1 := hOUT.out; have n1 := hRK.out; have n1 := hO8.out; have n1 := hO9.out; have n5 := HS0.out; have n6 := HTR.out; have mV8 := szV8.out; have mV7 := szV7.out; have mV2 := szV2.out; have mV1 := szV1.out
            omega
          have z0 := A8.out.c1
          have y0 := A8.out.f1
          go_simp
          refine hK.out _ _ ?_ (fun hHeld => ?_)
          · (try dsimp only); exact HT.out.skip NT10.out _ _
          clear hK K
          clear z0 y0
          have szV9 : Hid ((V8.setCell ⟨O8, 0, none⟩ (.slice (some ⟨OUT, 0, none⟩) N N)).heap.size = V8.heap.size) := by show _ = _; simp
          have nn : Hid (¬ O8 = OUT ∧ ¬ O8 = RK ∧ ¬ O8 = O9) := by
            show _ ∧ _ ∧ _
            have n1 := hOUT.out; have n1 := hRK.out; have n1 := hO8.out; have n1 := hO9.out; have n5 := HS0.out; have n6 := HTR.out; have mV8 := szV8.out; have mV7 := szV7.out; have mV2 := szV2.out; have mV1 := szV1.out
            refine ⟨?_, ?_, ?_⟩ <;> omega
          replace AO := hidb (AO.out.skip (nn.out.1) 0 (.slice (some ⟨OUT, 0, none⟩) N N))
          replace AK := hidb (AK.out.skip (nn.out.2.1) 0 (.slice (some ⟨OUT, 0, none⟩) N N))
          replace A9 := hidb (A9.out.skip (nn.out.2.2) 0 (.slice (some ⟨OUT, 0, none⟩) N N))
          clear nn
          have nn : Hid (¬ O8 = Z ∧ w2.heap.size ≤ O8) := by
            show _ ∧ _
            have n1 := hOUT.out; have n1 := hRK.out; have n1 := hO8.out; have n1 := hO9.out; have n5 := HS0.out; have n6 := HTR.out; have mV8 := szV8.out; have mV7 := szV7.out; have mV2 := szV2.out; have mV1 := szV1.out
            omega
          replace HT := hidb (HT.out.skip NT10.out 0 (.slice (some ⟨OUT, 0, none⟩) N N))
          replace HZ := hidb (HZ.out.skip nn.out.1 0 (.slice (some ⟨OUT, 0, none⟩) N N))
          replace HG := hidb (HG.out.set nn.out.2 0 (.slice (some ⟨OUT, 0, none⟩) N N))
          replace A8 := hidb (At.fill1 (A8.out.has rfl) (.slice (some ⟨OUT, 0, none⟩) N N))
          clear nn NT10
          generalize V8.setCell ⟨O8, 0, none⟩ (.slice (some ⟨OUT, 0, none⟩) N N) = V9 at *
          refine hi_ready (rs := [11]) (by kernel_rfl) (by simp) ?_
          refine ReadyHI.cons rfl (fun K hK => ?_) ReadyHI.nil
          have NT11 : Hid (¬ O9 = T) := by
            show ¬ _
            have n1 := hOUT.out; have n1 := hRK.out; have n1 := hO8.out; have n1 := hO9.out; have n5 := HS0.out; have n6 := HTR.out; have mV9 := szV9.out; have mV8 := szV8.out; have mV7 := szV7.out; have mV2 := szV2.out; have mV1 := szV1.out
            omega
          have z0 := A9.out.c1
          have y0 := A9.out.f1
          go_simp
          refine hK.out _ _ ?_ (fun hHeld => ?_)
          · (try dsimp only); exact HT.out.skip NT11.out _ _
          clear hK K
          clear z0 y0
          have szV10 : Hid ((V9.setCell ⟨O9, 0, none⟩ (.slice (some ⟨RK, 0, none⟩) N N)).heap.size = V9.heap.size) := by show _ = _; simp
          have nn : Hid (¬ O9 = OUT ∧ ¬ O9 = RK ∧ ¬ O9 = O8) := by
            show _ ∧ _ ∧ _
            have n1 := hOUT.out; have n1 := hRK.out; have n1 := hO8.out; have n1 := hO9.out; have n5 := HS0.out; have n6 := HTR.out; have mV9 := szV9.out; have mV8 := szV8.out; have mV7 := szV7.out; have mV2 := szV2.out; have mV1 := szV1.out
            refine ⟨?_, ?_, ?_⟩ <;> omega
          replace AO := hidb (AO.out.skip (nn.out.1) 0 (.slice (some ⟨RK, 0, none⟩) N N))
          replace AK := hidb (AK.out.skip (nn.out.2.1) 0 (.slice (some ⟨RK, 0, none⟩) N N))
          replace A8 := hidb (A8.out.skip (nn.out.2.2) 0 (.slice (some ⟨RK, 0, none⟩) N N))
          clear nn
          have nn : Hid (¬ O9 = Z ∧ w2.heap.size ≤ O9) := by
            show _ ∧ _
            have n1 := hOUT.out; have n1 := hRK.out; have n1 := hO8.out; have n1 := hO9.out; have n5 := HS0.out; have n6 := HTR.out; have mV9 := szV9.out; have mV8 := szV8.out; have mV7 := szV7.out; have mV2 := szV2.out; have mV1 := szV1.out
            omega
          replace HT := hidb (HT.out.skip NT11.out 0 (.slice (some ⟨RK, 0, none⟩) N N))
          replace HZ := hidb (HZ.out.skip nn.out.1 0 (.slice (some ⟨RK, 0, none⟩) N N))
          replace HG := hidb (HG.out.set nn.out.2 0 (.slice (some ⟨RK, 0, none⟩) N N))
          replace A9 := hidb (At.fill1 (A9.out.has rfl) (.slice (some ⟨RK, 0, none⟩) N N))
          clear nn NT11
          generalize V9.setCell ⟨O9, 0, none⟩ (.slice (some ⟨RK, 0, none⟩) N N) = V10 at *
          refine hi_doneN (by kernel_rfl) ?_ _
          gi_wp2_with fail
          gi_meet
          have n1 := hOUT.out; have n1 := hRK.out; have n1 := hO8.out; have n1 := hO9.out; have n5 := HS0.out; have n6 := HTR.out; have mV10 := szV10.out; have mV9 := szV9.out; have mV8 := szV8.out; have mV7 := szV7.out; have mV2 := szV2.out; have mV1 := szV1.out
          refine ⟨O8, O9, OUT, RK, rfl, rfl, hidb ⟨HZ.out, A8.out, A9.out, by rw [← iF_rep, ← HCS.out.1]; exact AO.out, ?_, ⟨?_, ?_, ?_, ?_, ?_, ?_, ?_, ?_, ?_, ?_⟩, HG.out⟩⟩
          · rw [← iF_congr (f := fun _ => 0) (g := kfn (fun _ => (0, 0))) (fun j _ => by unfold kfn; split <;> rfl), ← iF_rep, ← HCS.out.2]; exact AK.out
          all_goals omega
      · skip
        go_simp
        refine hK.out _ _ ?_ (fun hHeld => ?_)
        · (try dsimp only); exact HT.out.alloc _
        clear hK K
        have szV11 : Hid ((V1.alloc (.cells #[.slice none 0 0] 30)).heap.size = V1.heap.size + 1) := by show _ = _; simp
        have A8 := hidb (At.new1 V1 (.slice none 0 0) 30)
        obtain ⟨O8, hO8⟩ : ∃ z, z = V1.heap.size := ⟨_, rfl⟩
        rw [← hO8] at A8 ⊢
        replace hO8 := hidb hO8
        replace HT := hidb (HT.out.alloc (.cells #[.slice none 0 0] 30))
        replace HZ := hidb (HZ.out.alloc (.cells #[.slice none 0 0] 30))
        replace HG := hidb (HG.out.alloc (.cells #[.slice none 0 0] 30))
        replace AO := hidb (AO.out.alloc (.cells #[.slice none 0 0] 30))
        generalize V1.alloc (.cells #[.slice none 0 0] 30) = V11 at *
        refine hi_ready (rs := [7, 9]) (by kernel_rfl) (by simp) ?_
        refine ReadyHI.cons rfl (fun K hK => ?_) (ReadyHI.cons rfl (fun K hK => ?_) ReadyHI.nil)
        · skip
          go_simp
          refine hK.out _ _ ?_ (fun hHeld => ?_)
          · (try dsimp only); exact HT.out.alloc _
          clear hK K
          have szV12 : Hid ((V11.alloc (.cells CK 63)).heap.size = V11.heap.size + 1) := by show _ = _; simp
          have AK := hidb (At.newArr V11 CK 63)
          obtain ⟨RK, hRK⟩ : ∃ z, z = V11.heap.size := ⟨_, rfl⟩
          rw [← hRK] at AK ⊢
          replace hRK := hidb hRK
          replace HT := hidb (HT.out.alloc (.cells CK 63))
          replace HZ := hidb (HZ.out.alloc (.cells CK 63))
          replace HG := hidb (HG.out.alloc (.cells CK 63))
          replace AO := hidb (AO.out.alloc (.cells CK 63))
          replace A8 := hidb (A8.out.alloc (.cells CK 63))
          generalize V11.alloc (.cells CK 63) = V12 at *
          refine hi_ready (rs := [9]) (by kernel_rfl) (by simp) ?_
          refine ReadyHI.cons rfl (fun K hK => ?_) ReadyHI.nil
          go_simp
          refine hK.out _ _ ?_ (fun hHeld => ?_)
          · (try dsimp only); exact HT.out.alloc _
          clear hK K
          have szV13 : Hid ((V12.alloc (.cells #[.slice none 0 0] 54)).heap.size = V12.heap.size + 1) := by show _ = _; simp
          have A9 := hidb (At.new1 V12 (.slice none 0 0) 54)
          obtain ⟨O9, hO9⟩ : ∃ z, z = V12.heap.size := ⟨_, rfl⟩
          rw [← hO9] at A9 ⊢
          replace hO9 := hidb hO9
          replace HT := hidb (HT.out.alloc (.cells #[.slice none 0 0] 54))
          replace HZ := hidb (HZ.out.alloc (.cells #[.slice none 0 0] 54))
          replace HG := hidb (HG.out.alloc (.cells #[.slice none 0 0] 54))
          replace AO := hidb (AO.out.alloc (.cells #[.slice none 0 0] 54))
          replace AK := hidb (AK.out.alloc (.cells #[.slice none 0 0] 54))
          replace A8 := hidb (A8.out.alloc (.cells #[.slice none 0 0] 54))
          generalize V12.alloc (.cells #[.slice none 0 0] 54) = V13 at *
          refine hi_ready (rs := [10]) (by kernel_rfl) (by simp) ?_
          refine ReadyHI.cons rfl (fun K hK => ?_) ReadyHI.nil
          have NT10 : Hid (¬ O8 = T) := by
            show ¬ _
            have n1 := hOUT.out; have n1 := hRK.out; have n1 := hO8.out; have n1 := hO9.out; have n5 := HS0.out; have n6 := HTR.out; have mV13 := szV13.out; have mV12 := szV12.out; have mV11 := szV11.out; have mV1 := szV1.out
            omega
          have z0 := A8.out.c1
          have y0 := A8.out.f1
          go_simp
          refine hK.out _ _ ?_ (fun hHeld => ?_)
          · (try dsimp only); exact HT.out.skip NT10.out _ _
          clear hK K
          clear z0 y0
          have szV14 : Hid ((V13.setCell ⟨O8, 0, none⟩ (.slice (some ⟨OUT, 0, none⟩) N N)).heap.size = V13.heap.size) := by show _ = _; simp
          have nn : Hid (¬ O8 = OUT ∧ ¬ O8 = RK ∧ ¬ O8 = O9) := by
            show _ ∧ _ ∧ _
            have n1 := hOUT.out; have n1 := hRK.out; have n1 := hO8.out; have n1 := hO9.out; have n5 := HS0.out; have n6 := HTR.out; have mV13 := szV13.out; have mV12 := szV12.out; have mV11 := szV11.out; have mV1 := szV1.out
            refine ⟨?_, ?_, ?_⟩ <;> omega
          replace AO := hidb (AO.out.skip (nn.out.1) 0 (.slice (some ⟨OUT, 0, none⟩) N N))
          replace AK := hidb (AK.out.skip (nn.out.2.1) 0 (.slice (some ⟨OUT, 0, none⟩) N N))
          replace A9 := hidb (A9.out.skip (nn.out.2.2) 0 (.slice (some ⟨OUT, 0, none⟩) N N))
          clear nn
          have nn : Hid (¬ O8 = Z ∧ w2.heap.size ≤ O8) := by
            show _ ∧ _
            have n1 := hOUT.out; have n1 := hRK.out; have n1 := hO8.out; have n1 := hO9.out; have n5 := HS0.out; have n6 := HTR.out; have mV13 := szV13.out; have mV12 := szV12.out; have mV11 := szV11.out; have mV1 := szV1.out
            omega
          replace HT := hidb (HT.out.skip NT10.out 0 (.slice (some ⟨OUT, 0, none⟩) N N))
          replace HZ := hidb (HZ.out.skip nn.out.1 0 (.slice (some ⟨OUT, 0, none⟩) N N))
          replace HG := hidb (HG.out.set nn.out.2 0 (.slice (some ⟨OUT, 0, none⟩) N N))
          replace A8 := hidb (At.fill1 (A8.out.has rfl) (.slice (some ⟨OUT, 0, none⟩) N N))
          clear nn NT10
          generalize V13.setCell ⟨O8, 0, none⟩ (.slice (some ⟨OUT, 0, none⟩) N N) = V14 at *
          refine hi_ready (rs := [11]) (by kernel_rfl) (by simp) ?_
          refine ReadyHI.cons rfl (fun K hK => ?_) ReadyHI.nil
          have NT11 : Hid (¬ O9 = T) := by
            show ¬ _
            have n1 := hOUT.out; have n1 := hRK.out; have n1 := hO8.out; have n1 := hO9.out; have n5 := HS0.out; have n6 := HTR.out; have mV14 := szV14.out; have mV13 := szV13.out; have mV12 := szV12.out; have mV11 := szV11.out; have mV1 := szV1.out
            omega
          have z0 := A9.out.c1
          have y0 := A9.out.f1
          go_simp
          refine hK.out _ _ ?_ (fun hHeld => ?_)
          · (try dsimp only); exact HT.out.skip NT11.out _ _
          clear hK K
          clear z0 y0
          have szV15 : Hid ((V14.setCell ⟨O9, 0, none⟩ (.slice (some ⟨RK, 0, none⟩) N N)).heap.size = V14.heap.size) := by show _ = _; simp
          have nn : Hid (¬ O9 = OUT ∧ ¬ O9 = RK ∧ ¬ O9 = O8) := by
            show _ ∧ _ ∧ _
            have n1 := hOUT.out; have n1 := hRK.out; have n1 := hO8.out; have n1 := hO9.out; have n5 := HS0.out; have n6 := HTR.out; have mV14 := szV14.out; have mV13 := szV13.out; have mV12 := szV12.out; have mV11 := szV11.out; have mV1 := szV1.out
            refine ⟨?_, ?_, ?_⟩ <;> omega
          replace AO := hidb (AO.out.skip (nn.out.1) 0 (.slice (some ⟨RK, 0, none⟩) N N))
          replace AK := hidb (AK.out.skip (nn.out.2.1) 0 (.slice (some ⟨RK, 0, none⟩) N N))
          replace A8 := hidb (A8.out.skip (nn.out.2.2) 0 (.slice (some ⟨RK, 0, none⟩) N N))
          clear nn
          have nn : Hid (¬ O9 = Z ∧ w2.heap.size ≤ O9) := by
            show _ ∧ _
            have n1 := hOUT.out; have n1 := hRK.out; have n1 := hO8.out; have n1 := hO9.out; have n5 := HS0.out; have n6 := HTR.out; have mV14 := szV14.out; have mV13 := szV13.out; have mV12 := szV12.out; have mV11 := szV11.out; have mV1 := szV1.out
            omega
          replace HT := hidb (HT.out.skip NT11.out 0 (.slice (some ⟨RK, 0, none⟩) N N))
          replace HZ := hidb (HZ.out.skip nn.out.1 0 (.slice (some ⟨RK, 0, none⟩) N N))
          replace HG := hidb (HG.out.set nn.out.2 0 (.slice (some ⟨RK, 0, none⟩) N N))
          replace A9 := hidb (At.fill1 (A9.out.has rfl) (.slice (some ⟨RK, 0, none⟩) N N))
          clear nn NT11
          generalize V14.setCell ⟨O9, 0, none⟩ (.slice (some ⟨RK, 0, none⟩) N N) = V15 at *
          refine hi_doneN (by kernel_rfl) ?_ _
          gi_wp2_with fail
          gi_meet
          have n1 := hOUT.out; have n1 := hRK.out; have n1 := hO8.out; have n1 := hO9.out; have n5 := HS0.out; have n6 := HTR.out; have mV15 := szV15.out; have mV14 := szV14.out; have mV13 := szV13.out; have mV12 := szV12.out; have mV11 := szV11.out; have mV1 := szV1.out
          refine ⟨O8, O9, OUT, RK, rfl, rfl, hidb ⟨HZ.out, A8.out, A9.out, by rw [← iF_rep, ← HCS.out.1]; exact AO.out, ?_, ⟨?_, ?_, ?_, ?_, ?_, ?_, ?_, ?_, ?_, ?_⟩, HG.out⟩⟩
          · rw [← iF_congr (f := fun _ => 0) (g := kfn (fun _ => (0, 0))) (fun j _ => by unfold kfn; split <;> rfl), ← iF_rep, ← HCS.out.2]; exact AK.out
          all_goals omega
        · skip
          go_simp
          refine hK.out _ _ ?_ (fun hHeld => ?_)
          · (try dsimp only); exact HT.out.alloc _
          clear hK K
          have szV16 : Hid ((V11.alloc (.cells #[.slice none 0 0] 54)).heap.size = V11.heap.size + 1) := by show _ = _; simp
          have A9 := hidb (At.new1 V11 (.slice none 0 0) 54)
          obtain ⟨O9, hO9⟩ : ∃ z, z = V11.heap.size := ⟨_, rfl⟩
          rw [← hO9] at A9 ⊢
          replace hO9 := hidb hO9
          replace HT := hidb (HT.out.alloc (.cells #[.slice none 0 0] 54))
          replace HZ := hidb (HZ.out.alloc (.cells #[.slice none 0 0] 54))
          replace HG := hidb (HG.out.alloc (.cells #[.slice none 0 0] 54))
          replace AO := hidb (AO.out.alloc (.cells #[.slice none 0 0] 54))
          replace A8 := hidb (A8.out.alloc (.cells #[.slice none 0 0] 54))
          generalize V11.alloc (.cells #[.slice none 0 0] 54) = V16 at *
          refine hi_ready (rs := [7, 10]) (by kernel_rfl) (by simp) ?_
          refine ReadyHI.cons rfl (fun K hK => ?_) (ReadyHI.cons rfl (fun K hK => ?_) ReadyHI.nil)
          · skip
            go_simp
            refine hK.out _ _ ?_ (fun hHeld => ?_)
            · (try dsimp only); exact HT.out.alloc _
            clear hK K
            have szV17 : Hid ((V16.alloc (.cells CK 63)).heap.size = V16.heap.size + 1) := by show _ = _; simp
            have AK := hidb (At.newArr V16 CK 63)
            obtain ⟨RK, hRK⟩ : ∃ z, z = V16.heap.size := ⟨_, rfl⟩
            rw [← hRK] at AK ⊢
            replace hRK := hidb hRK
            replace HT := hidb (HT.out.alloc (.cells CK 63))
            replace HZ := hidb (HZ.out.alloc (.cells CK 63))
            replace HG := hidb (HG.out.alloc (.cells CK 63))
            replace AO := hidb (AO.out.alloc (.cells CK 63))
            replace A8 := hidb (A8.out.alloc (.cells CK 63))
            replace A9 := hidb (A9.out.alloc (.cells CK 63))
            generalize V16.alloc (.cells CK 63) = V17 at *
            refine hi_ready (rs := [10]) (by kernel_rfl) (by simp) ?_
            refine ReadyHI.cons rfl (fun K hK => ?_) ReadyHI.nil
            have NT10 : Hid (¬ O8 = T) := by
              show ¬ _
              have n1 := hOUT.out; have n1 := hRK.out; have n1 := hO8.out; have n1 := hO9.out; have n5 := HS0.out; have n6 := HTR.out; have mV17 := szV17.out; have mV16 := szV16.out; have mV11 := szV11.out; have mV1 := szV1.out
              omega
            have z0 := A8.out.c1
            have y0 := A8.out.f1
            go_simp
            refine hK.out _ _ ?_ (fun hHeld => ?_)
            · (try dsimp only); exact HT.out.skip NT10.out _ _
            clear hK K
            clear z0 y0
            have szV18 : Hid ((V17.setCell ⟨O8, 0, none⟩ (.slice (some ⟨OUT, 0, none⟩) N N)).heap.size = V17.heap.size) := by show _ = _; simp
            have nn : Hid (¬ O8 = OUT ∧ ¬ O8 = RK ∧ ¬ O8 = O9) := by
              show _ ∧ _ ∧ _
              have n1 := hOUT.out; have n1 := hRK.out; have n1 := hO8.out; have n1 := hO9.out; have n5 := HS0.out; have n6 := HTR.out; have mV17 := szV17.out; have mV16 := szV16.out; have mV11 := szV11.out; have mV1 := szV1.out
              refine ⟨?_, ?_, ?_⟩ <;> omega
            replace AO := hidb (AO.out.skip (nn.out.1) 0 (.slice (some ⟨OUT, 0, none⟩) N N))
            replace AK := hidb (AK.out.skip (nn.out.2.1) 0 (.slice (some ⟨OUT, 0, none⟩) N N))
            replace A9 := hidb (A9.out.skip (nn.out.2.2) 0 (.slice (some ⟨OUT, 0, none⟩) N N))
            clear nn
            have nn : Hid (¬ O8 = Z ∧ w2.heap.size ≤ O8) := by
              show _ ∧ _
              have n1 := hOUT.out; have n1 := hRK.out; have n1 := hO8.out; have n1 := hO9.out; have n5 := HS0.out; have n6 := HTR.out; have mV17 := szV17.out; have mV16 := szV16.out; have mV11 := szV11.out; have mV1 := szV1.out
              omega
            replace HT := hidb (HT.out.skip NT10.out 0 (.slice (some ⟨OUT, 0, none⟩) N N))
            replace HZ := hidb (HZ.out.skip nn.out.1 0 (.slice (some ⟨OUT, 0, none⟩) N N))
            replace HG := hidb (HG.out.set nn.out.2 0 (.slice (some ⟨OUT, 0, none⟩) N N))
            replace A8 := hidb (At.fill1 (A8.out.has rfl) (.slice (some ⟨OUT, 0, none⟩) N N))
            clear nn NT10
            generalize V17.setCell ⟨O8, 0, none⟩ (.slice (some ⟨OUT, 0, none⟩) N N) = V18 at *
            refine hi_ready (rs := [11]) (by kernel_rfl) (by simp) ?_
            refine ReadyHI.cons rfl (fun K hK => ?_) ReadyHI.nil
            have NT11 : Hid (¬ O9 = T) := by
              show ¬ _
              have n1 := hOUT.out; have n1 := hRK.out; have n1 := hO8.out; have n1 := hO9.out; have n5 := HS0.out; have n6 := HTR.out; have mV18 := szV18.out; have mV17 := szV17.out; have mV16 := szV16.out; have mV11 := szV11.out; have mV1 := szV1.out
              omega
            have z0 := A9.out.c1
            have y0 := A9.out.f1
            go_simp
            refine hK.out _ _ ?_ (fun hHeld => ?_)
            · (try dsimp only); exact HT.out.skip NT11.out _ _
            clear hK K
            clear z0 y0
            have szV19 : Hid ((V18.setCell ⟨O9, 0, none⟩ (.slice (some ⟨RK, 0, none⟩) N N)).heap.size = V18.heap.size) := by show _ = _; simp
            have nn : Hid (¬ O9 = OUT ∧ ¬ O9 = RK ∧ ¬ O9 = O8) := by
              show _ ∧ _ ∧ _
              have n1 := hOUT.out; have n1 := hRK.out; have n1 := hO8.out; have n1 := hO9.out; have n5 := HS0.out; have n6 := HTR.out; have mV18 := szV18.out; have mV17 := szV17.out; have mV16 := szV16.out; have mV11 := szV11.out; have mV1 := szV1.out
              refine ⟨?_, ?_, ?_⟩ <;> omega
            replace AO := hidb (AO.out.skip (nn.out.1) 0 (.slice (some ⟨RK, 0, none⟩) N N))
            replace AK := hidb (AK.out.skip (nn.out.2.1) 0 (.slice (some ⟨RK, 0, none⟩) N N))
            replace A8 := hidb (A8.out.skip (nn.out.2.2) 0 (.slice (some ⟨RK, 0, none⟩) N N))
            clear nn
            have nn : Hid (¬ O9 = Z ∧ w2.heap.size ≤ O9) := by
              show _ ∧ _
              have n1 := hOUT.out; have n1 := hRK.out; have n1 := hO8.out; have n1 := hO9.out; have n5 := HS0.out; have n6 := HTR.out; have mV18 := szV18.out; have mV17 := szV17.out; have mV16 := szV16.out; have mV11 := szV11.out; have mV1 := szV1.out
              omega
            replace HT := hidb (HT.out.skip NT11.out 0 (.slice (some ⟨RK, 0, none⟩) N N))
            replace HZ := hidb (HZ.out.skip nn.out.1 0 (.slice (some ⟨RK, 0, none⟩) N N))
            replace HG := hidb (HG.out.set nn.out.2 0 (.slice (some ⟨RK, 0, none⟩) N N))
            replace A9 := hidb (At.fill1 (A9.out.has rfl) (.slice (some ⟨RK, 0, none⟩) N N))
            clear nn NT11
            generalize V18.setCell ⟨O9, 0, none⟩ (.slice (some ⟨RK, 0, none⟩) N N) = V19 at *
            refine hi_doneN (by kernel_rfl) ?_ _
            gi_wp2_with fail
            gi_meet
            have n1 := hOUT.out; have n1 := hRK.out; have n1 := hO8.out; have n1 := hO9.out; have n5 := HS0.out; have n6 := HTR.out; have mV19 := szV19.out; have mV18 := szV18.out; have mV17 := szV17.out; have mV16 := szV16.out; have mV11 := szV11.out; have mV1 := szV1.out
            refine ⟨O8, O9, OUT, RK, rfl, rfl, hidb ⟨HZ.out, A8.out, A9.out, by rw [← iF_rep, ← HCS.out.1]; exact AO.out, ?_, ⟨?_, ?_, ?_, ?_, ?_, ?_, ?_, ?_, ?_, ?_⟩, HG.out⟩⟩
            · rw [← iF_congr (f := fun _ => 0) (g := kfn (fun _ => (0, 0))) (fun j _ => by unfold kfn; split <;> rfl), ← iF_rep, ← HCS.out.2]; exact AK.out
            all_goals omega
          · skip
            have NT10 : Hid (¬ O8 = T) := by
              show ¬ _
              have n1 := hOUT.out; have n1 := hO8.out; have n1 := hO9.out; have n5 := HS0.out; have n6 := HTR.out; have mV16 := szV16.out; have mV11 := szV11.out; have mV1 := szV1.out
              omega
            have z0 := A8.out.c1
            have y0 := A8.out.f1
            go_simp
            refine hK.out _ _ ?_ (fun hHeld => ?_)
            · (try dsimp only); exact HT.out.skip NT10.out _ _
            clear hK K
            clear z0 y0
            have szV20 : Hid ((V16.setCell ⟨O8, 0, none⟩ (.slice (some ⟨OUT, 0, none⟩) N N)).heap.size = V16.heap.size) := by show _ = _; simp
            have nn : Hid (¬ O8 = OUT ∧ ¬ O8 = O9) := by
              show _ ∧ _
              have n1 := hOUT.out; have n1 := hO8.out; have n1 := hO9.out; have n5 := HS0.out; have n6 := HTR.out; have mV16 := szV16.out; have mV11 := szV11.out; have mV1 := szV1.out
              refine ⟨?_, ?_⟩ <;> omega
            replace AO := hidb (AO.out.skip (nn.out.1) 0 (.slice (some ⟨OUT, 0, none⟩) N N))
            replace A9 := hidb (A9.out.skip (nn.out.2) 0 (.slice (some ⟨OUT, 0, none⟩) N N))
            clear nn
            have nn : Hid (¬ O8 = Z ∧ w2.heap.size ≤ O8) := by
              show _ ∧ _
              have n1 := hOUT.out; have n1 := hO8.out; have n1 := hO9.out; have n5 := HS0.out; have n6 := HTR.out; have mV16 := szV16.out; have mV11 := szV11.out; have mV1 := szV1.out
              omega
            replace HT := hidb (HT.out.skip NT10.out 0 (.slice (some ⟨OUT, 0, none⟩) N N))
            replace HZ := hidb (HZ.out.skip nn.out.1 0 (.slice (some ⟨OUT, 0, none⟩) N N))
            replace HG := hidb (HG.out.set nn.out.2 0 (.slice (some ⟨OUT, 0, none⟩) N N))
            replace A8 := hidb (At.fill1 (A8.out.has rfl) (.slice (some ⟨OUT, 0, none⟩) N N))
            clear nn NT10
            generalize V16.setCell ⟨O8, 0, none⟩ (.slice (some ⟨OUT, 0, none⟩) N N) = V20 at *
            refine hi_ready (rs := [7]) (by kernel_rfl) (by simp) ?_
            refine ReadyHI.cons rfl (fun K hK => ?_) ReadyHI.nil
            go_simp
            refine hK.out _ _ ?_ (fun hHeld => ?_)
            · (try dsimp only); exact HT.out.alloc _
            clear hK K
            have szV21 : Hid ((V20.alloc (.cells CK 63)).heap.size = V20.heap.size + 1) := by show _ = _; simp
            have AK := hidb (At.newArr V20 CK 63)
            obtain ⟨RK, hRK⟩ : ∃ z, z = V20.heap.size := ⟨_, rfl⟩
            rw [← hRK] at AK ⊢
            replace hRK := hidb hRK
            replace HT := hidb (HT.out.alloc (.cells CK 63))
            replace HZ := hidb (HZ.out.alloc (.cells CK 63))
            replace HG := hidb (HG.out.alloc (.cells CK 63))
            replace AO := hidb (AO.out.alloc (.cells CK 63))
            replace A8 := hidb (A8.out.alloc (.cells CK 63))
            replace A9 := hidb (A9.out.alloc (.cells CK 63))
            generalize V20.alloc (.cells CK 63) = V21 at *
            refine hi_ready (rs := [11]) (by kernel_rfl) (by simp) ?_
            refine ReadyHI.cons rfl (fun K hK => ?_) ReadyHI.nil
            have NT11 : Hid (¬ O9 = T) := by
              show ¬ _
              have n1 := hOUT.out; have n1 := hRK.out; have n1 := hO8.out; have n1 := hO9.out; have n5 := HS0.out; have n6 := HTR.out; have mV21 := szV21.out; have mV20 := szV20.out; have mV16 := szV16.out; have mV11 := szV11.out; have mV1 := szV1.out
              omega
            have z0 := A9.out.c1
            have y0 := A9.out.f1
            go_simp
            refine hK.out _ _ ?_ (fun hHeld => ?_)
            · (try dsimp only); exact HT.out.skip NT11.out _ _
            clear hK K
            clear z0 y0
            have szV22 : Hid ((V21.setCell ⟨O9, 0, none⟩ (.slice (some ⟨RK, 0, none⟩) N N)).heap.size = V21.heap.size) := by show _ = _; simp
            have nn : Hid (¬ O9 = OUT ∧ ¬ O9 = RK ∧ ¬ O9 = O8) := by
              show _ ∧ _ ∧ _
              have n1 := hOUT.out; have n1 := hRK.out; have n1 := hO8.out; have n1 := hO9.out; have n5 := HS0.out; have n6 := HTR.out; have mV21 := szV21.out; have mV20 := szV20.out; have mV16 := szV16.out; have mV11 := szV11.out; have mV1 := szV1.out
              refine ⟨?_, ?_, ?_⟩ <;> omega
            replace AO := hidb (AO.out.skip (nn.out.1) 0 (.slice (some ⟨RK, 0, none⟩) N N))
            replace AK := hidb (AK.out.skip (nn.out.2.1) 0 (.slice (some ⟨RK, 0, none⟩) N N))
            replace A8 := hidb (A8.out.skip (nn.out.2.2) 0 (.slice (some ⟨RK, 0, none⟩) N N))
            clear nn
            have nn : Hid (¬ O9 = Z ∧ w2.heap.size ≤ O9) := by
              show _ ∧ _
              have n1 := hOUT.out; have n1 := hRK.out; have n1 := hO8.out; have n1 := hO9.out; have n5 := HS0.out; have n6 := HTR.out; have mV21 := szV21.out; have mV20 := szV20.out; have mV16 := szV16.out; have mV11 := szV11.out; have mV1 := szV1.out
              omega
            replace HT := hidb (HT.out.skip NT11.out 0 (.slice (some ⟨RK, 0, none⟩) N N))
            replace HZ := hidb (HZ.out.skip nn.out.1 0 (.slice (some ⟨RK, 0, none⟩) N N))
            replace HG := hidb (HG.out.set nn.out.2 0 (.slice (some ⟨RK, 0, none⟩) N N))
            replace A9 := hidb (At.fill1 (A9.out.has rfl) (.slice (some ⟨RK, 0, none⟩) N N))
            clear nn NT11
            generalize V21.setCell ⟨O9, 0, none⟩ (.slice (some ⟨RK, 0, none⟩) N N) = V22 at *
            refine hi_doneN (by kernel_rfl) ?_ _
            gi_wp2_with fail
            gi_meet
            have n1 := hOUT.out; have n1 := hRK.out; have n1 := hO8.out; have n1 := hO9.out; have n5 := HS0.out; have n6 := HTR.out; have mV22 := szV22.out; have mV21 := szV21.out; have mV20 := szV20.out; have mV16 := szV16.out; have mV11 := szV11.out; have mV1 := szV1.out
            refine ⟨O8, O9, OUT, RK, rfl, rfl, hidb ⟨HZ.out, A8.out, A9.out, by rw [← iF_rep, ← HCS.out.1]; exact AO.out, ?_, ⟨?_, ?_, ?_, ?_, ?_, ?_, ?_, ?_, ?_, ?_⟩, HG.out⟩⟩
            · rw [← iF_congr (f := fun _ => 0) (g := kfn (fun _ => (0, 0))) (fun j _ => by unfold kfn; split <;> rfl), ← iF_rep, ← HCS.out.2]; exact AK.out
            all_goals omega
      · skip
        go_simp
        refine hK.out _ _ ?_ (fun hHeld => ?_)
        · (try dsimp only); exact HT.out.alloc _
        clear hK K
        have szV23 : Hid ((V1.alloc (.cells #[.slice none 0 0] 54)).heap.size = V1.heap.size + 1) := by show _ = _; simp
        have A9 := hidb (At.new1 V1 (.slice none 0 0) 54)
        obtain ⟨O9, hO9⟩ : ∃ z, z = V1.heap.size := ⟨_, rfl⟩
        rw [← hO9] at A9 ⊢
        replace hO9 := hidb hO9
        replace HT := hidb (HT.out.alloc (.cells #[.slice none 0 0] 54))
        replace HZ := hidb (HZ.out.alloc (.cells #[.slice none 0 0] 54))
        replace HG := hidb (HG.out.alloc (.cells #[.slice none 0 0] 54))
        replace AO := hidb (AO.out.alloc (.cells #[.slice none 0 0] 54))
        generalize V1.alloc (.cells #[.slice none 0 0] 54) = V23 at *
        refine hi_ready (rs := [7, 8]) (by kernel_rfl) (by simp) ?_
        refine ReadyHI.cons rfl (fun K hK => ?_) (ReadyHI.cons rfl (fun K hK => ?_) ReadyHI.nil)
        · skip
          go_simp
          refine hK.out _ _ ?_ (fun hHeld => ?_)
          · (try dsimp only); exact HT.out.alloc _
          clear hK K
          have szV24 : Hid ((V23.alloc (.cells CK 63)).heap.size = V23.heap.size + 1) := by show _ = _; simp
          have AK := hidb (At.newArr V23 CK 63)
          obtain ⟨RK, hRK⟩ : ∃ z, z = V23.heap.size := ⟨_, rfl⟩
          rw [← hRK] at AK ⊢
          replace hRK := hidb hRK
          replace HT := hidb (HT.out.alloc (.cells CK 63))
          replace HZ := hidb (HZ.out.alloc (.cells CK 63))
          replace HG := hidb (HG.out.alloc (.cells CK 63))
          replace AO := hidb (AO.out.alloc (.cells CK 63))
          replace A9 := hidb (A9.out.alloc (.cells CK 63))
          generalize V23.alloc (.cells CK 63) = V24 at *
          refine hi_ready (rs := [8]) (by kernel_rfl) (by simp) ?_
          refine ReadyHI.cons rfl (fun K hK => ?_) ReadyHI.nil
          go_simp
          refine hK.out _ _ ?_ (fun hHeld => ?_)
          · (try dsimp only); exact HT.out.alloc _
          clear hK K
          have szV25 : Hid ((V24.alloc (.cells #[.slice none 0 0] 30)).heap.size = V24.heap.size + 1) := by show _ = _; simp
          have A8 := hidb (At.new1 V24 (.slice none 0 0) 30)
          obtain ⟨O8, hO8⟩ : ∃ z, z = V24.heap.size := ⟨_, rfl⟩
          rw [← hO8] at A8 ⊢
          replace hO8 := hidb hO8
          replace HT := hidb (HT.out.alloc (.cells #[.slice none 0 0] 30))
          replace HZ := hidb (HZ.out.alloc (.cells #[.slice none 0 0] 30))
          replace HG := hidb (HG.out.alloc (.cells #[.slice none 0 0] 30))
          replace AO := hidb (AO.out.alloc (.cells #[.slice none 0 0] 30))
          replace AK := hidb (AK.out.alloc (.cells #[.slice none 0 0] 30))
          replace A9 := hidb (A9.out.alloc (.cells #[.slice none 0 0] 30))
          generalize V24.alloc (.cells #[.slice none 0 0] 30) = V25 at *
          refine hi_ready (rs := [10]) (by kernel_rfl) (by simp) ?_
          refine ReadyHI.cons rfl (fun K hK => ?_) ReadyHI.nil
          have NT10 : Hid (¬ O8 = T) := by
            show ¬ _
            have n1 := hOUT.out; have n1 := hRK.out; have n1 := hO8.out; have n1 := hO9.out; have n5 := HS0.out; have n6 := HTR.out; have mV25 := szV25.out; have mV24 := szV24.out; have mV23 := szV23.out; have mV1 := szV1.out
            omega
          have z0 := A8.out.c1
          have y0 := A8.out.f1
          go_simp
          refine hK.out _ _ ?_ (fun hHeld => ?_)
          · (try dsimp only); exact HT.out.skip NT10.out _ _
          clear hK K
          clear z0 y0
          have szV26 : Hid ((V25.setCell ⟨O8, 0, none⟩ (.slice (some ⟨OUT, 0, none⟩) N N)).heap.size = V25.heap.size) := by show _ = _; simp
          have nn : Hid (¬ O8 = OUT ∧ ¬ O8 = RK ∧ ¬ O8 = O9) := by
            show _ ∧ _ ∧ _
            have n1 := hOUT.out; have n1 := hRK.out; have n1 := hO8.out; have n1 := hO9.out; have n5 := HS0.out; have n6 := HTR.out; have mV25 := szV25.out; have mV24 := szV24.out; have mV23 := szV23.out; have mV1 := szV1.out
            refine ⟨?_, ?_, ?_⟩ <;> omega
          replace AO := hidb (AO.out.skip (nn.out.1) 0 (.slice (some ⟨OUT, 0, none⟩) N N))
          replace AK := hidb (AK.out.skip (nn.out.2.1) 0 (.slice (some ⟨OUT, 0, none⟩) N N))
          replace A9 := hidb (A9.out.skip (nn.out.2.2) 0 (.slice (some ⟨OUT, 0, none⟩) N N))
          clear nn
          have nn : Hid (¬ O8 = Z ∧ w2.heap.size ≤ O8) := by
            show _ ∧ _
            have n1 := hOUT.out; have n1 := hRK.out; have n1 := hO8.out; have n1 := hO9.out; have n5 := HS0.out; have n6 := HTR.out; have mV25 := szV25.out; have mV24 := szV24.out; have mV23 := szV23.out; have mV1 := szV1.out
            omega
          replace HT := hidb (HT.out.skip NT10.out 0 (.slice (some ⟨OUT, 0, none⟩) N N))
          replace HZ := hidb (HZ.out.skip nn.out.1 0 (.slice (some ⟨OUT, 0, none⟩) N N))
          replace HG := hidb (HG.out.set nn.out.2 0 (.slice (some ⟨OUT, 0, none⟩) N N))
          replace A8 := hidb (At.fill1 (A8.out.has rfl) (.slice (some ⟨OUT, 0, none⟩) N N))
          clear nn NT10
          generalize V25.setCell ⟨O8, 0, none⟩ (.slice (some ⟨OUT, 0, none⟩) N N) = V26 at *
          refine hi_ready (rs := [11]) (by kernel_rfl) (by simp) ?_
          refine ReadyHI.cons rfl (fun K hK => ?_) ReadyHI.nil
          have NT11 : Hid (¬ O9 = T) := by
            show ¬ _
            have n1 := hOUT.out; have n1 := hRK.out; have n1 := hO8.out; have n1 := hO9.out; have n5 := HS0.out; have n6 := HTR.out; have mV26 := szV26.out; have mV25 := szV25.out; have mV24 := szV24.out; have mV23 := szV23.out; have mV1 := szV1.out
            omega
          have z0 := A9.out.c1
          have y0 := A9.out.f1
          go_simp
          refine hK.out _ _ ?_ (fun hHeld => ?_)
          · (try dsimp only); exact HT.out.skip NT11.out _ _
          clear hK K
          clear z0 y0
          have szV27 : Hid ((V26.setCell ⟨O9, 0, none⟩ (.slice (some ⟨RK, 0, none⟩) N N)).heap.size = V26.heap.size) := by show _ = _; simp
          have nn : Hid (¬ O9 = OUT ∧ ¬ O9 = RK ∧ ¬ O9 = O8) := by
            show _ ∧ _ ∧ _
            have n1 := hOUT.out; have n1 := hRK.out; have n1 := hO8.out; have n1 := hO9.out; have n5 := HS0.out; have n6 := HTR.out; have mV26 := szV26.out; have mV25 := szV25.out; have mV24 := szV24.out; have mV23 := szV23.out; have mV1 := szV1.out
            refine ⟨?_, ?_, ?_⟩ <;> omega
          replace AO := hidb (AO.out.skip (nn.out.1) 0 (.slice (some ⟨RK, 0, none⟩) N N))
          replace AK := hidb (AK.out.skip (nn.out.2.1) 0 (.slice (some ⟨RK, 0, none⟩) N N))
          replace A8 := hidb (A8.out.skip (nn.out.2.2) 0 (.slice (some ⟨RK, 0, none⟩) N N))
          clear nn
          have nn : Hid (¬ O9 = Z ∧ w2.heap.size ≤ O9) := by
            show _ ∧ _
            have n1 := hOUT.out; have n1 := hRK.out; have n1 := hO8.out; have n1 := hO9.out; have n5 := HS0.out; have n6 := HTR.out; have mV26 := szV26.out; have mV25 := szV25.out; have mV24 := szV24.out; have mV23 := szV23.out; have mV1 := szV1.out
            omega
          replace HT := hidb (HT.out.skip NT11.out 0 (.slice (some ⟨RK, 0, none⟩) N N))
          replace HZ := hidb (HZ.out.skip nn.out.1 0 (.slice (some ⟨RK, 0, none⟩) N N))
          replace HG := hidb (HG.out.set nn.out.2 0 (.slice (some ⟨RK, 0, none⟩) N N))
          replace A9 := hidb (At.fill1 (A9.out.has rfl) (.slice (some ⟨RK, 0, none⟩) N N))
          clear nn NT11
          generalize V26.setCell ⟨O9, 0, none⟩ (.slice (some ⟨RK, 0, none⟩) N N) = V27 at *
          refine hi_doneN (by kernel_rfl) ?_ _
          gi_wp2_with fail
          gi_meet
          have n1 := hOUT.out; have n1 := hRK.out; have n1 := hO8.out; have n1 := hO9.out; have n5 := HS0.out; have n6 := HTR.out; have mV27 := szV27.out; have mV26 := szV26.out; have mV25 := szV25.out; have mV24 := szV24.out; have mV23 := szV23.out; have mV1 := szV1.out
          refine ⟨O8, O9, OUT, RK, rfl, rfl, hidb ⟨HZ.out, A8.out, A9.out, by rw [← iF_rep, ← HCS.out.1]; exact AO.out, ?_, ⟨?_, ?_, ?_, ?_, ?_, ?_, ?_, ?_, ?_, ?_⟩, HG.out⟩⟩
          · rw [← iF_congr (f := fun _ => 0) (g := kfn (fun _ => (0, 0))) (fun j _ => by unfold kfn; split <;> rfl), ← iF_rep, ← HCS.out.2]; exact AK.out
          all_goals omega
        · skip
          go_simp
          refine hK.out _ _ ?_ (fun hHeld => ?_)
          · (try dsimp only); exact HT.out.alloc _
          clear hK K
          have szV28 : Hid ((V23.alloc (.cells #[.slice none 0 0] 30)).heap.size = V23.heap.size + 1) := by show _ = _; simp
          have A8 := hidb (At.new1 V23 (.slice none 0 0) 30)
          obtain ⟨O8, hO8⟩ : ∃ z, z = V23.heap.size := ⟨_, rfl⟩
          rw [← hO8] at A8 ⊢
          replace hO8 := hidb hO8
          replace HT := hidb (HT.out.alloc (.cells #[.slice none 0 0] 30))
          replace HZ := hidb (HZ.out.alloc (.cells #[.slice none 0 0] 30))
          replace HG := hidb (HG.out.alloc (.cells #[.slice none 0 0] 30))
          replace AO := hidb (AO.out.alloc (.cells #[.slice none 0 0] 30))
          replace A9 := hidb (A9.out.alloc (.cells #[.slice none 0 0] 30))
          generalize V23.alloc (.cells #[.slice none 0 0] 30) = V28 at *
          refine hi_ready (rs := [7, 10]) (by kernel_rfl) (by simp) ?_
          refine ReadyHI.cons rfl (fun K hK => ?_) (ReadyHI.cons rfl (fun K hK => ?_) ReadyHI.nil)
          · skip
            go_simp
            refine hK.out _ _ ?_ (fun hHeld => ?_)
            · (try dsimp only); exact HT.out.alloc _
            clear hK K
            have szV29 : Hid ((V28.alloc (.cells CK 63)).heap.size = V28.heap.size + 1) := by show _ = _; simp
            have AK := hidb (At.newArr V28 CK 63)
            obtain ⟨RK, hRK⟩ : ∃ z, z = V28.heap.size := ⟨_, rfl⟩
            rw [← hRK] at AK ⊢
            replace hRK := hidb hRK
            replace HT := hidb (HT.out.alloc (.cells CK 63))
            replace HZ := hidb (HZ.out.alloc (.cells CK 63))
            replace HG := hidb (HG.out.alloc (.cells CK 63))
            replace AO := hidb (AO.out.alloc (.cells CK 63))
            replace A8 := hidb (A8.out.alloc (.cells CK 63))
            replace A9 := hidb (A9.out.alloc (.cells CK 63))
            generalize V28.alloc (.cells CK 63) = V29 at *
            refine hi_ready (rs := [10]) (by kernel_rfl) (by simp) ?_
            refine ReadyHI.cons rfl (fun K hK => ?_) ReadyHI.nil
            have NT10 : Hid (¬ O8 = T) := by
              show ¬ _
              have n1 := hOUT.out; have n1 := hRK.out; have n1 := hO8.out; have n1 := hO9.out; have n5 := HS0.out; have n6 := HTR.out; have mV29 := szV29.out; have mV28 := szV28.out; have mV23 := szV23.out; have mV1 := szV1.out
              omega
            have z0 := A8.out.c1
            have y0 := A8.out.f1
            go_simp
            refine hK.out _ _ ?_ (fun hHeld => ?_)
            · (try dsimp only); exact HT.out.skip NT10.out _ _
            clear hK K
            clear z0 y0
            have szV30 : Hid ((V29.setCell ⟨O8, 0, none⟩ (.slice (some ⟨OUT, 0, none⟩) N N)).heap.size = V29.heap.size) := by show _ = _; simp
            have nn : Hid (¬ O8 = OUT ∧ ¬ O8 = RK ∧ ¬ O8 = O9) := by
              show _ ∧ _ ∧ _
              have n1 := hOUT.out; have n1 := hRK.out; have n1 := hO8.out; have n1 := hO9.out; have n5 := HS0.out; have n6 := HTR.out; have mV29 := szV29.out; have mV28 := szV28.out; have mV23 := szV23.out; have mV1 := szV1.out
              refine ⟨?_, ?_, ?_⟩ <;> omega
            replace AO := hidb (AO.out.skip (nn.out.1) 0 (.slice (some ⟨OUT, 0, none⟩) N N))
            replace AK := hidb (AK.out.skip (nn.out.2.1) 0 (.slice (some ⟨OUT, 0, none⟩) N N))
            replace A9 := hidb (A9.out.skip (nn.out.2.2) 0 (.slice (some ⟨OUT, 0, none⟩) N N))
            clear nn
            have nn : Hid (¬ O8 = Z ∧ w2.heap.size ≤ O8) := by
              show _ ∧ _
              have n1 := hOUT.out; have n1 := hRK.out; have n1 := hO8.out; have n1 := hO9.out; have n5 := HS0.out; have n6 := HTR.out; have mV29 := szV29.out; have mV28 := szV28.out; have mV23 := szV23.out; have mV1 := szV1.out
              omega
            replace HT := hidb (HT.out.skip NT10.out 0 (.slice (some ⟨OUT, 0, none⟩) N N))
            replace HZ := hidb (HZ.out.skip nn.out.1 0 (.slice (some ⟨OUT, 0, none⟩) N N))
            replace HG := hidb (HG.out.set nn.out.2 0 (.slice (some ⟨OUT, 0, none⟩) N N))
            replace A8 := hidb (At.fill1 (A8.out.has rfl) (.slice (some ⟨OUT, 0, none⟩) N N))
            clear nn NT10
            generalize V29.setCell ⟨O8, 0, none⟩ (.slice (some ⟨OUT, 0, none⟩) N N) = V30 at *
            refine hi_ready (rs := [11]) (by kernel_rfl) (by simp) ?_
            refine ReadyHI.cons rfl (fun K hK => ?_) ReadyHI.nil
            have NT11 : Hid (¬ O9 = T) := by
              show ¬ _
              have n1 := hOUT.out; have n1 := hRK.out; have n1 := hO8.out; have n1 := hO9.out; have n5 := HS0.out; have n6 := HTR.out; have mV30 := szV30.out; have mV29 := szV29.out; have mV28 := szV28.out; have mV23 := szV23.out; have mV1 := szV1.out
              omega
            have z0 := A9.out.c1
            have y0 := A9.out.f1
            go_simp
            refine hK.out _ _ ?_ (fun hHeld => ?_)
            · (try dsimp only); exact HT.out.skip NT11.out _ _
            clear hK K
            clear z0 y0
            have szV31 : Hid ((V30.setCell ⟨O9, 0, none⟩ (.slice (some ⟨RK, 0, none⟩) N N)).heap.size = V30.heap.size) := by show _ = _; simp
            have nn : Hid (¬ O9 = OUT ∧ ¬ O9 = RK ∧ ¬ O9 = O8) := by
              show _ ∧ _ ∧ _
              have n1 := hOUT.out; have n1 := hRK.out; have n1 := hO8.out; have n1 := hO9.out; have n5 := HS0.out; have n6 := HTR.out; have mV30 := szV30.out; have mV29 := szV29.out; have mV28 := szV28.out; have mV23 := szV23.out; have mV1 := szV1.out
              refine ⟨?_, ?_, ?_⟩ <;> omega
            replace AO := hidb (AO.out.skip (nn.out.1) 0 (.slice (some ⟨RK, 0, none⟩) N N))
            replace AK := hidb (AK.out.skip (nn.out.2.1) 0 (.slice (some ⟨RK, 0, none⟩) N N))
            replace A8 := hidb (A8.out.skip (nn.out.2.2) 0 (.slice (some ⟨RK, 0, none⟩) N N))
            clear nn
            have nn : Hid (¬ O9 = Z ∧ w2.heap.size ≤ O9) := by
              show _ ∧ _
              have n1 := hOUT.out; have n1 := hRK.out; have n1 := hO8.out; have n1 := hO9.out; have n5 := HS0.out; have n6 := HTR.out; have mV30 := szV30.out; have mV29 := szV29.out; have mV28 := szV28.out; have mV23 := szV23.out; have mV1 := szV1.out
              omega
            replace HT := hidb (HT.out.skip NT11.out 0 (.slice (some ⟨RK, 0, none⟩) N N))
            replace HZ := hidb (HZ.out.skip nn.out.1 0 (.slice (some ⟨RK, 0, none⟩) N N))
            replace HG := hidb (HG.out.set nn.out.2 0 (.slice (some ⟨RK, 0, none⟩) N N))
            replace A9 := hidb (At.fill1 (A9.out.has rfl) (.slice (some ⟨RK, 0, none⟩) N N))
            clear nn NT11
            generalize V30.setCell ⟨O9, 0, none⟩ (.slice (some ⟨RK, 0, none⟩) N N) = V31 at *
            refine hi_doneN (by kernel_rfl) ?_ _
            gi_wp2_with fail
            gi_meet
            have n1 := hOUT.out; have n1 := hRK.out; have n1 := hO8.out; have n1 := hO9.out; have n5 := HS0.out; have n6 := HTR.out; have mV31 := szV31.out; have mV30 := szV30.out; have mV29 := szV29.out; have mV28 := szV28.out; have mV23 := szV23.out; have mV1 := szV1.out
            refine ⟨O8, O9, OUT, RK, rfl, rfl, hidb ⟨HZ.out, A8.out, A9.out, by rw [← iF_rep, ← HCS.out.1]; exact AO.out, ?_, ⟨?_, ?_, ?_, ?_, ?_, ?_, ?_, ?_, ?_, ?_⟩, HG.out⟩⟩
            · rw [← iF_congr (f := fun _ => 0) (g := kfn (fun _ => (0, 0))) (fun j _ => by unfold kfn; split <;> rfl), ← iF_rep, ← HCS.out.2]; exact AK.out
            all_goals omega
          · skip
            have NT10 : Hid (¬ O8 = T) := by
              show ¬ _
              have n1 := hOUT.out; have n1 := hO8.out; have n1 := hO9.out; have n5 := HS0.out; have n6 := HTR.out; have mV28 := szV28.out; have mV23 := szV23.out; have mV1 := szV1.out
              omega
            have z0 := A8.out.c1
            have y0 := A8.out.f1
            go_simp
            refine hK.out _ _ ?_ (fun hHeld => ?_)
            · (try dsimp only); exact HT.out.skip NT10.out _ _
            clear hK K
            clear z0 y0
            have szV32 : Hid ((V28.setCell ⟨O8, 0, none⟩ (.slice (some ⟨OUT, 0, none⟩) N N)).heap.size = V28.heap.size) := by show _ = _; simp
            have nn : Hid (¬ O8 = OUT ∧ ¬ O8 = O9) := by
              show _ ∧ _
              have n1 := hOUT.out; have n1 := hO8.out; have n1 := hO9.out; have n5 := HS0.out; have n6 := HTR.out; have mV28 := szV28.out; have mV23 := szV23.out; have mV1 := szV1.out
              refine ⟨?_, ?_⟩ <;> omega
            replace AO := hidb (AO.out.skip (nn.out.1) 0 (.slice (some ⟨OUT, 0, none⟩) N N))
            replace A9 := hidb (A9.out.skip (nn.out.2) 0 (.slice (some ⟨OUT, 0, none⟩) N N))
            clear nn
            have nn : Hid (¬ O8 = Z ∧ w2.heap.size ≤ O8) := by
              show _ ∧ _
              have n1 := hOUT.out; have n1 := hO8.out; have n1 := hO9.out; have n5 := HS0.out; have n6 := HTR.out; have mV28 := szV28.out; have mV23 := szV23.out; have mV1 := szV1.out
              omega
            replace HT := hidb (HT.out.skip NT10.out 0 (.slice (some ⟨OUT, 0, none⟩) N N))
            replace HZ := hidb (HZ.out.skip nn.out.1 0 (.slice (some ⟨OUT, 0, none⟩) N N))
            replace HG := hidb (HG.out.set nn.out.2 0 (.slice (some ⟨OUT, 0, none⟩) N N))
            replace A8 := hidb (At.fill1 (A8.out.has rfl) (.slice (some ⟨OUT, 0, none⟩) N N))
            clear nn NT10
            generalize V28.setCell ⟨O8, 0, none⟩ (.slice (some ⟨OUT, 0, none⟩) N N) = V32 at *
            refine hi_ready (rs := [7]) (by kernel_rfl) (by simp) ?_
            refine ReadyHI.cons rfl (fun K hK => ?_) ReadyHI.nil
            go_simp
            refine hK.out _ _ ?_ (fun hHeld => ?_)
            · (try dsimp only); exact HT.out.alloc _
            clear hK K
            have szV33 : Hid ((V32.alloc (.cells CK 63)).heap.size = V32.heap.size + 1) := by show _ = _; simp
            have AK := hidb (At.newArr V32 CK 63)
            obtain ⟨RK, hRK⟩ : ∃ z, z = V32.heap.size := ⟨_, rfl⟩
            rw [← hRK] at AK ⊢
            replace hRK := hidb hRK
            replace HT := hidb (HT.out.alloc (.cells CK 63))
            replace HZ := hidb (HZ.out.alloc (.cells CK 63))
            replace HG := hidb (HG.out.alloc (.cells CK 63))
            replace AO := hidb (AO.out.alloc (.cells CK 63))
            replace A8 := hidb (A8.out.alloc (.cells CK 63))
            replace A9 := hidb (A9.out.alloc (.cells CK 63))
            generalize V32.alloc (.cells CK 63) = V33 at *
            refine hi_ready (rs := [11]) (by kernel_rfl) (by simp) ?_
            refine ReadyHI.cons rfl (fun K hK => ?_) ReadyHI.nil
            have NT11 : Hid (¬ O9 = T) := by
              show ¬ _
              have n1 := hOUT.out; have n1 := hRK.out; have n1 := hO8.out; have n1 := hO9.out; have n5 := HS0.out; have n6 := HTR.out; have mV33 := szV33.out; have mV32 := szV32.out; have mV28 := szV28.out; have mV23 := szV23.out; have mV1 := szV1.out
              omega
            have z0 := A9.out.c1
            have y0 := A9.out.f1
            go_simp
            refine hK.out _ _ ?_ (fun hHeld => ?_)
            · (try dsimp only); exact HT.out.skip NT11.out _ _
            clear hK K
            clear z0 y0
            have szV34 : Hid ((V33.setCell ⟨O9, 0, none⟩ (.slice (some ⟨RK, 0, none⟩) N N)).heap.size = V33.heap.size) := by show _ = _; simp
            have nn : Hid (¬ O9 = OUT ∧ ¬ O9 = RK ∧ ¬ O9 = O8) := by
              show _ ∧ _ ∧ _
              have n1 := hOUT.out; have n1 := hRK.out; have n1 := hO8.out; have n1 := hO9.out; have n5 := HS0.out; have n6 := HTR.out; have mV33 := szV33.out; have mV32 := szV32.out; have mV28 := szV28.out; have mV23 := szV23.out; have mV1 := szV1.out
              refine ⟨?_, ?_, ?_⟩ <;> omega
            replace AO := hidb (AO.out.skip (nn.out.1) 0 (.slice (some ⟨RK, 0, none⟩) N N))
            replace AK := hidb (AK.out.skip (nn.out.2.1) 0 (.slice (some ⟨RK, 0, none⟩) N N))
            replace A8 := hidb (A8.out.skip (nn.out.2.2) 0 (.slice (some ⟨RK, 0, none⟩) N N))
            clear nn
            have nn : Hid (¬ O9 = Z ∧ w2.heap.size ≤ O9) := by
              show _ ∧ _
              have n1 := hOUT.out; have n1 := hRK.out; have n1 := hO8.out; have n1 := hO9.out; have n5 := HS0.out; have n6 := HTR.out; have mV33 := szV33.out; have mV32 := szV32.out; have mV28 := szV28.out; have mV23 := szV23.out; have mV1 := szV1.out
              omega
            replace HT := hidb (HT.out.skip NT11.out 0 (.slice (some ⟨RK, 0, none⟩) N N))
            replace HZ := hidb (HZ.out.skip nn.out.1 0 (.slice (some ⟨RK, 0, none⟩) N N))
            replace HG := hidb (HG.out.set nn.out.2 0 (.slice (some ⟨RK, 0, none⟩) N N))
            replace A9 := hidb (At.fill1 (A9.out.has rfl) (.slice (some ⟨RK, 0, none⟩) N N))
            clear nn NT11
            generalize V33.setCell ⟨O9, 0, none⟩ (.slice (some ⟨RK, 0, none⟩) N N) = V34 at *
            refine hi_doneN (by kernel_rfl) ?_ _
            gi_wp2_with fail
            gi_meet
            have n1 := hOUT.out; have n1 := hRK.out; have n1 := hO8.out; have n1 := hO9.out; have n5 := HS0.out; have n6 := HTR.out; have mV34 := szV34.out; have mV33 := szV33.out; have mV32 := szV32.out; have mV28 := szV28.out; have mV23 := szV23.out; have mV1 := szV1.out
            refine ⟨O8, O9, OUT, RK, rfl, rfl, hidb ⟨HZ.out, A8.out, A9.out, by rw [← iF_rep, ← HCS.out.1]; exact AO.out, ?_, ⟨?_, ?_, ?_, ?_, ?_, ?_, ?_, ?_, ?_, ?_⟩, HG.out⟩⟩
            · rw [← iF_congr (f := fun _ => 0) (g := kfn (fun _ => (0, 0))) (fun j _ => by unfold kfn; split <;> rfl), ← iF_rep, ← HCS.out.2]; exact AK.out
            all_goals omega
    · skip
      go_simp
      refine hK.out _ _ ?_ (fun hHeld => ?_)
      · (try dsimp only); exact HT.out.alloc _
      clear hK K
      have szV35 : Hid ((V0.alloc (.cells CK 63)).heap.size = V0.heap.size + 1) := by show _ = _; simp
      have AK := hidb (At.newArr V0 CK 63)
      obtain ⟨RK, hRK⟩ : ∃ z, z = V0.heap.size := ⟨_, rfl⟩
      rw [← hRK] at AK ⊢
      replace hRK := hidb hRK
      replace HT := hidb (HT.out.alloc (.cells CK 63))
      replace HZ := hidb (HZ.out.alloc (.cells CK 63))
      replace HG := hidb (HG.out.alloc (.cells CK 63))
      generalize V0.alloc (.cells CK 63) = V35 at *
      refine hi_ready (rs := [3, 8, 9]) (by kernel_rfl) (by simp) ?_
      refine ReadyHI.cons rfl (fun K hK => ?_) (ReadyHI.cons rfl (fun K hK => ?_) (ReadyHI.cons rfl (fun K hK => ?_) ReadyHI.nil))
      · skip
        go_simp
        refine hK.out _ _ ?_ (fun hHeld => ?_)
        · (try dsimp only); exact HT.out.alloc _
        clear hK K
        have szV36 : Hid ((V35.alloc (.cells CI 3)).heap.size = V35.heap.size + 1) := by show _ = _; simp
        have AO := hidb (At.newArr V35 CI 3)
        obtain ⟨OUT, hOUT⟩ : ∃ z, z = V35.heap.size := ⟨_, rfl⟩
        rw [← hOUT] at AO ⊢
        replace hOUT := hidb hOUT
        replace HT := hidb (HT.out.alloc (.cells CI 3))
        replace HZ := hidb (HZ.out.alloc (.cells CI 3))
        replace HG := hidb (HG.out.alloc (.cells CI 3))
        replace AK := hidb (AK.out.alloc (.cells CI 3))
        generalize V35.alloc (.cells CI 3) = V36 at *
        refine hi_ready (rs := [8, 9]) (by kernel_rfl) (by simp) ?_
        refine ReadyHI.cons rfl (fun K hK => ?_) (ReadyHI.cons rfl (fun K hK => ?_) ReadyHI.nil)
        · skip
          go_simp
          refine hK.out _ _ ?_ (fun hHeld => ?_)
          · (try dsimp only); exact HT.out.alloc _
          clear hK K
          have szV37 : Hid ((V36.alloc (.cells #[.slice none 0 0] 30)).heap.size = V36.heap.size + 1) := by show _ = _; simp
          have A8 := hidb (At.new1 V36 (.slice none 0 0) 30)
          obtain ⟨O8, hO8⟩ : ∃ z, z = V36.heap.size := ⟨_, rfl⟩
          rw [← hO8] at A8 ⊢
          replace hO8 := hidb hO8
          replace HT := hidb (HT.out.alloc (.cells #[.slice none 0 0] 30))
          replace HZ := hidb (HZ.out.alloc (.cells #[.slice none 0 0] 30))
          replace HG := hidb (HG.out.alloc (.cells #[.slice none 0 0] 30))
          replace AO := hidb (AO.out.alloc (.cells #[.slice none 0 0] 30))
          replace AK := hidb (AK.out.alloc (.cells #[.slice none 0 0] 30))
          generalize V36.alloc (.cells #[.slice none 0 0] 30) = V37 at *
          refine hi_ready (rs := [9]) (by kernel_rfl) (by simp) ?_
          refine ReadyHI.cons rfl (fun K hK => ?_) ReadyHI.nil
          go_simp
          refine hK.out _ _ ?_ (fun hHeld => ?_)
          · (try dsimp only); exact HT.out.alloc _
          clear hK K
          have szV38 : Hid ((V37.alloc (.cells #[.slice none 0 0] 54)).heap.size = V37.heap.size + 1) := by show _ = _; simp
          have A9 := hidb (At.new1 V37 (.slice none 0 0) 54)
          obtain ⟨O9, hO9⟩ : ∃ z, z = V37.heap.size := ⟨_, rfl⟩
          rw [← hO9] at A9 ⊢
          replace hO9 := hidb hO9
          replace HT := hidb (HT.out.alloc (.cells #[.slice none 0 0] 54))
          replace HZ := hidb (HZ.out.alloc (.cells #[.slice none 0 0] 54))
          replace HG := hidb (HG.out.alloc (.cells #[.slice none 0 0] 54))
          replace AO := hidb (AO.out.alloc (.cells #[.slice none 0 0] 54))
          replace AK := hidb (AK.out.alloc (.cells #[.slice none 0 0] 54))
          replace A8 := hidb (A8.out.alloc (.cells #[.slice none 0 0] 54))
          generalize V37.alloc (.cells #[.slice none 0 0] 54) = V38 at *
          refine hi_ready (rs := [10]) (by kernel_rfl) (by simp) ?_
          refine ReadyHI.cons rfl (fun K hK => ?_) ReadyHI.nil
          have NT10 : Hid (¬ O8 = T) := by
            show ¬ _
            have n1 := hOUT.out; have n1 := hRK.out; have n1 := hO8.out; have n1 := hO9.out; have n5 := HS0.out; have n6 := HTR.out; have mV38 := szV38.out; have mV37 := szV37.out; have mV36 := szV36.out; have mV35 := szV35.out
            omega
          have z0 := A8.out.c1
          have y0 := A8.out.f1
          go_simp
          refine hK.out _ _ ?_ (fun hHeld => ?_)
          · (try dsimp only); exact HT.out.skip NT10.out _ _
          clear hK K
          clear z0 y0
          have szV39 : Hid ((V38.setCell ⟨O8, 0, none⟩ (.slice (some ⟨OUT, 0, none⟩) N N)).heap.size = V38.heap.size) := by show _ = _; simp
          have nn : Hid (¬ O8 = OUT ∧ ¬ O8 = RK ∧ ¬ O8 = O9) := by
            show _ ∧ _ ∧ _
            have n1 := hOUT.out; have n1 := hRK.out; have n1 := hO8.out; have n1 := hO9.out; have n5 := HS0.out; have n6 := HTR.out; have mV38 := szV38.out; have mV37 := szV37.out; have mV36 := szV36.out; have mV35 := szV35.out
            refine ⟨?_, ?_, ?_⟩ <;> omega
          replace AO := hidb (AO.out.skip (nn.out.1) 0 (.slice (some ⟨OUT, 0, none⟩) N N))
          replace AK := hidb (AK.out.skip (nn.out.2.1) 0 (.slice (some ⟨OUT, 0, none⟩) N N))
          replace A9 := hidb (A9.out.skip (nn.out.2.2) 0 (.slice (some ⟨OUT, 0, none⟩) N N))
          clear nn
          have nn : Hid (¬ O8 = Z ∧ w2.heap.size ≤ O8) := by
            show _ ∧ _
            have n1 := hOUT.out; have n1 := hRK.out; have n1 := hO8.out; have n1 := hO9.out; have n5 := HS0.out; have n6 := HTR.out; have mV38 := szV38.out; have mV37 := szV37.out; have mV36 := szV36.out; have mV35 := szV35.out
            omega
          replace HT := hidb (HT.out.skip NT10.out 0 (.slice (some ⟨OUT, 0, none⟩) N N))
          replace HZ := hidb (HZ.out.skip nn.out.1 0 (.slice (some ⟨OUT, 0, none⟩) N N))
          replace HG := hidb (HG.out.set nn.out.2 0 (.slice (some ⟨OUT, 0, none⟩) N N))
          replace A8 := hidb (At.fill1 (A8.out.has rfl) (.slice (some ⟨OUT, 0, none⟩) N N))
          clear nn NT10
          generalize V38.setCell ⟨O8, 0, none⟩ (.slice (some ⟨OUT, 0, none⟩) N N) = V39 at *
          refine hi_ready (rs := [11]) (by kernel_rfl) (by simp) ?_
          refine ReadyHI.cons rfl (fun K hK => ?_) ReadyHI.nil
          have NT11 : Hid (¬ O9 = T) := by
            show ¬ _
            have n1 := hOUT.out; have n1 := hRK.out; have n1 := hO8.out; have n1 := hO9.out; have n5 := HS0.out; have n6 := HTR.out; have mV39 := szV39.out; have mV38 := szV38.out; have mV37 := szV37.out; have mV36 := szV36.out; have mV35 := szV35.out
            omega
          have z0 := A9.out.c1
          have y0 := A9.out.f1
          go_simp
          refine hK.out _ _ ?_ (fun hHeld => ?_)
          · (try dsimp only); exact HT.out.skip NT11.out _ _
          clear hK K
          clear z0 y0
          have szV40 : Hid ((V39.setCell ⟨O9, 0, none⟩ (.slice (some ⟨RK, 0, none⟩) N N)).heap.size = V39.heap.size) := by show _ = _; simp
          have nn : Hid (¬ O9 = OUT ∧ ¬ O9 = RK ∧ ¬ O9 = O8) := by
            show _ ∧ _ ∧ _
            have n1 := hOUT.out; have n1 := hRK.out; have n1 := hO8.out; have n1 := hO9.out; have n5 := HS0.out; have n6 := HTR.out; have mV39 := szV39.out; have mV38 := szV38.out; have mV37 := szV37.out; have mV36 := szV36.out; have mV35 := szV35.out
            refine ⟨?_, ?_, ?_⟩ <;> omega
          replace AO := hidb (AO.out.skip (nn.out.1) 0 (.slice (some ⟨RK, 0, none⟩) N N))
          replace AK := hidb (AK.out.skip (nn.out.2.1) 0 (.slice (some ⟨RK, 0, none⟩) N N))
          replace A8 := hidb (A8.out.skip (nn.out.2.2) 0 (.slice (some ⟨RK, 0, none⟩) N N))
          clear nn
          have nn : Hid (¬ O9 = Z ∧ w2.heap.size ≤ O9) := by
            show _ ∧ _
            have n1 := hOUT.out; have n1 := hRK.out; have n1 := hO8.out; have n1 := hO9.out; have n5 := HS0.out; have n6 := HTR.out; have mV39 := szV39.out; have mV38 := szV38.out; have mV37 := szV37.out; have mV36 := szV36.out; have mV35 := szV35.out
            omega
          replace HT := hidb (HT.out.skip NT11.out 0 (.slice (some ⟨RK, 0, none⟩) N N))
          replace HZ := hidb (HZ.out.skip nn.out.1 0 (.slice (some ⟨RK, 0, none⟩) N N))
          replace HG := hidb (HG.out.set nn.out.2 0 (.slice (some ⟨RK, 0, none⟩) N N))
          replace A9 := hidb (At.fill1 (A9.out.has rfl) (.slice (some ⟨RK, 0, none⟩) N N))
          clear nn NT11
          generalize V39.setCell ⟨O9, 0, none⟩ (.slice (some ⟨RK, 0, none⟩) N N) = V40 at *
          refine hi_doneN (by kernel_rfl) ?_ _
          gi_wp2_with fail
          gi_meet
          have n1 := hOUT.out; have n1 := hRK.out; have n1 := hO8.out; have n1 := hO9.out; have n5 := HS0.out; have n6 := HTR.out; have mV40 := szV40.out; have mV39 := szV39.out; have mV38 := szV38.out; have mV37 := szV37.out; have mV36 := szV36.out; have mV35 := szV35.out
          refine ⟨O8, O9, OUT, RK, rfl, rfl, hidb ⟨HZ.out, A8.out, A9.out, by rw [← iF_rep, ← HCS.out.1]; exact AO.out, ?_, ⟨?_, ?_, ?_, ?_, ?_, ?_, ?_, ?_, ?_, ?_⟩, HG.out⟩⟩
          · rw [← iF_congr (f := fun _ => 0) (g := kfn (fun _ => (0, 0))) (fun j _ => by unfold kfn; split <;> rfl), ← iF_rep, ← HCS.out.2]; exact AK.out
          all_goals omega
        · skip
          go_simp
          refine hK.out _ _ ?_ (fun hHeld => ?_)
          · (try dsimp only); exact HT.out.alloc _
          clear hK K
          have szV41 : Hid ((V36.alloc (.cells #[.slice none 0 0] 54)).heap.size = V36.heap.size + 1) := by show _ = _; simp
          have A9 := hidb (At.new1 V36 (.slice none 0 0) 54)
          obtain ⟨O9, hO9⟩ : ∃ z, z = V36.heap.size := ⟨_, rfl⟩
          rw [← hO9] at A9 ⊢
          replace hO9 := hidb hO9
          replace HT := hidb (HT.out.alloc (.cells #[.slice none 0 0] 54))
          replace HZ := hidb (HZ.out.alloc (.cells #[.slice none 0 0] 54))
          replace HG := hidb (HG.out.alloc (.cells #[.slice none 0 0] 54))
          replace AO := hidb (AO.out.alloc (.cells #[.slice none 0 0] 54))
          replace AK := hidb (AK.out.alloc (.cells #[.slice none 0 0] 54))
          generalize V36.alloc (.cells #[.slice none 0 0] 54) = V41 at *
          refine hi_ready (rs := [8]) (by kernel_rfl) (by simp) ?_
          refine ReadyHI.cons rfl (fun K hK => ?_) ReadyHI.nil
          go_simp
          refine hK.out _ _ ?_ (fun hHeld => ?_)
          · (try dsimp only); exact HT.out.alloc _
          clear hK K
          have szV42 : Hid ((V41.alloc (.cells #[.slice none 0 0] 30)).heap.size = V41.heap.size + 1) := by show _ = _; simp
          have A8 := hidb (At.new1 V41 (.slice none 0 0) 30)
          obtain ⟨O8, hO8⟩ : ∃ z, z = V41.heap.size := ⟨_, rfl⟩
          rw [← hO8] at A8 ⊢
          replace hO8 := hidb hO8
          replace HT := hidb (HT.out.alloc (.cells #[.slice none 0 0] 30))
          replace HZ := hidb (HZ.out.alloc (.cells #[.slice none 0 0] 30))
          replace HG := hidb (HG.out.alloc (.cells #[.slice none 0 0] 30))
          replace AO := hidb (AO.out.alloc (.cells #[.slice none 0 0] 30))
          replace AK := hidb (AK.out.alloc (.cells #[.slice none 0 0] 30))
          replace A9 := hidb (A9.out.alloc (.cells #[.slice none 0 0] 30))
          generalize V41.alloc (.cells #[.slice none 0 0] 30) = V42 at *
          refine hi_ready (rs := [10]) (by kernel_rfl) (by simp) ?_
          refine ReadyHI.cons rfl (fun K hK => ?_) ReadyHI.nil
          have NT10 : Hid (¬ O8 = T) := by
            show ¬ _
            have n1 := hOUT.out; have n1 := hRK.out; have n1 := hO8.out; have n1 := hO9.out; have n5 := HS0.out; have n6 := HTR.out; have mV42 := szV42.out; have mV41 := szV41.out; have mV36 := szV36.out; have mV35 := szV35.out
            omega
          have z0 := A8.out.c1
          have y0 := A8.out.f1
          go_simp
          refine hK.out _ _ ?_ (fun hHeld => ?_)
          · (try dsimp only); exact HT.out.skip NT10.out _ _
          clear hK K
          clear z0 y0
          have szV43 : Hid ((V42.setCell ⟨O8, 0, none⟩ (.slice (some ⟨OUT, 0, none⟩) N N)).heap.size = V42.heap.size) := by show _ = _; simp
          have nn : Hid (¬ O8 = OUT ∧ ¬ O8 = RK ∧ ¬ O8 = O9) := by
            show _ ∧ _ ∧ _
            have n1 := hOUT.out; have n1 := hRK.out; have n1 := hO8.out; have n1 := hO9.out; have n5 := HS0.out; have n6 := HTR.out; have mV42 := szV42.out; have mV41 := szV41.out; have mV36 := szV36.out; have mV35 := szV35.out
            refine ⟨?_, ?_, ?_⟩ <;> omega
          replace AO := hidb (AO.out.skip (nn.out.1) 0 (.slice (some ⟨OUT, 0, none⟩) N N))
          replace AK := hidb (AK.out.skip (nn.out.2.1) 0 (.slice (some ⟨OUT, 0, none⟩) N N))
          replace A9 := hidb (A9.out.skip (nn.out.2.2) 0 (.slice (some ⟨OUT, 0, none⟩) N N))
          clear nn
          have nn : Hid (¬ O8 = Z ∧ w2.heap.size ≤ O8) := by
            show _ ∧ _
            have n1 := hOUT.out; have n1 := hRK.out; have n1 := hO8.out; have n1 := hO9.out; have n5 := HS0.out; have n6 := HTR.out; have mV42 := szV42.out; have mV41 := szV41.out; have mV36 := szV36.out; have mV35 := szV35.out
            omega
          replace HT := hidb (HT.out.skip NT10.out 0 (.slice (some ⟨OUT, 0, none⟩) N N))
          replace HZ := hidb (HZ.out.skip nn.out.1 0 (.slice (some ⟨OUT, 0, none⟩) N N))
          replace HG := hidb (HG.out.set nn.out.2 0 (.slice (some ⟨OUT, 0, none⟩) N N))
          replace A8 := hidb (At.fill1 (A8.out.has rfl) (.slice (some ⟨OUT, 0, none⟩) N N))
          clear nn NT10
          generalize V42.setCell ⟨O8, 0, none⟩ (.slice (some ⟨OUT, 0, none⟩) N N) = V43 at *
          refine hi_ready (rs := [11]) (by kernel_rfl) (by simp) ?_
          refine ReadyHI.cons rfl (fun K hK => ?_) ReadyHI.nil
          have NT11 : Hid (¬ O9 = T) := by
            show ¬ _
            have n1 := hOUT.out; have n1 := hRK.out; have n1 := hO8.out; have n1 := hO9.out; have n5 := HS0.out; have n6 := HTR.out; have mV43 := szV43.out; have mV42 := szV42.out; have mV41 := szV41.out; have mV36 := szV36.out; have mV35 := szV35.out
            omega
          have z0 := A9.out.c1
          have y0 := A9.out.f1
          go_simp
          refine hK.out _ _ ?_ (fun hHeld => ?_)
          · (try dsimp only); exact HT.out.skip NT11.out _ _
          clear hK K
          clear z0 y0
          have szV44 : Hid ((V43.setCell ⟨O9, 0, none⟩ (.slice (some ⟨RK, 0, none⟩) N N)).heap.size = V43.heap.size) := by show _ = _; simp
          have nn : Hid (¬ O9 = OUT ∧ ¬ O9 = RK ∧ ¬ O9 = O8) := by
            show _ ∧ _ ∧ _
            have n1 := hOUT.out; have n1 := hRK.out; have n1 := hO8.out; have n1 := hO9.out; have n5 := HS0.out; have n6 := HTR.out; have mV43 := szV43.out; have mV42 := szV42.out; have mV41 := szV41.out; have mV36 := szV36.out; have mV35 := szV35.out
            refine ⟨?_, ?_, ?_⟩ <;> omega
          replace AO := hidb (AO.out.skip (nn.out.1) 0 (.slice (some ⟨RK, 0, none⟩) N N))
          replace AK := hidb (AK.out.skip (nn.out.2.1) 0 (.slice (some ⟨RK, 0, none⟩) N N))
          replace A8 := hidb (A8.out.skip (nn.out.2.2) 0 (.slice (some ⟨RK, 0, none⟩) N N))
          clear nn
          have nn : Hid (¬ O9 = Z ∧ w2.heap.size ≤ O9) := by
            show _ ∧ _
            have n1 := hOUT.out; have n1 := hRK.out; have n1 := hO8.out; have n1 := hO9.out; have n5 := HS0.out; have n6 := HTR.out; have mV43 := szV43.out; have mV42 := szV42.out; have mV41 := szV41.out; have mV36 := szV36.out; have mV35 := szV35.out
            omega
          replace HT := hidb (HT.out.skip NT11.out 0 (.slice (some ⟨RK, 0, none⟩) N N))
          replace HZ := hidb (HZ.out.skip nn.out.1 0 (.slice (some ⟨RK, 0, none⟩) N N))
          replace HG := hidb (HG.out.set nn.out.2 0 (.slice (some ⟨RK, 0, none⟩) N N))
          replace A9 := hidb (At.fill1 (A9.out.has rfl) (.slice (some ⟨RK, 0, none⟩) N N))
          clear nn NT11
          generalize V43.setCell ⟨O9, 0, none⟩ (.slice (some ⟨RK, 0, none⟩) N N) = V44 at *
          refine hi_doneN (by kernel_rfl) ?_ _
          gi_wp2_with fail
          gi_meet
          have n1 := hOUT.out; have n1 := hRK.out; have n1 := hO8.out; have n1 := hO9.out; have n5 := HS0.out; have n6 := HTR.out; have mV44 := szV44.out; have mV43 := szV43.out; have mV42 := szV42.out; have mV41 := szV41.out; have mV36 := szV36.out; have mV35 := szV35.out
          refine ⟨O8, O9, OUT, RK, rfl, rfl, hidb ⟨HZ.out, A8.out, A9.out, by rw [← iF_rep, ← HCS.out.1]; exact AO.out, ?_, ⟨?_, ?_, ?_, ?_, ?_, ?_, ?_, ?_, ?_, ?_⟩, HG.out⟩⟩
          · rw [← iF_congr (f := fun _ => 0) (g := kfn (fun _ => (0, 0))) (fun j _ => by unfold kfn; split <;> rfl), ← iF_rep, ← HCS.out.2]; exact AK.out
          all_goals omega
      · skip
        go_simp
        refine hK.out _ _ ?_ (fun hHeld => ?_)
        · (try dsimp only); exact HT.out.alloc _
        clear hK K
        have szV45 : Hid ((V35.alloc (.cells #[.slice none 0 0] 30)).heap.size = V35.heap.size + 1) := by show _ = _; simp
        have A8 := hidb (At.new1 V35 (.slice none 0 0) 30)
        obtain ⟨O8, hO8⟩ : ∃ z, z = V35.heap.size := ⟨_, rfl⟩
        rw [← hO8] at A8 ⊢
        replace hO8 := hidb hO8
        replace HT := hidb (HT.out.alloc (.cells #[.slice none 0 0] 30))
        replace HZ := hidb (HZ.out.alloc (.cells #[.slice none 0 0] 30))
        replace HG := hidb (HG.out.alloc (.cells #[.slice none 0 0] 30))
        replace AK := hidb (AK.out.alloc (.cells #[.slice none 0 0] 30))
        generalize V35.alloc (.cells #[.slice none 0 0] 30) = V45 at *
        refine hi_ready (rs := [3, 9]) (by kernel_rfl) (by simp) ?_
        refine ReadyHI.cons rfl (fun K hK => ?_) (ReadyHI.cons rfl (fun K hK => ?_) ReadyHI.nil)
        · skip
          go_simp
          refine hK.out _ _ ?_ (fun hHeld => ?_)
          · (try dsimp only); exact HT.out.alloc _
          clear hK K
          have szV46 : Hid ((V45.alloc (.cells CI 3)).heap.size = V45.heap.size + 1) := by show _ = _; simp
          have AO := hidb (At.newArr V45 CI 3)
          obtain ⟨OUT, hOUT⟩ : ∃ z, z = V45.heap.size := ⟨_, rfl⟩
          rw [← hOUT] at AO ⊢
          replace hOUT := hidb hOUT
          replace HT := hidb (HT.out.alloc (.cells CI 3))
          replace HZ := hidb (HZ.out.alloc (.cells CI 3))
          replace HG := hidb (HG.out.alloc (.cells CI 3))
          replace AK := hidb (AK.out.alloc (.cells CI 3))
          replace A8 := hidb (A8.out.alloc (.cells CI 3))
          generalize V45.alloc (.cells CI 3) = V46 at *
          refine hi_ready (rs := [9]) (by kernel_rfl) (by simp) ?_
          refine ReadyHI.cons rfl (fun K hK => ?_) ReadyHI.nil
          go_simp
          refine hK.out _ _ ?_ (fun hHeld => ?_)
          · (try dsimp only); exact HT.out.alloc _
          clear hK K
          have szV47 : Hid ((V46.alloc (.cells #[.slice none 0 0] 54)).heap.size = V46.heap.size + 1) := by show _ = _; simp
          have A9 := hidb (At.new1 V46 (.slice none 0 0) 54)
          obtain ⟨O9, hO9⟩ : ∃ z, z = V46.heap.size := ⟨_, rfl⟩
          rw [← hO9] at A9 ⊢
          replace hO9 := hidb hO9
          replace HT := hidb (HT.out.alloc (.cells #[.slice none 0 0] 54))
          replace HZ := hidb (HZ.out.alloc (.cells #[.slice none 0 0] 54))
          replace HG := hidb (HG.out.alloc (.cells #[.slice none 0 0] 54))
          replace AO := hidb (AO.out.alloc (.cells #[.slice none 0 0] 54))
          replace AK := hidb (AK.out.alloc (.cells #[.slice none 0 0] 54))
          replace A8 := hidb (A8.out.alloc (.cells #[.slice none 0 0] 54))
          generalize V46.alloc (.cells #[.slice none 0 0] 54) = V47 at *
          refine hi_ready (rs := [10]) (by kernel_rfl) (by simp) ?_
          refine ReadyHI.cons rfl (fun K hK => ?_) ReadyHI.nil
          have NT10 : Hid (¬ O8 = T) := by
            show ¬ _
            have n1 := hOUT.out; have n1 := hRK.out; have n1 := hO8.out; have n1 := hO9.out; have n5 := HS0.out; have n6 := HTR.out; have mV47 := szV47.out; have mV46 := szV46.out; have mV45 := szV45.out; have mV35 := szV35.out
            omega
          have z0 := A8.out.c1
          have y0 := A8.out.f1
          go_simp
          refine hK.out _ _ ?_ (fun hHeld => ?_)
          · (try dsimp only); exact HT.out.skip NT10.out _ _
          clear hK K
          clear z0 y0
          have szV48 : Hid ((V47.setCell ⟨O8, 0, none⟩ (.slice (some ⟨OUT, 0, none⟩) N N)).heap.size = V47.heap.size) := by show _ = _; simp
          have nn : Hid (¬ O8 = OUT ∧ ¬ O8 = RK ∧ ¬ O8 = O9) := by
            show _ ∧ _ ∧ _
            have n1 := hOUT.out; have n1 := hRK.out; have n1 := hO8.out; have n1 := hO9.out; have n5 := HS0.out; have n6 := HTR.out; have mV47 := szV47.out; have mV46 := szV46.out; have mV45 := szV45.out; have mV35 := szV35.out
            refine ⟨?_, ?_, ?_⟩ <;> omega
          replace AO := hidb (AO.out.skip (nn.out.1) 0 (.slice (some ⟨OUT, 0, none⟩) N N))
          replace AK := hidb (AK.out.skip (nn.out.2.1) 0 (.slice (some ⟨OUT, 0, none⟩) N N))
          replace A9 := hidb (A9.out.skip (nn.out.2.2) 0 (.slice (some ⟨OUT, 0, none⟩) N N))
          clear nn
          have nn : Hid (¬ O8 = Z ∧ w2.heap.size ≤ O8) := by
            show _ ∧ _
            have n1 := hOUT.out; have n1 := hRK.out; have n1 := hO8.out; have n1 := hO9.out; have n5 := HS0.out; have n6 := HTR.out; have mV47 := szV47.out; have mV46 := szV46.out; have mV45 := szV45.out; have mV35 := szV35.out
            omega
          replace HT := hidb (HT.out.skip NT10.out 0 (.slice (some ⟨OUT, 0, none⟩) N N))
          replace HZ := hidb (HZ.out.skip nn.out.1 0 (.slice (some ⟨OUT, 0, none⟩) N N))
          replace HG := hidb (HG.out.set nn.out.2 0 (.slice (some ⟨OUT, 0, none⟩) N N))
          replace A8 := hidb (At.fill1 (A8.out.has rfl) (.slice (some ⟨OUT, 0, none⟩) N N))
          clear nn NT10
          generalize V47.setCell ⟨O8, 0, none⟩ (.slice (some ⟨OUT, 0, none⟩) N N) = V48 at *
          refine hi_ready (rs := [11]) (by kernel_rfl) (by simp) ?_
          refine ReadyHI.cons rfl (fun K hK => ?_) ReadyHI.nil
          have NT11 : Hid (¬ O9 = T) := by
            show ¬ _
            have n1 := hOUT.out; have n1 := hRK.out; have n1 := hO8.out; have n1 := hO9.out; have n5 := HS0.out; have n6 := HTR.out; have mV48 := szV48.out; have mV47 := szV47.out; have mV46 := szV46.out; have mV45 := szV45.out; have mV35 := szV35.out
            omega
          have z0 := A9.out.c1
          have y0 := A9.out.f1
          go_simp
          refine hK.out _ _ ?_ (fun hHeld => ?_)
          · (try dsimp only); exact HT.out.skip NT11.out _ _
          clear hK K
          clear z0 y0
          have szV49 : Hid ((V48.setCell ⟨O9, 0, none⟩ (.slice (some ⟨RK, 0, none⟩) N N)).heap.size = V48.heap.size) := by show _ = _; simp
          have nn : Hid (¬ O9 = OUT ∧ ¬ O9 = RK ∧ ¬ O9 = O8) := by
            show _ ∧ _ ∧ _
            have n1 := hOUT.out; have n1 := hRK.out; have n1 := hO8.out; have n1 := hO9.out; have n5 := HS0.out; have n6 := HTR.out; have mV48 := szV48.out; have mV47 := szV47.out; have mV46 := szV46.out; have mV45 := szV45.out; have mV35 := szV35.out
            refine ⟨?_, ?_, ?_⟩ <;> omega
          replace AO := hidb (AO.out.skip (nn.out.1) 0 (.slice (some ⟨RK, 0, none⟩) N N))
          replace AK := hidb (AK.out.skip (nn.out.2.1) 0 (.slice (some ⟨RK, 0, none⟩) N N))
          replace A8 := hidb (A8.out.skip (nn.out.2.2) 0 (.slice (some ⟨RK, 0, none⟩) N N))
          clear nn
          have nn : Hid (¬ O9 = Z ∧ w2.heap.size ≤ O9) := by
            show _ ∧ _
            have n1 := hOUT.out; have n1 := hRK.out; have n1 := hO8.out; have n1 := hO9.out; have n5 := HS0.out; have n6 := HTR.out; have mV48 := szV48.out; have mV47 := szV47.out; have mV46 := szV46.out; have mV45 := szV45.out; have mV35 := szV35.out
            omega
          replace HT := hidb (HT.out.skip NT11.out 0 (.slice (some ⟨RK, 0, none⟩) N N))
          replace HZ := hidb (HZ.out.skip nn.out.1 0 (.slice (some ⟨RK, 0, none⟩) N N))
          replace HG := hidb (HG.out.set nn.out.2 0 (.slice (some ⟨RK, 0, none⟩) N N))
          replace A9 := hidb (At.fill1 (A9.out.has rfl) (.slice (some ⟨RK, 0, none⟩) N N))
          clear nn NT11
          generalize V48.setCell ⟨O9, 0, none⟩ (.slice (some ⟨RK, 0, none⟩) N N) = V49 at *
          refine hi_doneN (by kernel_rfl) ?_ _
          gi_wp2_with fail
          gi_meet
          have n1 := hOUT.out; have n1 := hRK.out; have n1 := hO8.out; have n1 := hO9.out; have n5 := HS0.out; have n6 := HTR.out; have mV49 := szV49.out; have mV48 := szV48.out; have mV47 := szV47.out; have mV46 := szV46.out; have mV45 := szV45.out; have mV35 := szV35.out
          refine ⟨O8, O9, OUT, RK, rfl, rfl, hidb ⟨HZ.out, A8.out, A9.out, by rw [← iF_rep, ← HCS.out.1]; exact AO.out, ?_, ⟨?_, ?_, ?_, ?_, ?_, ?_, ?_, ?_, ?_, ?_⟩, HG.out⟩⟩
          · rw [← iF_congr (f := fun _ => 0) (g := kfn (fun _ => (0, 0))) (fun j _ => by unfold kfn; split <;> rfl), ← iF_rep, ← HCS.out.2]; exact AK.out
          all_goals omega
        · skip
          go_simp
          refine hK.out _ _ ?_ (fun hHeld => ?_)
          · (try dsimp only); exact HT.out.alloc _
          clear hK K
          have szV50 : Hid ((V45.alloc (.cells #[.slice none 0 0] 54)).heap.size = V45.heap.size + 1) := by show _ = _; simp
          have A9 := hidb (At.new1 V45 (.slice none 0 0) 54)
          obtain ⟨O9, hO9⟩ : ∃ z, z = V45.heap.size := ⟨_, rfl⟩
          rw [← hO9] at A9 ⊢
          replace hO9 := hidb hO9
          replace HT := hidb (HT.out.alloc (.cells #[.slice none 0 0] 54))
          replace HZ := hidb (HZ.out.alloc (.cells #[.slice none 0 0] 54))
          replace HG := hidb (HG.out.alloc (.cells #[.slice none 0 0] 54))
          replace AK := hidb (AK.out.alloc (.cells #[.slice none 0 0] 54))
          replace A8 := hidb (A8.out.alloc (.cells #[.slice none 0 0] 54))
          generalize V45.alloc (.cells #[.slice none 0 0] 54) = V50 at *
          refine hi_ready (rs := [3]) (by kernel_rfl) (by simp) ?_
          refine ReadyHI.cons rfl (fun K hK => ?_) ReadyHI.nil
          go_simp
          refine hK.out _ _ ?_ (fun hHeld => ?_)
          · (try dsimp only); exact HT.out.alloc _
          clear hK K
          have szV51 : Hid ((V50.alloc (.cells CI 3)).heap.size = V50.heap.size + 1) := by show _ = _; simp
          have AO := hidb (At.newArr V50 CI 3)
          obtain ⟨OUT, hOUT⟩ : ∃ z, z = V50.heap.size := ⟨_, rfl⟩
          rw [← hOUT] at AO ⊢
          replace hOUT := hidb hOUT
          replace HT := hidb (HT.out.alloc (.cells CI 3))
          replace HZ := hidb (HZ.out.alloc (.cells CI 3))
          replace HG := hidb (HG.out.alloc (.cells CI 3))
          replace AK := hidb (AK.out.alloc (.cells CI 3))
          replace A8 := hidb (A8.out.alloc (.cells CI 3))
          replace A9 := hidb (A9.out.alloc (.cells CI 3))
          generalize V50.alloc (.cells CI 3) = V51 at *
          refine hi_ready (rs := [10]) (by kernel_rfl) (by simp) ?_
          refine ReadyHI.cons rfl (fun K hK => ?_) ReadyHI.nil
          have NT10 : Hid (¬ O8 = T) := by
            show ¬ _
            have n1 := hOUT.out; have n1 := hRK.out; have n1 := hO8.out; have n1 := hO9.out; have n5 := HS0.out; have n6 := HTR.out; have mV51 := szV51.out; have mV50 := szV50.out; have mV45 := szV45.out; have mV35 := szV35.out
            omega
          have z0 := A8.out.c1
          have y0 := A8.out.f1
          go_simp
          refine hK.out _ _ ?_ (fun hHeld => ?_)
          · (try dsimp only); exact HT.out.skip NT10.out _ _
          clear hK K
          clear z0 y0
          have szV52 : Hid ((V51.setCell ⟨O8, 0, none⟩ (.slice (some ⟨OUT, 0, none⟩) N N)).heap.size = V51.heap.size) := by show _ = _; simp
          have nn : Hid (¬ O8 = OUT ∧ ¬ O8 = RK ∧ ¬ O8 = O9) := by
            show _ ∧ _ ∧ _
            have n1 := hOUT.out; have n1 := hRK.out; have n1 := hO8.out; have n1 := hO9.out; have n5 := HS0.out; have n6 := HTR.out; have mV51 := szV51.out; have mV50 := szV50.out; have mV45 := szV45.out; have mV35 := szV35.out
            refine ⟨?_, ?_, ?_⟩ <;> omega
          replace AO := hidb (AO.out.skip (nn.out.1) 0 (.slice (some ⟨OUT, 0, none⟩) N N))
          replace AK := hidb (AK.out.skip (nn.out.2.1) 0 (.slice (some ⟨OUT, 0, none⟩) N N))
          replace A9 := hidb (A9.out.skip (nn.out.2.2) 0 (.slice (some ⟨OUT, 0, none⟩) N N))
          clear nn
          have nn : Hid (¬ O8 = Z ∧ w2.heap.size ≤ O8) := by
            show _ ∧ _
            have n1 := hOUT.out; have n1 := hRK.out; have n1 := hO8.out; have n1 := hO9.out; have n5 := HS0.out; have n6 := HTR.out; have mV51 := szV51.out; have mV50 := szV50.out; have mV45 := szV45.out; have mV35 := szV35.out
            omega
          replace HT := hidb (HT.out.skip NT10.out 0 (.slice (some ⟨OUT, 0, none⟩) N N))
          replace HZ := hidb (HZ.out.skip nn.out.1 0 (.slice (some ⟨OUT, 0, none⟩) N N))
          replace HG := hidb (HG.out.set nn.out.2 0 (.slice (some ⟨OUT, 0, none⟩) N N))
          replace A8 := hidb (At.fill1 (A8.out.has rfl) (.slice (some ⟨OUT, 0, none⟩) N N))
          clear nn NT10
          generalize V51.setCell ⟨O8, 0, none⟩ (.slice (some ⟨OUT, 0, none⟩) N N) = V52 at *
          refine hi_ready (rs := [11]) (by kernel_rfl) (by simp) ?_
          refine ReadyHI.cons rfl (fun K hK => ?_) ReadyHI.nil
          have NT11 : Hid (¬ O9 = T) := by
            show ¬ _
            have n1 := hOUT.out; have n1 := hRK.out; have n1 := hO8.out; have n1 := hO9.out; have n5 := HS0.out; have n6 := HTR.out; have mV52 := szV52.out; have mV51 := szV51.out; have mV50 := szV50.out; have mV45 := szV45.out; have mV35 := szV35.out
            omega
          have z0 := A9.out.c1
          have y0 := A9.out.f1
          go_simp
          refine hK.out _ _ ?_ (fun hHeld => ?_)
          · (try dsimp only); exact HT.out.skip NT11.out _ _
          clear hK K
          clear z0 y0
          have szV53 : Hid ((V52.setCell ⟨O9, 0, none⟩ (.slice (some ⟨RK, 0, none⟩) N N)).heap.size = V52.heap.size) := by show _ = _; simp
          have nn : Hid (¬ O9 = OUT ∧ ¬ O9 = RK ∧ ¬ O9 = O8) := by
            show _ ∧ _ ∧ _
            have n1 := hOUT.out; have n1 := hRK.out; have n1 := hO8.out; have n1 := hO9.out; have n5 := HS0.out; have n6 := HTR.out; have mV52 := szV52.out; have mV51 := szV51.out; have mV50 := szV50.out; have mV45 := szV45.out; have mV35 := szV35.out
            refine ⟨?_, ?_, ?_⟩ <;> omega
          replace AO := hidb (AO.out.skip (nn.out.1) 0 (.slice (some ⟨RK, 0, none⟩) N N))
          replace AK := hidb (AK.out.skip (nn.out.2.1) 0 (.slice (some ⟨RK, 0, none⟩) N N))
          replace A8 := hidb (A8.out.skip (nn.out.2.2) 0 (.slice (some ⟨RK, 0, none⟩) N N))
          clear nn
          have nn : Hid (¬ O9 = Z ∧ w2.heap.size ≤ O9) := by
            show _ ∧ _
            have n1 := hOUT.out; have n1 := hRK.out; have n1 := hO8.out; have n1 := hO9.out; have n5 := HS0.out; have n6 := HTR.out; have mV52 := szV52.out; have mV51 := szV51.out; have mV50 := szV50.out; have mV45 := szV45.out; have mV35 := szV35.out
            omega
          replace HT := hidb (HT.out.skip NT11.out 0 (.slice (some ⟨RK, 0, none⟩) N N))
          replace HZ := hidb (HZ.out.skip nn.out.1 0 (.slice (some ⟨RK, 0, none⟩) N N))
          replace HG := hidb (HG.out.set nn.out.2 0 (.slice (some ⟨RK, 0, none⟩) N N))
          replace A9 := hidb (At.fill1 (A9.out.has rfl) (.slice (some ⟨RK, 0, none⟩) N N))
          clear nn NT11
          generalize V52.setCell ⟨O9, 0, none⟩ (.slice (some ⟨RK, 0, none⟩) N N) = V53 at *
          refine hi_doneN (by kernel_rfl) ?_ _
          gi_wp2_with fail
          gi_meet
          have n1 := hOUT.out; have n1 := hRK.out; have n1 := hO8.out; have n1 := hO9.out; have n5 := HS0.out; have n6 := HTR.out; have mV53 := szV53.out; have mV52 := szV52.out; have mV51 := szV51.out; have mV50 := szV50.out; have mV45 := szV45.out; have mV35 := szV35.out
          refine ⟨O8, O9, OUT, RK, rfl, rfl, hidb ⟨HZ.out, A8.out, A9.out, by rw [← iF_rep, ← HCS.out.1]; exact AO.out, ?_, ⟨?_, ?_, ?_, ?_, ?_, ?_, ?_, ?_, ?_, ?_⟩, HG.out⟩⟩
          · rw [← iF_congr (f := fun _ => 0) (g := kfn (fun _ => (0, 0))) (fun j _ => by unfold kfn; split <;> rfl), ← iF_rep, ← HCS.out.2]; exact AK.out
          all_goals omega
      · skip
        go_simp
        refine hK.out _ _ ?_ (fun hHeld => ?_)
        · (try dsimp only); exact HT.out.alloc _
        clear hK K
        have szV54 : Hid ((V35.alloc (.cells #[.slice none 0 0] 54)).heap.size = V35.heap.size + 1) := by show _ = _; simp
        have A9 := hidb (At.new1 V35 (.slice none 0 0) 54)
        obtain ⟨O9, hO9⟩ : ∃ z, z = V35.heap.size := ⟨_, rfl⟩
        rw [← hO9] at A9 ⊢
        replace hO9 := hidb hO9
        replace HT := hidb (HT.out.alloc (.cells #[.slice none 0 0] 54))
        replace HZ := hidb (HZ.out.alloc (.cells #[.slice none 0 0] 54))
        replace HG := hidb (HG.out.alloc (.cells #[.slice none 0 0] 54))
        replace AK := hidb (AK.out.alloc (.cells #[.slice none 0 0] 54))
        generalize V35.alloc (.cells #[.slice none 0 0] 54) = V54 at *
        refine hi_ready (rs := [3, 8]) (by kernel_rfl) (by simp) ?_
        refine ReadyHI.cons rfl (fun K hK => ?_) (ReadyHI.cons rfl (fun K hK => ?_) ReadyHI.nil)
        · skip
          go_simp
          refine hK.out _ _ ?_ (fun hHeld => ?_)
          · (try dsimp only); exact HT.out.alloc _
          clear hK K
          have szV55 : Hid ((V54.alloc (.cells CI 3)).heap.size = V54.heap.size + 1) := by show _ = _; simp
          have AO := hidb (At.newArr V54 CI 3)
          obtain ⟨OUT, hOUT⟩ : ∃ z, z = V54.heap.size := ⟨_, rfl⟩
          rw [← hOUT] at AO ⊢
          replace hOUT := hidb hOUT
          replace HT := hidb (HT.out.alloc (.cells CI 3))
          replace HZ := hidb (HZ.out.alloc (.cells CI 3))
          replace HG := hidb (HG.out.alloc (.cells CI 3))
          replace AK := hidb (AK.out.alloc (.cells CI 3))
          replace A9 := hidb (A9.out.alloc (.cells CI 3))
          generalize V54.alloc (.cells CI 3) = V55 at *
          refine hi_ready (rs := [8]) (by kernel_rfl) (by simp) ?_
          refine ReadyHI.cons rfl (fun K hK => ?_) ReadyHI.nil
          go_simp
          refine hK.out _ _ ?_ (fun hHeld => ?_)
          · (try dsimp only); exact HT.out.alloc _
          clear hK K
          have szV56 : Hid ((V55.alloc (.cells #[.slice none 0 0] 30)).heap.size = V55.heap.size + 1) := by show _ = _; simp
          have A8 := hidb (At.new1 V55 (.slice none 0 0) 30)
          obtain ⟨O8, hO8⟩ : ∃ z, z = V55.heap.size := ⟨_, rfl⟩
          rw [← hO8] at A8 ⊢
          replace hO8 := hidb hO8
          replace HT := hidb (HT.out.alloc (.cells #[.slice none 0 0] 30))
          replace HZ := hidb (HZ.out.alloc (.cells #[.slice none 0 0] 30))
          replace HG := hidb (HG.out.alloc (.cells #[.slice none 0 0] 30))
          replace AO := hidb (AO.out.alloc (.cells #[.slice none 0 0] 30))
          replace AK := hidb (AK.out.alloc (.cells #[.slice none 0 0] 30))
          replace A9 := hidb (A9.out.alloc (.cells #[.slice none 0 0] 30))
          generalize V55.alloc (.cells #[.slice none 0 0] 30) = V56 at *
          refine hi_ready (rs := [10]) (by kernel_rfl) (by simp) ?_
          refine ReadyHI.cons rfl (fun K hK => ?_) ReadyHI.nil
          have NT10 : Hid (¬ O8 = T) := by
            show ¬ _
            have n1 := hOUT.out; have n1 := hRK.out; have n1 := hO8.out; have n1 := hO9.out; have n5 := HS0.out; have n6 := HTR.out; have mV56 := szV56.out; have mV55 := szV55.out; have mV54 := szV54.out; have mV35 := szV35.out
            omega
          have z0 := A8.out.c1
          have y0 := A8.out.f1
          go_simp
          refine hK.out _ _ ?_ (fun hHeld => ?_)
          · (try dsimp only); exact HT.out.skip NT10.out _ _
          clear hK K
          clear z0 y0
          have szV57 : Hid ((V56.setCell ⟨O8, 0, none⟩ (.slice (some ⟨OUT, 0, none⟩) N N)).heap.size = V56.heap.size) := by show _ = _; simp
          have nn : Hid (¬ O8 = OUT ∧ ¬ O8 = RK ∧ ¬ O8 = O9) := by
            show _ ∧ _ ∧ _
            have n1 := hOUT.out; have n1 := hRK.out; have n1 := hO8.out; have n1 := hO9.out; have n5 := HS0.out; have n6 := HTR.out; have mV56 := szV56.out; have mV55 := szV55.out; have mV54 := szV54.out; have mV35 := szV35.out
            refine ⟨?_, ?_, ?_⟩ <;> omega
          replace AO := hidb (AO.out.skip (nn.out.1) 0 (.slice (some ⟨OUT, 0, none⟩) N N))
          replace AK := hidb (AK.out.skip (nn.out.2.1) 0 (.slice (some ⟨OUT, 0, none⟩) N N))
          replace A9 := hidb (A9.out.skip (nn.out.2.2) 0 (.slice (some ⟨OUT, 0, none⟩) N N))
          clear nn
          have nn : Hid (¬ O8 = Z ∧ w2.heap.size ≤ O8) := by
            show _ ∧ _
            have n1 := hOUT.out; have n1 := hRK.out; have n1 := hO8.out; have n1 := hO9.out; have n5 := HS0.out; have n6 := HTR.out; have mV56 := szV56.out; have mV55 := szV55.out; have mV54 := szV54.out; have mV35 := szV35.out
            omega
          replace HT := hidb (HT.out.skip NT10.out 0 (.slice (some ⟨OUT, 0, none⟩) N N))
          replace HZ := hidb (HZ.out.skip nn.out.1 0 (.slice (some ⟨OUT, 0, none⟩) N N))
          replace HG := hidb (HG.out.set nn.out.2 0 (.slice (some ⟨OUT, 0, none⟩) N N))
          replace A8 := hidb (At.fill1 (A8.out.has rfl) (.slice (some ⟨OUT, 0, none⟩) N N))
          clear nn NT10
          generalize V56.setCell ⟨O8, 0, none⟩ (.slice (some ⟨OUT, 0, none⟩) N N) = V57 at *
          refine hi_ready (rs := [11]) (by kernel_rfl) (by simp) ?_
          refine ReadyHI.cons rfl (fun K hK => ?_) ReadyHI.nil
          have NT11 : Hid (¬ O9 = T) := by
            show ¬ _
            have n1 := hOUT.out; have n1 := hRK.out; have n1 := hO8.out; have n1 := hO9.out; have n5 := HS0.out; have n6 := HTR.out; have mV57 := szV57.out; have mV56 := szV56.out; have mV55 := szV55.out; have mV54 := szV54.out; have mV35 := szV35.out
            omega
          have z0 := A9.out.c1
          have y0 := A9.out.f1
          go_simp
          refine hK.out _ _ ?_ (fun hHeld => ?_)
          · (try dsimp only); exact HT.out.skip NT11.out _ _
          clear hK K
          clear z0 y0
          have szV58 : Hid ((V57.setCell ⟨O9, 0, none⟩ (.slice (some ⟨RK, 0, none⟩) N N)).heap.size = V57.heap.size) := by show _ = _; simp
          have nn : Hid (¬ O9 = OUT ∧ ¬ O9 = RK ∧ ¬ O9 = O8) := by
            show _ ∧ _ ∧ _
            have n1 := hOUT.out; have n1 := hRK.out; have n1 := hO8.out; have n1 := hO9.out; have n5 := HS0.out; have n6 := HTR.out; have mV57 := szV57.out; have mV56 := szV56.out; have mV55 := szV55.out; have mV54 := szV54.out; have mV35 := szV35.out
            refine ⟨?_, ?_, ?_⟩ <;> omega
          replace AO := hidb (AO.out.skip (nn.out.1) 0 (.slice (some ⟨RK, 0, none⟩) N N))
          replace AK := hidb (AK.out.skip (nn.out.2.1) 0 (.slice (some ⟨RK, 0, none⟩) N N))
          replace A8 := hidb (A8.out.skip (nn.out.2.2) 0 (.slice (some ⟨RK, 0, none⟩) N N))
          clear nn
          have nn : Hid (¬ O9 = Z ∧ w2.heap.size ≤ O9) := by
            show _ ∧ _
            have n1 := hOUT.out; have n1 := hRK.out; have n1 := hO8.out; have n1 := hO9.out; have n5 := HS0.out; have n6 := HTR.out; have mV57 := szV57.out; have mV56 := szV56.out; have mV55 := szV55.out; have mV54 := szV54.out; have mV35 := szV35.out
            omega
          replace HT := hidb (HT.out.skip NT11.out 0 (.slice (some ⟨RK, 0, none⟩) N N))
          replace HZ := hidb (HZ.out.skip nn.out.1 0 (.slice (some ⟨RK, 0, none⟩) N N))
          replace HG := hidb (HG.out.set nn.out.2 0 (.slice (some ⟨RK, 0, none⟩) N N))
          replace A9 := hidb (At.fill1 (A9.out.has rfl) (.slice (some ⟨RK, 0, none⟩) N N))
          clear nn NT11
          generalize V57.setCell ⟨O9, 0, none⟩ (.slice (some ⟨RK, 0, none⟩) N N) = V58 at *
          refine hi_doneN (by kernel_rfl) ?_ _
          gi_wp2_with fail
          gi_meet
          have n1 := hOUT.out; have n1 := hRK.out; have n1 := hO8.out; have n1 := hO9.out; have n5 := HS0.out; have n6 := HTR.out; have mV58 := szV58.out; have mV57 := szV57.out; have mV56 := szV56.out; have mV55 := szV55.out; have mV54 := szV54.out; have mV35 := szV35.out
          refine ⟨O8, O9, OUT, RK, rfl, rfl, hidb ⟨HZ.out, A8.out, A9.out, by rw [← iF_rep, ← HCS.out.1]; exact AO.out, ?_, ⟨?_, ?_, ?_, ?_, ?_, ?_, ?_, ?_, ?_, ?_⟩, HG.out⟩⟩
          · rw [← iF_congr (f := fun _ => 0) (g := kfn (fun _ => (0, 0))) (fun j _ => by unfold kfn; split <;> rfl), ← iF_rep, ← HCS.out.2]; exact AK.out
          all_goals omega
        · skip
          go_simp
          refine hK.out _ _ ?_ (fun hHeld => ?_)
          · (try dsimp only); exact HT.out.alloc _
          clear hK K
          have szV59 : Hid ((V54.alloc (.cells #[.slice none 0 0] 30)).heap.size = V54.heap.size + 1) := by show _ = _; simp
          have A8 := hidb (At.new1 V54 (.slice none 0 0) 30)
          obtain ⟨O8, hO8⟩ : ∃ z, z = V54.heap.size := ⟨_, rfl⟩
          rw [← hO8] at A8 ⊢
          replace hO8 := hidb hO8
          replace HT := hidb (HT.out.alloc (.cells #[.slice none 0 0] 30))
          replace HZ := hidb (HZ.out.alloc (.cells #[.slice none 0 0] 30))
          replace HG := hidb (HG.out.alloc (.cells #[.slice none 0 0] 30))
          replace AK := hidb (AK.out.alloc (.cells #[.slice none 0 0] 30))
          replace A9 := hidb (A9.out.alloc (.cells #[.slice none 0 0] 30))
          generalize V54.alloc (.cells #[.slice none 0 0] 30) = V59 at *
          refine hi_ready (rs := [3]) (by kernel_rfl) (by simp) ?_
          refine ReadyHI.cons rfl (fun K hK => ?_) ReadyHI.nil
          go_simp
          refine hK.out _ _ ?_ (fun hHeld => ?_)
          · (try dsimp only); exact HT.out.alloc _
          clear hK K
          have szV60 : Hid ((V59.alloc (.cells CI 3)).heap.size = V59.heap.size + 1) := by show _ = _; simp
          have AO := hidb (At.newArr V59 CI 3)
          obtain ⟨OUT, hOUT⟩ : ∃ z, z = V59.heap.size := ⟨_, rfl⟩
          rw [← hOUT] at AO ⊢
          replace hOUT := hidb hOUT
          replace HT := hidb (HT.out.alloc (.cells CI 3))
          replace HZ := hidb (HZ.out.alloc (.cells CI 3))
          replace HG := hidb (HG.out.alloc (.cells CI 3))
          replace AK := hidb (AK.out.alloc (.cells CI 3))
          replace A8 := hidb (A8.out.alloc (.cells CI 3))
          replace A9 := hidb (A9.out.alloc (.cells CI 3))
          generalize V59.alloc (.cells CI 3) = V60 at *
          refine hi_ready (rs := [10]) (by kernel_rfl) (by simp) ?_
          refine ReadyHI.cons rfl (fun K hK => ?_) ReadyHI.nil
          have NT10 : Hid (¬ O8 = T) := by
            show ¬ _
            have n1 := hOUT.out; have n1 := hRK.out; have n1 := hO8.out; have n1 := hO9.out; have n5 := HS0.out; have n6 := HTR.out; have mV60 := szV60.out; have mV59 := szV59.out; have mV54 := szV54.out; have mV35 := szV35.out
            omega
          have z0 := A8.out.c1
          have y0 := A8.out.f1
          go_simp
          refine hK.out _ _ ?_ (fun hHeld => ?_)
          · (try dsimp only); exact HT.out.skip NT10.out _ _
          clear hK K
          clear z0 y0
          have szV61 : Hid ((V60.setCell ⟨O8, 0, none⟩ (.slice (some ⟨OUT, 0, none⟩) N N)).heap.size = V60.heap.size) := by show _ = _; simp
          have nn : Hid (¬ O8 = OUT ∧ ¬ O8 = RK ∧ ¬ O8 = O9) := by
            show _ ∧ _ ∧ _
            have n1 := hOUT.out; have n1 := hRK.out; have n1 := hO8.out; have n1 := hO9.out; have n5 := HS0.out; have n6 := HTR.out; have mV60 := szV60.out; have mV59 := szV59.out; have mV54 := szV54.out; have mV35 := szV35.out
            refine ⟨?_, ?_, ?_⟩ <;> omega
          replace AO := hidb (AO.out.skip (nn.out.1) 0 (.slice (some ⟨OUT, 0, none⟩) N N))
          replace AK := hidb (AK.out.skip (nn.out.2.1) 0 (.slice (some ⟨OUT, 0, none⟩) N N))
          replace A9 := hidb (A9.out.skip (nn.out.2.2) 0 (.slice (some ⟨OUT, 0, none⟩) N N))
          clear nn
          have nn : Hid (¬ O8 = Z ∧ w2.heap.size ≤ O8) := by
            show _ ∧ _
            have n1 := hOUT.out; have n1 := hRK.out; have n1 := hO8.out; have n1 := hO9.out; have n5 := HS0.out; have n6 := HTR.out; have mV60 := szV60.out; have mV59 := szV59.out; have mV54 := szV54.out; have mV35 := szV35.out
            omega
          replace HT := hidb (HT.out.skip NT10.out 0 (.slice (some ⟨OUT, 0, none⟩) N N))
          replace HZ := hidb (HZ.out.skip nn.out.1 0 (.slice (some ⟨OUT, 0, none⟩) N N))
          replace HG := hidb (HG.out.set nn.out.2 0 (.slice (some ⟨OUT, 0, none⟩) N N))
          replace A8 := hidb (At.fill1 (A8.out.has rfl) (.slice (some ⟨OUT, 0, none⟩) N N))
          clear nn NT10
          generalize V60.setCell ⟨O8, 0, none⟩ (.slice (some ⟨OUT, 0, none⟩) N N) = V61 at *
          refine hi_ready (rs := [11]) (by kernel_rfl) (by simp) ?_
          refine ReadyHI.cons rfl (fun K hK => ?_) ReadyHI.nil
          have NT11 : Hid (¬ O9 = T) := by
            show ¬ _
            have n1 := hOUT.out; have n1 := hRK.out; have n1 := hO8.out; have n1 := hO9.out; have n5 := HS0.out; have n6 := HTR.out; have mV61 := szV61.out; have mV60 := szV60.out; have mV59 := szV59.out; have mV54 := szV54.out; have mV35 := szV35.out
            omega
          have z0 := A9.out.c1
          have y0 := A9.out.f1
          go_simp
          refine hK.out _ _ ?_ (fun hHeld => ?_)
          · (try dsimp only); exact HT.out.skip NT11.out _ _
          clear hK K
          clear z0 y0
          have szV62 : Hid ((V61.setCell ⟨O9, 0, none⟩ (.slice (some ⟨RK, 0, none⟩) N N)).heap.size = V61.heap.size) := by show _ = _; simp
          have nn : Hid (¬ O9 = OUT ∧ ¬ O9 = RK ∧ ¬ O9 = O8) := by
            show _ ∧ _ ∧ _
            have n1 := hOUT.out; have n1 := hRK.out; have n1 := hO8.out; have n1 := hO9.out; have n5 := HS0.out; have n6 := HTR.out; have mV61 := szV61.out; have mV60 := szV60.out; have mV59 := szV59.out; have mV54 := szV54.out; have mV35 := szV35.out
            refine ⟨?_, ?_, ?_⟩ <;> omega
          replace AO := hidb (AO.out.skip (nn.out.1) 0 (.slice (some ⟨RK, 0, none⟩) N N))
          replace AK := hidb (AK.out.skip (nn.out.2.1) 0 (.slice (some ⟨RK, 0, none⟩) N N))
          replace A8 := hidb (A8.out.skip (nn.out.2.2) 0 (.slice (some ⟨RK, 0, none⟩) N N))
          clear nn
          have nn : Hid (¬ O9 = Z ∧ w2.heap.size ≤ O9) := by
            show _ ∧ _
            have n1 := hOUT.out; have n1 := hRK.out; have n1 := hO8.out; have n1 := hO9.out; have n5 := HS0.out; have n6 := HTR.out; have mV61 := szV61.out; have mV60 := szV60.out; have mV59 := szV59.out; have mV54 := szV54.out; have mV35 := szV35.out
            omega
          replace HT := hidb (HT.out.skip NT11.out 0 (.slice (some ⟨RK, 0, none⟩) N N))
          replace HZ := hidb (HZ.out.skip nn.out.1 0 (.slice (some ⟨RK, 0, none⟩) N N))
          replace HG := hidb (HG.out.set nn.out.2 0 (.slice (some ⟨RK, 0, none⟩) N N))
          replace A9 := hidb (At.fill1 (A9.out.has rfl) (.slice (some ⟨RK, 0, none⟩) N N))
          clear nn NT11
          generalize V61.setCell ⟨O9, 0, none⟩ (.slice (some ⟨RK, 0, none⟩) N N) = V62 at *
          refine hi_doneN (by kernel_rfl) ?_ _
          gi_wp2_with fail
          gi_meet
          have n1 := hOUT.out; have n1 := hRK.out; have n1 := hO8.out; have n1 := hO9.out; have n5 := HS0.out; have n6 := HTR.out; have mV62 := szV62.out; have mV61 := szV61.out; have mV60 := szV60.out; have mV59 := szV59.out; have mV54 := szV54.out; have mV35 := szV35.out
          refine ⟨O8, O9, OUT, RK, rfl, rfl, hidb ⟨HZ.out, A8.out, A9.out, by rw [← iF_rep, ← HCS.out.1]; exact AO.out, ?_, ⟨?_, ?_, ?_, ?_, ?_, ?_, ?_, ?_, ?_, ?_⟩, HG.out⟩⟩
          · rw [← iF_congr (f := fun _ => 0) (g := kfn (fun _ => (0, 0))) (fun j _ => by unfold kfn; split <;> rfl), ← iF_rep, ← HCS.out.2]; exact AK.out
          all_goals omega
    · skip
      go_simp
      refine hK.out _ _ ?_ (fun hHeld => ?_)
      · (try dsimp only); exact HT.out.alloc _
      clear hK K
      have szV63 : Hid ((V0.alloc (.cells #[.slice none 0 0] 30)).heap.size = V0.heap.size + 1) := by show _ = _; simp
      have A8 := hidb (At.new1 V0 (.slice none 0 0) 30)
      obtain ⟨O8, hO8⟩ : ∃ z, z = V0.heap.size := ⟨_, rfl⟩
      rw [← hO8] at A8 ⊢
      replace hO8 := hidb hO8
      replace HT := hidb (HT.out.alloc (.cells #[.slice none 0 0] 30))
      replace HZ := hidb (HZ.out.alloc (.cells #[.slice none 0 0] 30))
      replace HG := hidb (HG.out.alloc (.cells #[.slice none 0 0] 30))
      generalize V0.alloc (.cells #[.slice none 0 0] 30) = V63 at *
      refine hi_ready (rs := [3, 7, 9]) (by kernel_rfl) (by simp) ?_
      refine ReadyHI.cons rfl (fun K hK => ?_) (ReadyHI.cons rfl (fun K hK => ?_) (ReadyHI.cons rfl (fun K hK => ?_) ReadyHI.nil))
      · skip
        go_simp
        refine hK.out _ _ ?_ (fun hHeld => ?_)
        · (try dsimp only); exact HT.out.alloc _
        clear hK K
        have szV64 : Hid ((V63.alloc (.cells CI 3)).heap.size = V63.heap.size + 1) := by show _ = _; simp
        have AO := hidb (At.newArr V63 CI 3)
        obtain ⟨OUT, hOUT⟩ : ∃ z, z = V63.heap.size := ⟨_, rfl⟩
        rw [← hOUT] at AO ⊢
        replace hOUT := hidb hOUT
        replace HT := hidb (HT.out.alloc (.cells CI 3))
        replace HZ := hidb (HZ.out.alloc (.cells CI 3))
        replace HG := hidb (HG.out.alloc (.cells CI 3))
        replace A8 := hidb (A8.out.alloc (.cells CI 3))
        generalize V63.alloc (.cells CI 3) = V64 at *
        refine hi_ready (rs := [7, 9]) (by kernel_rfl) (by simp) ?_
        refine ReadyHI.cons rfl (fun K hK => ?_) (ReadyHI.cons rfl (fun K hK => ?_) ReadyHI.nil)
        · skip
          go_simp
          refine hK.out _ _ ?_ (fun hHeld => ?_)
          · (try dsimp only); exact HT.out.alloc _
          clear hK K
          have szV65 : Hid ((V64.alloc (.cells CK 63)).heap.size = V64.heap.size + 1) := by show _ = _; simp
          have AK := hidb (At.newArr V64 CK 63)
          obtain ⟨RK, hRK⟩ : ∃ z, z = V64.heap.size := ⟨_, rfl⟩
          rw [← hRK] at AK ⊢
          replace hRK := hidb hRK
          replace HT := hidb (HT.out.alloc (.cells CK 63))
          replace HZ := hidb (HZ.out.alloc (.cells CK 63))
          replace HG := hidb (HG.out.alloc (.cells CK 63))
          replace AO := hidb (AO.out.alloc (.cells CK 63))
          replace A8 := hidb (A8.out.alloc (.cells CK 63))
          generalize V64.alloc (.cells CK 63) = V65 at *
          refine hi_ready (rs := [9]) (by kernel_rfl) (by simp) ?_
          refine ReadyHI.cons rfl (fun K hK => ?_) ReadyHI.nil
          go_simp
          refine hK.out _ _ ?_ (fun hHeld => ?_)
          · (try dsimp only); exact HT.out.alloc _
          clear hK K
          have szV66 : Hid ((V65.alloc (.cells #[.slice none 0 0] 54)).heap.size = V65.heap.size + 1) := by show _ = _; simp
          have A9 := hidb (At.new1 V65 (.slice none 0 0) 54)
          obtain ⟨O9, hO9⟩ : ∃ z, z = V65.heap.size := ⟨_, rfl⟩
          rw [← hO9] at A9 ⊢
          replace hO9 := hidb hO9
          replace HT := hidb (HT.out.alloc (.cells #[.slice none 0 0] 54))
          replace HZ := hidb (HZ.out.alloc (.cells #[.slice none 0 0] 54))
          replace HG := hidb (HG.out.alloc (.cells #[.slice none 0 0] 54))
          replace AO := hidb (AO.out.alloc (.cells #[.slice none 0 0] 54))
          replace AK := hidb (AK.out.alloc (.cells #[.slice none 0 0] 54))
          replace A8 := hidb (A8.out.alloc (.cells #[.slice none 0 0] 54))
          generalize V65.alloc (.cells #[.slice none 0 0] 54) = V66 at *
          refine hi_ready (rs := [10]) (by kernel_rfl) (by simp) ?_
          refine ReadyHI.cons rfl (fun K hK => ?_) ReadyHI.nil
          have NT10 : Hid (¬ O8 = T) := by
            show ¬ _
            have n1 := hOUT.out; have n1 := hRK.out; have n1 := hO8.out; have n1 := hO9.out; have n5 := HS0.out; have n6 := HTR.out; have mV66 := szV66.out; have mV65 := szV65.out; have mV64 := szV64.out; have mV63 := szV63.out
            omega
          have z0 := A8.out.c1
          have y0 := A8.out.f1
          go_simp
          refine hK.out _ _ ?_ (fun hHeld => ?_)
          · (try dsimp only); exact HT.out.skip NT10.out _ _
          clear hK K
          clear z0 y0
          have szV67 : Hid ((V66.setCell ⟨O8, 0, none⟩ (.slice (some ⟨OUT, 0, none⟩) N N)).heap.size = V66.heap.size) := by show _ = _; simp
          have nn : Hid (¬ O8 = OUT ∧ ¬ O8 = RK ∧ ¬ O8 = O9) := by
            show _ ∧ _ ∧ _
            have n1 := hOUT.out; have n1 := hRK.out; have n1 := hO8.out; have n1 := hO9.out; have n5 := HS0.out; have n6 := HTR.out; have mV66 := szV66.out; have mV65 := szV65.out; have mV64 := szV64.out; have mV63 := szV63.out
            refine ⟨?_, ?_, ?_⟩ <;> omega
          replace AO := hidb (AO.out.skip (nn.out.1) 0 (.slice (some ⟨OUT, 0, none⟩) N N))
          replace AK := hidb (AK.out.skip (nn.out.2.1) 0 (.slice (some ⟨OUT, 0, none⟩) N N))
          replace A9 := hidb (A9.out.skip (nn.out.2.2) 0 (.slice (some ⟨OUT, 0, none⟩) N N))
          clear nn
          have nn : Hid (¬ O8 = Z ∧ w2.heap.size ≤ O8) := by
            show _ ∧ _
            have n1 := hOUT.out; have n1 := hRK.out; have n1 := hO8.out; have n1 := hO9.out; have n5 := HS0.out; have n6 := HTR.out; have mV66 := szV66.out; have mV65 := szV65.out; have mV64 := szV64.out; have mV63 := szV63.out
            omega
          replace HT := hidb (HT.out.skip NT10.out 0 (.slice (some ⟨OUT, 0, none⟩) N N))
          replace HZ := hidb (HZ.out.skip nn.out.1 0 (.slice (some ⟨OUT, 0, none⟩) N N))
          replace HG := hidb (HG.out.set nn.out.2 0 (.slice (some ⟨OUT, 0, none⟩) N N))
          replace A8 := hidb (At.fill1 (A8.out.has rfl) (.slice (some ⟨OUT, 0, none⟩) N N))
          clear nn NT10
          generalize V66.setCell ⟨O8, 0, none⟩ (.slice (some ⟨OUT, 0, none⟩) N N) = V67 at *
          refine hi_ready (rs := [11]) (by kernel_rfl) (by simp) ?_
          refine ReadyHI.cons rfl (fun K hK => ?_) ReadyHI.nil
          have NT11 : Hid (¬ O9 = T) := by
            show ¬ _
            have n1 := hOUT.out; have n1 := hRK.out; have n1 := hO8.out; have n1 := hO9.out; have n5 := HS0.out; have n6 := HTR.out; have mV67 := szV67.out; have mV66 := szV66.out; have mV65 := szV65.out; have mV64 := szV64.out; have mV63 := szV63.out
            omega
          have z0 := A9.out.c1
          have y0 := A9.out.f1
          go_simp
          refine hK.out _ _ ?_ (fun hHeld => ?_)
          · (try dsimp only); exact HT.out.skip NT11.out _ _
          clear hK K
          clear z0 y0
          have szV68 : Hid ((V67.setCell ⟨O9, 0, none⟩ (.slice (some ⟨RK, 0, none⟩) N N)).heap.size = V67.heap.size) := by show _ = _; simp
          have nn : Hid (¬ O9 = OUT ∧ ¬ O9 = RK ∧ ¬ O9 = O8) := by
            show _ ∧ _ ∧ _
            have n1 := hOUT.out; have n1 := hRK.out; have n1 := hO8.out; have n1 := hO9.out; have n5 := HS0.out; have n6 := HTR.out; have mV67 := szV67.out; have mV66 := szV66.out; have mV65 := szV65.out; have mV64 := szV64.out; have mV63 := szV63.out
            refine ⟨?_, ?_, ?_⟩ <;> omega
          replace AO := hidb (AO.out.skip (nn.out.1) 0 (.slice (some ⟨RK, 0, none⟩) N N))
          replace AK := hidb (AK.out.skip (nn.out.2.1) 0 (.slice (some ⟨RK, 0, none⟩) N N))
          replace A8 := hidb (A8.out.skip (nn.out.2.2) 0 (.slice (some ⟨RK, 0, none⟩) N N))
          clear nn
          have nn : Hid (¬ O9 = Z ∧ w2.heap.size ≤ O9) := by
            show _ ∧ _
            have n1 := hOUT.out; have n1 := hRK.out; have n1 := hO8.out; have n1 := hO9.out; have n5 := HS0.out; have n6 := HTR.out; have mV67 := szV67.out; have mV66 := szV66.out; have mV65 := szV65.out; have mV64 := szV64.out; have mV63 := szV63.out
            omega
          replace HT := hidb (HT.out.skip NT11.out 0 (.slice (some ⟨RK, 0, none⟩) N N))
          replace HZ := hidb (HZ.out.skip nn.out.1 0 (.slice (some ⟨RK, 0, none⟩) N N))
          replace HG := hidb (HG.out.set nn.out.2 0 (.slice (some ⟨RK, 0, none⟩) N N))
          replace A9 := hidb (At.fill1 (A9.out.has rfl) (.slice (some ⟨RK, 0, none⟩) N N))
          clear nn NT11
          generalize V67.setCell ⟨O9, 0, none⟩ (.slice (some ⟨RK, 0, none⟩) N N) = V68 at *
          refine hi_doneN (by kernel_rfl) ?_ _
          gi_wp2_with fail
          gi_meet
          have n1 := hOUT.out; have n1 := hRK.out; have n1 := hO8.out; have n1 := hO9.out; have n5 := HS0.out; have n6 := HTR.out; have mV68 := szV68.out; have mV67 := szV67.out; have mV66 := szV66.out; have mV65 := szV65.out; have mV64 := szV64.out; have mV63 := szV63.out
          refine ⟨O8, O9, OUT, RK, rfl, rfl, hidb ⟨HZ.out, A8.out, A9.out, by rw [← iF_rep, ← HCS.out.1]; exact AO.out, ?_, ⟨?_, ?_, ?_, ?_, ?_, ?_, ?_, ?_, ?_, ?_⟩, HG.out⟩⟩
          · rw [← iF_congr (f := fun _ => 0) (g := kfn (fun _ => (0, 0))) (fun j _ => by unfold kfn; split <;> rfl), ← iF_rep, ← HCS.out.2]; exact AK.out
          all_goals omega
        · skip
          go_simp
          refine hK.out _ _ ?_ (fun hHeld => ?_)
          · (try dsimp only); exact HT.out.alloc _
          clear hK K
          have szV69 : Hid ((V64.alloc (.cells #[.slice none 0 0] 54)).heap.size = V64.heap.size + 1) := by show _ = _; simp
          have A9 := hidb (At.new1 V64 (.slice none 0 0) 54)
          obtain ⟨O9, hO9⟩ : ∃ z, z = V64.heap.size := ⟨_, rfl⟩
          rw [← hO9] at A9 ⊢
          replace hO9 := hidb hO9
          replace HT := hidb (HT.out.alloc (.cells #[.slice none 0 0] 54))
          replace HZ := hidb (HZ.out.alloc (.cells #[.slice none 0 0] 54))
          replace HG := hidb (HG.out.alloc (.cells #[.slice none 0 0] 54))
          replace AO := hidb (AO.out.alloc (.cells #[.slice none 0 0] 54))
          replace A8 := hidb (A8.out.alloc (.cells #[.slice none 0 0] 54))
          generalize V64.alloc (.cells #[.slice none 0 0] 54) = V69 at *
          refine hi_ready (rs := [7, 10]) (by kernel_rfl) (by simp) ?_
          refine ReadyHI.cons rfl (fun K hK => ?_) (ReadyHI.cons rfl (fun K hK => ?_) ReadyHI.nil)
          · skip
            go_simp
            refine hK.out _ _ ?_ (fun hHeld => ?_)
            · (try dsimp only); exact HT.out.alloc _
            clear hK K
            have szV70 : Hid ((V69.alloc (.cells CK 63)).heap.size = V69.heap.size + 1) := by show _ = _; simp
            have AK := hidb (At.newArr V69 CK 63)
            obtain ⟨RK, hRK⟩ : ∃ z, z = V69.heap.size := ⟨_, rfl⟩
            rw [← hRK] at AK ⊢
            replace hRK := hidb hRK
            replace HT := hidb (HT.out.alloc (.cells CK 63))
            replace HZ := hidb (HZ.out.alloc (.cells CK 63))
            replace HG := hidb (HG.out.alloc (.cells CK 63))
            replace AO := hidb (AO.out.alloc (.cells CK 63))
            replace A8 := hidb (A8.out.alloc (.cells CK 63))
            replace A9 := hidb (A9.out.alloc (.cells CK 63))
            generalize V69.alloc (.cells CK 63) = V70 at *
            refine hi_ready (rs := [10]) (by kernel_rfl) (by simp) ?_
            refine ReadyHI.cons rfl (fun K hK => ?_) ReadyHI.nil
            have NT10 : Hid (¬ O8 = T) := by
              show ¬ _
              have n1 := hOUT.out; have n1 := hRK.out; have n1 := hO8.out; have n1 := hO9.out; have n5 := HS0.out; have n6 := HTR.out; have mV70 := szV70.out; have mV69 := szV69.out; have mV64 := szV64.out; have mV63 := szV63.out
              omega
            have z0 := A8.out.c1
            have y0 := A8.out.f1
            go_simp
            refine hK.out _ _ ?_ (fun hHeld => ?_)
            · (try dsimp only); exact HT.out.skip NT10.out _ _
            clear hK K
            clear z0 y0
            have szV71 : Hid ((V70.setCell ⟨O8, 0, none⟩ (.slice (some ⟨OUT, 0, none⟩) N N)).heap.size = V70.heap.size) := by show _ = _; simp
            have nn : Hid (¬ O8 = OUT ∧ ¬ O8 = RK ∧ ¬ O8 = O9) := by
              show _ ∧ _ ∧ _
              have n1 := hOUT.out; have n1 := hRK.out; have n1 := hO8.out; have n1 := hO9.out; have n5 := HS0.out; have n6 := HTR.out; have mV70 := szV70.out; have mV69 := szV69.out; have mV64 := szV64.out; have mV63 := szV63.out
              refine ⟨?_, ?_, ?_⟩ <;> omega
            replace AO := hidb (AO.out.skip (nn.out.1) 0 (.slice (some ⟨OUT, 0, none⟩) N N))
            replace AK := hidb (AK.out.skip (nn.out.2.1) 0 (.slice (some ⟨OUT, 0, none⟩) N N))
            replace A9 := hidb (A9.out.skip (nn.out.2.2) 0 (.slice (some ⟨OUT, 0, none⟩) N N))
            clear nn
            have nn : Hid (¬ O8 = Z ∧ w2.heap.size ≤ O8) := by
              show _ ∧ _
              have n1 := hOUT.out; have n1 := hRK.out; have n1 := hO8.out; have n1 := hO9.out; have n5 := HS0.out; have n6 := HTR.out; have mV70 := szV70.out; have mV69 := szV69.out; have mV64 := szV64.out; have mV63 := szV63.out
              omega
            replace HT := hidb (HT.out.skip NT10.out 0 (.slice (some ⟨OUT, 0, none⟩) N N))
            replace HZ := hidb (HZ.out.skip nn.out.1 0 (.slice (some ⟨OUT, 0, none⟩) N N))
            replace HG := hidb (HG.out.set nn.out.2 0 (.slice (some ⟨OUT, 0, none⟩) N N))
            replace A8 := hidb (At.fill1 (A8.out.has rfl) (.slice (some ⟨OUT, 0, none⟩) N N))
            clear nn NT10
            generalize V70.setCell ⟨O8, 0, none⟩ (.slice (some ⟨OUT, 0, none⟩) N N) = V71 at *
            refine hi_ready (rs := [11]) (by kernel_rfl) (by simp) ?_
            refine ReadyHI.cons rfl (fun K hK => ?_) ReadyHI.nil
            have NT11 : Hid (¬ O9 = T) := by
              show ¬ _
              have n1 := hOUT.out; have n1 := hRK.out; have n1 := hO8.out; have n1 := hO9.out; have n5 := HS0.out; have n6 := HTR.out; have mV71 := szV71.out; have mV70 := szV70.out; have mV69 := szV69.out; have mV64 := szV64.out; have mV63 := szV63.out
              omega
            have z0 := A9.out.c1
            have y0 := A9.out.f1
            go_simp
            refine hK.out _ _ ?_ (fun hHeld => ?_)
            · (try dsimp only); exact HT.out.skip NT11.out _ _
            clear hK K
            clear z0 y0
            have szV72 : Hid ((V71.setCell ⟨O9, 0, none⟩ (.slice (some ⟨RK, 0, none⟩) N N)).heap.size = V71.heap.size) := by show _ = _; simp
            have nn : Hid (¬ O9 = OUT ∧ ¬ O9 = RK ∧ ¬ O9 = O8) := by
              show _ ∧ _ ∧ _
              have n1 := hOUT.out; have n1 := hRK.out; have n1 := hO8.out; have n1 := hO9.out; have n5 := HS0.out; have n6 := HTR.out; have mV71 := szV71.out; have mV70 := szV70.out; have mV69 := szV69.out; have mV64 := szV64.out; have mV63 := szV63.out
              refine ⟨?_, ?_, ?_⟩ <;> omega
            replace AO := hidb (AO.out.skip (nn.out.1) 0 (.slice (some ⟨RK, 0, none⟩) N N))
            replace AK := hidb (AK.out.skip (nn.out.2.1) 0 (.slice (some ⟨RK, 0, none⟩) N N))
            replace A8 := hidb (A8.out.skip (nn.out.2.2) 0 (.slice (some ⟨RK, 0, none⟩) N N))
            clear nn
            have nn : Hid (¬ O9 = Z ∧ w2.heap.size ≤ O9) := by
              show _ ∧ _
              have n1 := hOUT.out; have n1 := hRK.out; have n1 := hO8.out; have n1 := hO9.out; have n5 := HS0.out; have n6 := HTR.out; have mV71 := szV71.out; have mV70 := szV70.out; have mV69 := szV69.out; have mV64 := szV64.out; have mV63 := szV63.out
              omega
            replace HT := hidb (HT.out.skip NT11.out 0 (.slice (some ⟨RK, 0, none⟩) N N))
            replace HZ := hidb (HZ.out.skip nn.out.1 0 (.slice (some ⟨RK, 0, none⟩) N N))
            replace HG := hidb (HG.out.set nn.out.2 0 (.slice (some ⟨RK, 0, none⟩) N N))
            replace A9 := hidb (At.fill1 (A9.out.has rfl) (.slice (some ⟨RK, 0, none⟩) N N))
            clear nn NT11
            generalize V71.setCell ⟨O9, 0, none⟩ (.slice (some ⟨RK, 0, none⟩) N N) = V72 at *
            refine hi_doneN (by kernel_rfl) ?_ _
            gi_wp2_with fail
            gi_meet
            have n1 := hOUT.out; have n1 := hRK.out; have n1 := hO8.out; have n1 := hO9.out; have n5 := HS0.out; have n6 := HTR.out; have mV72 := szV72.out; have mV71 := szV71.out; have mV70 := szV70.out; have mV69 := szV69.out; have mV64 := szV64.out; have mV63 := szV63.out
            refine ⟨O8, O9, OUT, RK, rfl, rfl, hidb ⟨HZ.out, A8.out, A9.out, by rw [← iF_rep, ← HCS.out.1]; exact AO.out, ?_, ⟨?_, ?_, ?_, ?_, ?_, ?_, ?_, ?_, ?_, ?_⟩, HG.out⟩⟩
            · rw [← iF_congr (f := fun _ => 0) (g := kfn (fun _ => (0, 0))) (fun j _ => by unfold kfn; split <;> rfl), ← iF_rep, ← HCS.out.2]; exact AK.out
            all_goals omega
          · skip
            have NT10 : Hid (¬ O8 = T) := by
              show ¬ _
              have n1 := hOUT.out; have n1 := hO8.out; have n1 := hO9.out; have n5 := HS0.out; have n6 := HTR.out; have mV69 := szV69.out; have mV64 := szV64.out; have mV63 := szV63.out
              omega
            have z0 := A8.out.c1
            have y0 := A8.out.f1
            go_simp
            refine hK.out _ _ ?_ (fun hHeld => ?_)
            · (try dsimp only); exact HT.out.skip NT10.out _ _
            clear hK K
            clear z0 y0
            have szV73 : Hid ((V69.setCell ⟨O8, 0, none⟩ (.slice (some ⟨OUT, 0, none⟩) N N)).heap.size = V69.heap.size) := by show _ = _; simp
            have nn : Hid (¬ O8 = OUT ∧ ¬ O8 = O9) := by
              show _ ∧ _
              have n1 := hOUT.out; have n1 := hO8.out; have n1 := hO9.out; have n5 := HS0.out; have n6 := HTR.out; have mV69 := szV69.out; have mV64 := szV64.out; have mV63 := szV63.out
              refine ⟨?_, ?_⟩ <;> omega
            replace AO := hidb (AO.out.skip (nn.out.1) 0 (.slice (some ⟨OUT, 0, none⟩) N N))
            replace A9 := hidb (A9.out.skip (nn.out.2) 0 (.slice (some ⟨OUT, 0, none⟩) N N))
            clear nn
            have nn : Hid (¬ O8 = Z ∧ w2.heap.size ≤ O8) := by
              show _ ∧ _
              have n1 := hOUT.out; have n1 := hO8.out; have n1 := hO9.out; have n5 := HS0.out; have n6 := HTR.out; have mV69 := szV69.out; have mV64 := szV64.out; have mV63 := szV63.out
              omega
            replace HT := hidb (HT.out.skip NT10.out 0 (.slice (some ⟨OUT, 0, none⟩) N N))
            replace HZ := hidb (HZ.out.skip nn.out.1 0 (.slice (some ⟨OUT, 0, none⟩) N N))
            replace HG := hidb (HG.out.set nn.out.2 0 (.slice (some ⟨OUT, 0, none⟩) N N))
            replace A8 := hidb (At.fill1 (A8.out.has rfl) (.slice (some ⟨OUT, 0, none⟩) N N))
            clear nn NT10
            generalize V69.setCell ⟨O8, 0, none⟩ (.slice (some ⟨OUT, 0, none⟩) N N) = V73 at *
            refine hi_ready (rs := [7]) (by kernel_rfl) (by simp) ?_
            refine ReadyHI.cons rfl (fun K hK => ?_) ReadyHI.nil
            go_simp
            refine hK.out _ _ ?_ (fun hHeld => ?_)
            · (try dsimp only); exact HT.out.alloc _
            clear hK K
            have szV74 : Hid ((V73.alloc (.cells CK 63)).heap.size = V73.heap.size + 1) := by show _ = _; simp
            have AK := hidb (At.newArr V73 CK 63)
            obtain ⟨RK, hRK⟩ : ∃ z, z = V73.heap.size := ⟨_, rfl⟩
            rw [← hRK] at AK ⊢
            replace hRK := hidb hRK
            replace HT := hidb (HT.out.alloc (.cells CK 63))
            replace HZ := hidb (HZ.out.alloc (.cells CK 63))
            replace HG := hidb (HG.out.alloc (.cells CK 63))
            replace AO := hidb (AO.out.alloc (.cells CK 63))
            replace A8 := hidb (A8.out.alloc (.cells CK 63))
            replace A9 := hidb (A9.out.alloc (.cells CK 63))
            generalize V73.alloc (.cells CK 63) = V74 at *
            refine hi_ready (rs := [11]) (by kernel_rfl) (by simp) ?_
            refine ReadyHI.cons rfl (fun K hK => ?_) ReadyHI.nil
            have NT11 : Hid (¬ O9 = T) := by
              show ¬ _
              have n1 := hOUT.out; have n1 := hRK.out; have n1 := hO8.out; have n1 := hO9.out; have n5 := HS0.out; have n6 := HTR.out; have mV74 := szV74.out; have mV73 := szV73.out; have mV69 := szV69.out; have mV64 := szV64.out; have mV63 := szV63.out
              omega
            have z0 := A9.out.c1
            have y0 := A9.out.f1
            go_simp
            refine hK.out _ _ ?_ (fun hHeld => ?_)
            · (try dsimp only); exact HT.out.skip NT11.out _ _
            clear hK K
            clear z0 y0
            have szV75 : Hid ((V74.setCell ⟨O9, 0, none⟩ (.slice (some ⟨RK, 0, none⟩) N N)).heap.size = V74.heap.size) := by show _ = _; simp
            have nn : Hid (¬ O9 = OUT ∧ ¬ O9 = RK ∧ ¬ O9 = O8) := by
              show _ ∧ _ ∧ _
              have n1 := hOUT.out; have n1 := hRK.out; have n1 := hO8.out; have n1 := hO9.out; have n5 := HS0.out; have n6 := HTR.out; have mV74 := szV74.out; have mV73 := szV73.out; have mV69 := szV69.out; have mV64 := szV64.out; have mV63 := szV63.out
              refine ⟨?_, ?_, ?_⟩ <;> omega
            replace AO := hidb (AO.out.skip (nn.out.1) 0 (.slice (some ⟨RK, 0, none⟩) N N))
            replace AK := hidb (AK.out.skip (nn.out.2.1) 0 (.slice (some ⟨RK, 0, none⟩) N N))
            replace A8 := hidb (A8.out.skip (nn.out.2.2) 0 (.slice (some ⟨RK, 0, none⟩) N N))
            clear nn
            have nn : Hid (¬ O9 = Z ∧ w2.heap.size ≤ O9) := by
              show _ ∧ _
              have n1 := hOUT.out; have n1 := hRK.out; have n1 := hO8.out; have n1 := hO9.out; have n5 := HS0.out; have n6 := HTR.out; have mV74 := szV74.out; have mV73 := szV73.out; have mV69 := szV69.out; have mV64 := szV64.out; have mV63 := szV63.out
              omega
            replace HT := hidb (HT.out.skip NT11.out 0 (.slice (some ⟨RK, 0, none⟩) N N))
            replace HZ := hidb (HZ.out.skip nn.out.1 0 (.slice (some ⟨RK, 0, none⟩) N N))
            replace HG := hidb (HG.out.set nn.out.2 0 (.slice (some ⟨RK, 0, none⟩) N N))
            replace A9 := hidb (At.fill1 (A9.out.has rfl) (.slice (some ⟨RK, 0, none⟩) N N))
            clear nn NT11
            generalize V74.setCell ⟨O9, 0, none⟩ (.slice (some ⟨RK, 0, none⟩) N N) = V75 at *
            refine hi_doneN (by kernel_rfl) ?_ _
            gi_wp2_with fail
            gi_meet
            have n1 := hOUT.out; have n1 := hRK.out; have n1 := hO8.out; have n1 := hO9.out; have n5 := HS0.out; have n6 := HTR.out; have mV75 := szV75.out; have mV74 := szV74.out; have mV73 := szV73.out; have mV69 := szV69.out; have mV64 := szV64.out; have mV63 := szV63.out
            refine ⟨O8, O9, OUT, RK, rfl, rfl, hidb ⟨HZ.out, A8.out, A9.out, by rw [← iF_rep, ← HCS.out.1]; exact AO.out, ?_, ⟨?_, ?_, ?_, ?_, ?_, ?_, ?_, ?_, ?_, ?_⟩, HG.out⟩⟩
            · rw [← iF_congr (f := fun _ => 0) (g := kfn (fun _ => (0, 0))) (fun j _ => by unfold kfn; split <;> rfl), ← iF_rep, ← HCS.out.2]; exact AK.out
            all_goals omega
      · skip
        go_simp
        refine hK.out _ _ ?_ (fun hHeld => ?_)
        · (try dsimp only); exact HT.out.alloc _
        clear hK K
        have szV76 : Hid ((V63.alloc (.cells CK 63)).heap.size = V63.heap.size + 1) := by show _ = _; simp
        have AK := hidb (At.newArr V63 CK 63)
        obtain ⟨RK, hRK⟩ : ∃ z, z = V63.heap.size := ⟨_, rfl⟩
        rw [← hRK] at AK ⊢
        replace hRK := hidb hRK
        replace HT := hidb (HT.out.alloc (.cells CK 63))
        replace HZ := hidb (HZ.out.alloc (.cells CK 63))
        replace HG := hidb (HG.out.alloc (.cells CK 63))
        replace A8 := hidb (A8.out.alloc (.cells CK 63))
        generalize V63.alloc (.cells CK 63) = V76 at *
        refine hi_ready (rs := [3, 9]) (by kernel_rfl) (by simp) ?_
        refine ReadyHI.cons rfl (fun K hK => ?_) (ReadyHI.cons rfl (fun K hK => ?_) ReadyHI.nil)
        · skip
          go_simp
          refine hK.out _ _ ?_ (fun hHeld => ?_)
          · (try dsimp only); exact HT.out.alloc _
          clear hK K
          have szV77 : Hid ((V76.alloc (.cells CI 3)).heap.size = V76.heap.size + 1) := by show _ = _; simp
          have AO := hidb (At.newArr V76 CI 3)
          obtain ⟨OUT, hOUT⟩ : ∃ z, z = V76.heap.size := ⟨_, rfl⟩
          rw [← hOUT] at AO ⊢
          replace hOUT := hidb hOUT
          replace HT := hidb (HT.out.alloc (.cells CI 3))
          replace HZ := hidb (HZ.out.alloc (.cells CI 3))
          replace HG := hidb (HG.out.alloc (.cells CI 3))
          replace AK := hidb (AK.out.alloc (.cells CI 3))
          replace A8 := hidb (A8.out.alloc (.cells CI 3))
          generalize V76.alloc (.cells CI 3) = V77 at *
          refine hi_ready (rs := [9]) (by kernel_rfl) (by simp) ?_
          refine ReadyHI.cons rfl (fun K hK => ?_) ReadyHI.nil
          go_simp
          refine hK.out _ _ ?_ (fun hHeld => ?_)
          · (try dsimp only); exact HT.out.alloc _
          clear hK K
          have szV78 : Hid ((V77.alloc (.cells #[.slice none 0 0] 54)).heap.size = V77.heap.size + 1) := by show _ = _; simp
          have A9 := hidb (At.new1 V77 (.slice none 0 0) 54)
          obtain ⟨O9, hO9⟩ : ∃ z, z = V77.heap.size := ⟨_, rfl⟩
          rw [← hO9] at A9 ⊢
          replace hO9 := hidb hO9
          replace HT := hidb (HT.out.alloc (.cells #[.slice none 0 0] 54))
          replace HZ := hidb (HZ.out.alloc (.cells #[.slice none 0 0] 54))
          replace HG := hidb (HG.out.alloc (.cells #[.slice none 0 0] 54))
          replace AO := hidb (AO.out.alloc (.cells #[.slice none 0 0] 54))
          replace AK := hidb (AK.out.alloc (.cells #[.slice none 0 0] 54))
          replace A8 := hidb (A8.out.alloc (.cells #[.slice none 0 0] 54))
          generalize V77.alloc (.cells #[.slice none 0 0] 54) = V78 at *
          refine hi_ready (rs := [10]) (by kernel_rfl) (by simp) ?_
          refine ReadyHI.cons rfl (fun K hK => ?_) ReadyHI.nil
          have NT10 : Hid (¬ O8 = T) := by
            show ¬ _
            have n1 := hOUT.out; have n1 := hRK.out; have n1 := hO8.out; have n1 := hO9.out; have n5 := HS0.out; have n6 := HTR.out; have mV78 := szV78.out; have mV77 := szV77.out; have mV76 := szV76.out; have mV63 := szV63.out
            omega
          have z0 := A8.out.c1
          have y0 := A8.out.f1
          go_simp
          refine hK.out _ _ ?_ (fun hHeld => ?_)
          · (try dsimp only); exact HT.out.skip NT10.out _ _
          clear hK K
          clear z0 y0
          have szV79 : Hid ((V78.setCell ⟨O8, 0, none⟩ (.slice (some ⟨OUT, 0, none⟩) N N)).heap.size = V78.heap.size) := by show _ = _; simp
          have nn : Hid (¬ O8 = OUT ∧ ¬ O8 = RK ∧ ¬ O8 = O9) := by
            show _ ∧ _ ∧ _
            have n1 := hOUT.out; have n1 := hRK.out; have n1 := hO8.out; have n1 := hO9.out; have n5 := HS0.out; have n6 := HTR.out; have mV78 := szV78.out; have mV77 := szV77.out; have mV76 := szV76.out; have mV63 := szV63.out
            refine ⟨?_, ?_, ?_⟩ <;> omega
          replace AO := hidb (AO.out.skip (nn.out.1) 0 (.slice (some ⟨OUT, 0, none⟩) N N))
          replace AK := hidb (AK.out.skip (nn.out.2.1) 0 (.slice (some ⟨OUT, 0, none⟩) N N))
          replace A9 := hidb (A9.out.skip (nn.out.2.2) 0 (.slice (some ⟨OUT, 0, none⟩) N N))
          clear nn
          have nn : Hid (¬ O8 = Z ∧ w2.heap.size ≤ O8) := by
            show _ ∧ _
            have n1 := hOUT.out; have n1 := hRK.out; have n1 := hO8.out; have n1 := hO9.out; have n5 := HS0.out; have n6 := HTR.out; have mV78 := szV78.out; have mV77 := szV77.out; have mV76 := szV76.out; have mV63 := szV63.out
            omega
          replace HT := hidb (HT.out.skip NT10.out 0 (.slice (some ⟨OUT, 0, none⟩) N N))
          replace HZ := hidb (HZ.out.skip nn.out.1 0 (.slice (some ⟨OUT, 0, none⟩) N N))
          replace HG := hidb (HG.out.set nn.out.2 0 (.slice (some ⟨OUT, 0, none⟩) N N))
          replace A8 := hidb (At.fill1 (A8.out.has rfl) (.slice (some ⟨OUT, 0, none⟩) N N))
          clear nn NT10
          generalize V78.setCell ⟨O8, 0, none⟩ (.slice (some ⟨OUT, 0, none⟩) N N) = V79 at *
          refine hi_ready (rs := [11]) (by kernel_rfl) (by simp) ?_
          refine ReadyHI.cons rfl (fun K hK => ?_) ReadyHI.nil
          have NT11 : Hid (¬ O9 = T) := by
            show ¬ _
            have n1 := hOUT.out; have n1 := hRK.out; have n1 := hO8.out; have n1 := hO9.out; have n5 := HS0.out; have n6 := HTR.out; have mV79 := szV79.out; have mV78 := szV78.out; have mV77 := szV77.out; have mV76 := szV76.out; have mV63 := szV63.out
            omega
          have z0 := A9.out.c1
          have y0 := A9.out.f1
          go_simp
          refine hK.out _ _ ?_ (fun hHeld => ?_)
          · (try dsimp only); exact HT.out.skip NT11.out _ _
          clear hK K
          clear z0 y0
          have szV80 : Hid ((V79.setCell ⟨O9, 0, none⟩ (.slice (some ⟨RK, 0, none⟩) N N)).heap.size = V79.heap.size) := by show _ = _; simp
          have nn : Hid (¬ O9 = OUT ∧ ¬ O9 = RK ∧ ¬ O9 = O8) := by
            show _ ∧ _ ∧ _
            have n1 := hOUT.out; have n1 := hRK.out; have n1 := hO8.out; have n1 := hO9.out; have n5 := HS0.out; have n6 := HTR.out; have mV79 := szV79.out; have mV78 := szV78.out; have mV77 := szV77.out; have mV76 := szV76.out; have mV63 := szV63.out
            refine ⟨?_, ?_, ?_⟩ <;> omega
          replace AO := hidb (AO.out.skip (nn.out.1) 0 (.slice (some ⟨RK, 0, none⟩) N N))
          replace AK := hidb (AK.out.skip (nn.out.2.1) 0 (.slice (some ⟨RK, 0, none⟩) N N))
          replace A8 := hidb (A8.out.skip (nn.out.2.2) 0 (.slice (some ⟨RK, 0, none⟩) N N))
          clear nn
          have nn : Hid (¬ O9 = Z ∧ w2.heap.size ≤ O9) := by
            show _ ∧ _
            have n1 := hOUT.out; have n1 := hRK.out; have n1 := hO8.out; have n1 := hO9.out; have n5 := HS0.out; have n6 := HTR.out; have mV79 := szV79.out; have mV78 := szV78.out; have mV77 := szV77.out; have mV76 := szV76.out; have mV63 := szV63.out
            omega
          replace HT := hidb (HT.out.skip NT11.out 0 (.slice (some ⟨RK, 0, none⟩) N N))
          replace HZ := hidb (HZ.out.skip nn.out.1 0 (.slice (some ⟨RK, 0, none⟩) N N))
          replace HG := hidb (HG.out.set nn.out.2 0 (.slice (some ⟨RK, 0, none⟩) N N))
          replace A9 := hidb (At.fill1 (A9.out.has rfl) (.slice (some ⟨RK, 0, none⟩) N N))
          clear nn NT11
          generalize V79.setCell ⟨O9, 0, none⟩ (.slice (some ⟨RK, 0, none⟩) N N) = V80 at *
          refine hi_doneN (by kernel_rfl) ?_ _
          gi_wp2_with fail
          gi_meet
          have n1 := hOUT.out; have n1 := hRK.out; have n1 := hO8.out; have n1 := hO9.out; have n5 := HS0.out; have n6 := HTR.out; have mV80 := szV80.out; have mV79 := szV79.out; have mV78 := szV78.out; have mV77 := szV77.out; have mV76 := szV76.out; have mV63 := szV63.out
          refine ⟨O8, O9, OUT, RK, rfl, rfl, hidb ⟨HZ.out, A8.out, A9.out, by rw [← iF_rep, ← HCS.out.1]; exact AO.out, ?_, ⟨?_, ?_, ?_, ?_, ?_, ?_, ?_, ?_, ?_, ?_⟩, HG.out⟩⟩
          · rw [← iF_congr (f := fun _ => 0) (g := kfn (fun _ => (0, 0))) (fun j _ => by unfold kfn; split <;> rfl), ← iF_rep, ← HCS.out.2]; exact AK.out
          all_goals omega
        · skip
          go_simp
          refine hK.out _ _ ?_ (fun hHeld => ?_)
          · (try dsimp only); exact HT.out.alloc _
          clear hK K
          have szV81 : Hid ((V76.alloc (.cells #[.slice none 0 0] 54)).heap.size = V76.heap.size + 1) := by show _ = _; simp
          have A9 := hidb (At.new1 V76 (.slice none 0 0) 54)
          obtain ⟨O9, hO9⟩ : ∃ z, z = V76.heap.size := ⟨_, rfl⟩
          rw [← hO9] at A9 ⊢
          replace hO9 := hidb hO9
          replace HT := hidb (HT.out.alloc (.cells #[.slice none 0 0] 54))
          replace HZ := hidb (HZ.out.alloc (.cells #[.slice none 0 0] 54))
          replace HG := hidb (HG.out.alloc (.cells #[.slice none 0 0] 54))
          replace AK := hidb (AK.out.alloc (.cells #[.slice none 0 0] 54))
          replace A8 := hidb (A8.out.alloc (.cells #[.slice none 0 0] 54))
          generalize V76.alloc (.cells #[.slice none 0 0] 54) = V81 at *
          refine hi_ready (rs := [3]) (by kernel_rfl) (by simp) ?_
          refine ReadyHI.cons rfl (fun K hK => ?_) ReadyHI.nil
          go_simp
          refine hK.out _ _ ?_ (fun hHeld => ?_)
          · (try dsimp only); exact HT.out.alloc _
          clear hK K
          have szV82 : Hid ((V81.alloc (.cells CI 3)).heap.size = V81.heap.size + 1) := by show _ = _; simp
          have AO := hidb (At.newArr V81 CI 3)
          obtain ⟨OUT, hOUT⟩ : ∃ z, z = V81.heap.size := ⟨_, rfl⟩
          rw [← hOUT] at AO ⊢
          replace hOUT := hidb hOUT
          replace HT := hidb (HT.out.alloc (.cells CI 3))
          replace HZ := hidb (HZ.out.alloc (.cells CI 3))
          replace HG := hidb (HG.out.alloc (.cells CI 3))
          replace AK := hidb (AK.out.alloc (.cells CI 3))
          replace A8 := hidb (A8.out.alloc (.cells CI 3))
          replace A9 := hidb (A9.out.alloc (.cells CI 3))
          generalize V81.alloc (.cells CI 3) = V82 at *
          refine hi_ready (rs := [10]) (by kernel_rfl) (by simp) ?_
          refine ReadyHI.cons rfl (fun K hK => ?_) ReadyHI.nil
          have NT10 : Hid (¬ O8 = T) := by
            show ¬ _
            have n1 := hOUT.out; have n1 := hRK.out; have n1 := hO8.out; have n1 := hO9.out; have n5 := HS0.out; have n6 := HTR.out; have mV82 := szV82.out; have mV81 := szV81.out; have mV76 := szV76.out; have mV63 := szV63.out
            omega
          have z0 := A8.out.c1
          have y0 := A8.out.f1
          go_simp
          refine hK.out _ _ ?_ (fun hHeld => ?_)
          · (try dsimp only); exact HT.out.skip NT10.out _ _
          clear hK K
          clear z0 y0
          have szV83 : Hid ((V82.setCell ⟨O8, 0, none⟩ (.slice (some ⟨OUT, 0, none⟩) N N)).heap.size = V82.heap.size) := by show _ = _; simp
          have nn : Hid (¬ O8 = OUT ∧ ¬ O8 = RK ∧ ¬ O8 = O9) := by
            show _ ∧ _ ∧ _
            have n1 := hOUT.out; have n1 := hRK.out; have n1 := hO8.out; have n1 := hO9.out; have n5 := HS0.out; have n6 := HTR.out; have mV82 := szV82.out; have mV81 := szV81.out; have mV76 := szV76.out; have mV63 := szV63.out
            refine ⟨?_, ?_, ?_⟩ <;> omega
          replace AO := hidb (AO.out.skip (nn.out.1) 0 (.slice (some ⟨OUT, 0, none⟩) N N))
          replace AK := hidb (AK.out.skip (nn.out.2.1) 0 (.slice (some ⟨OUT, 0, none⟩) N N))
          replace A9 := hidb (A9.out.skip (nn.out.2.2) 0 (.slice (some ⟨OUT, 0, none⟩) N N))
          clear nn
          have nn : Hid (¬ O8 = Z ∧ w2.heap.size ≤ O8) := by
            show _ ∧ _
            have n1 := hOUT.out; have n1 := hRK.out; have n1 := hO8.out; have n1 := hO9.out; have n5 := HS0.out; have n6 := HTR.out; have mV82 := szV82.out; have mV81 := szV81.out; have mV76 := szV76.out; have mV63 := szV63.out
            omega
          replace HT := hidb (HT.out.skip NT10.out 0 (.slice (some ⟨OUT, 0, none⟩) N N))
          replace HZ := hidb (HZ.out.skip nn.out.1 0 (.slice (some ⟨OUT, 0, none⟩) N N))
          replace HG := hidb (HG.out.set nn.out.2 0 (.slice (some ⟨OUT, 0, none⟩) N N))
          replace A8 := hidb (At.fill1 (A8.out.has rfl) (.slice (some ⟨OUT, 0, none⟩) N N))
          clear nn NT10
          generalize V82.setCell ⟨O8, 0, none⟩ (.slice (some ⟨OUT, 0, none⟩) N N) = V83 at *
          refine hi_ready (rs := [11]) (by kernel_rfl) (by simp) ?_
          refine ReadyHI.cons rfl (fun K hK => ?_) ReadyHI.nil
          have NT11 : Hid (¬ O9 = T) := by
            show ¬ _
            have n1 := hOUT.out; have n1 := hRK.out; have n1 := hO8.out; have n1 := hO9.out; have n5 := HS0.out; have n6 := HTR.out; have mV83 := szV83.out; have mV82 := szV82.out; have mV81 := szV81.out; have mV76 := szV76.out; have mV63 := szV63.out
            omega
          have z0 := A9.out.c1
          have y0 := A9.out.f1
          go_simp
          refine hK.out _ _ ?_ (fun hHeld => ?_)
          · (try dsimp only); exact HT.out.skip NT11.out _ _
          clear hK K
          clear z0 y0
          have szV84 : Hid ((V83.setCell ⟨O9, 0, none⟩ (.slice (some ⟨RK, 0, none⟩) N N)).heap.size = V83.heap.size) := by show _ = _; simp
          have nn : Hid (¬ O9 = OUT ∧ ¬ O9 = RK ∧ ¬ O9 = O8) := by
            show _ ∧ _ ∧ _
            have n1 := hOUT.out; have n1 := hRK.out; have n1 := hO8.out; have n1 := hO9.out; have n5 := HS0.out; have n6 := HTR.out; have mV83 := szV83.out; have mV82 := szV82.out; have mV81 := szV81.out; have mV76 := szV76.out; have mV63 := szV63.out
            refine ⟨?_, ?_, ?_⟩ <;> omega
          replace AO := hidb (AO.out.skip (nn.out.1) 0 (.slice (some ⟨RK, 0, none⟩) N N))
          replace AK := hidb (AK.out.skip (nn.out.2.1) 0 (.slice (some ⟨RK, 0, none⟩) N N))
          replace A8 := hidb (A8.out.skip (nn.out.2.2) 0 (.slice (some ⟨RK, 0, none⟩) N N))
          clear nn
          have nn : Hid (¬ O9 = Z ∧ w2.heap.size ≤ O9) := by
            show _ ∧ _
            have n1 := hOUT.out; have n1 := hRK.out; have n1 := hO8.out; have n1 := hO9.out; have n5 := HS0.out; have n6 := HTR.out; have mV83 := szV83.out; have mV82 := szV82.out; have mV81 := szV81.out; have mV76 := szV76.out; have mV63 := szV63.out
            omega
          replace HT := hidb (HT.out.skip NT11.out 0 (.slice (some ⟨RK, 0, none⟩) N N))
          replace HZ := hidb (HZ.out.skip nn.out.1 0 (.slice (some ⟨RK, 0, none⟩) N N))
          replace HG := hidb (HG.out.set nn.out.2 0 (.slice (some ⟨RK, 0, none⟩) N N))
          replace A9 := hidb (At.fill1 (A9.out.has rfl) (.slice (some ⟨RK, 0, none⟩) N N))
          clear nn NT11
          generalize V83.setCell ⟨O9, 0, none⟩ (.slice (some ⟨RK, 0, none⟩) N N) = V84 at *
          refine hi_doneN (by kernel_rfl) ?_ _
          gi_wp2_with fail
          gi_meet
          have n1 := hOUT.out; have n1 := hRK.out; have n1 := hO8.out; have n1 := hO9.out; have n5 := HS0.out; have n6 := HTR.out; have mV84 := szV84.out; have mV83 := szV83.out; have mV82 := szV82.out; have mV81 := szV81.out; have mV76 := szV76.out; have mV63 := szV63.out
          refine ⟨O8, O9, OUT, RK, rfl, rfl, hidb ⟨HZ.out, A8.out, A9.out, by rw [← iF_rep, ← HCS.out.1]; exact AO.out, ?_, ⟨?_, ?_, ?_, ?_, ?_, ?_, ?_, ?_, ?_, ?_⟩, HG.out⟩⟩
          · rw [← iF_congr (f := fun _ => 0) (g := kfn (fun _ => (0, 0))) (fun j _ => by unfold kfn; split <;> rfl), ← iF_rep, ← HCS.out.2]; exact AK.out
          all_goals omega
      · skip
        go_simp
        refine hK.out _ _ ?_ (fun hHeld => ?_)
        · (try dsimp only); exact HT.out.alloc _
        clear hK K
        have szV85 : Hid ((V63.alloc (.cells #[.slice none 0 0] 54)).heap.size = V63.heap.size + 1) := by show _ = _; simp
        have A9 := hidb (At.new1 V63 (.slice none 0 0) 54)
        obtain ⟨O9, hO9⟩ : ∃ z, z = V63.heap.size := ⟨_, rfl⟩
        rw [← hO9] at A9 ⊢
        replace hO9 := hidb hO9
        replace HT := hidb (HT.out.alloc (.cells #[.slice none 0 0] 54))
        replace HZ := hidb (HZ.out.alloc (.cells #[.slice none 0 0] 54))
        replace HG := hidb (HG.out.alloc (.cells #[.slice none 0 0] 54))
        replace A8 := hidb (A8.out.alloc (.cells #[.slice none 0 0] 54))
        generalize V63.alloc (.cells #[.slice none 0 0] 54) = V85 at *
        refine hi_ready (rs := [3, 7]) (by kernel_rfl) (by simp) ?_
        refine ReadyHI.cons rfl (fun K hK => ?_) (ReadyHI.cons rfl (fun K hK => ?_) ReadyHI.nil)
        · skip
          go_simp
          refine hK.out _ _ ?_ (fun hHeld => ?_)
          · (try dsimp only); exact HT.out.alloc _
          clear hK K
          have szV86 : Hid ((V85.alloc (.cells CI 3)).heap.size = V85.heap.size + 1) := by show _ = _; simp
          have AO := hidb (At.newArr V85 CI 3)
          obtain ⟨OUT, hOUT⟩ : ∃ z, z = V85.heap.size := ⟨_, rfl⟩
          rw [← hOUT] at AO ⊢
          replace hOUT := hidb hOUT
          replace HT := hidb (HT.out.alloc (.cells CI 3))
          replace HZ := hidb (HZ.out.alloc (.cells CI 3))
          replace HG := hidb (HG.out.alloc (.cells CI 3))
          replace A8 := hidb (A8.out.alloc (.cells CI 3))
          replace A9 := hidb (A9.out.alloc (.cells CI 3))
          generalize V85.alloc (.cells CI 3) = V86 at *
          refine hi_ready (rs := [7, 10]) (by kernel_rfl) (by simp) ?_
          refine ReadyHI.cons rfl (fun K hK => ?_) (ReadyHI.cons rfl (fun K hK => ?_) ReadyHI.nil)
          · skip
            go_simp
            refine hK.out _ _ ?_ (fun hHeld => ?_)
            · (try dsimp only); exact HT.out.alloc _
            clear hK K
            have szV87 : Hid ((V86.alloc (.cells CK 63)).heap.size = V86.heap.size + 1) := by show _ = _; simp
            have AK := hidb (At.newArr V86 CK 63)
            obtain ⟨RK, hRK⟩ : ∃ z, z = V86.heap.size := ⟨_, rfl⟩
            rw [← hRK] at AK ⊢
            replace hRK := hidb hRK
            replace HT := hidb (HT.out.alloc (.cells CK 63))
            replace HZ := hidb (HZ.out.alloc (.cells CK 63))
            replace HG := hidb (HG.out.alloc (.cells CK 63))
            replace AO := hidb (AO.out.alloc (.cells CK 63))
            replace A8 := hidb (A8.out.alloc (.cells CK 63))
            replace A9 := hidb (A9.out.alloc (.cells CK 63))
            generalize V86.alloc (.cells CK 63) = V87 at *
            refine hi_ready (rs := [10]) (by kernel_rfl) (by simp) ?_
            refine ReadyHI.cons rfl (fun K hK => ?_) ReadyHI.nil
            have NT10 : Hid (¬ O8 = T) := by
              show ¬ _
              have n1 := hOUT.out; have n1 := hRK.out; have n1 := hO8.out; have n1 := hO9.out; have n5 := HS0.out; have n6 := HTR.out; have mV87 := szV87.out; have mV86 := szV86.out; have mV85 := szV85.out; have mV63 := szV63.out
              omega
            have z0 := A8.out.c1
            have y0 := A8.out.f1
            go_simp
            refine hK.out _ _ ?_ (fun hHeld => ?_)
            · (try dsimp only); exact HT.out.skip NT10.out _ _
            clear hK K
            clear z0 y0
            have szV88 : Hid ((V87.setCell ⟨O8, 0, none⟩ (.slice (some ⟨OUT, 0, none⟩) N N)).heap.size = V87.heap.size) := by show _ = _; simp
            have nn : Hid (¬ O8 = OUT ∧ ¬ O8 = RK ∧ ¬ O8 = O9) := by
              show _ ∧ _ ∧ _
              have n1 := hOUT.out; have n1 := hRK.out; have n1 := hO8.out; have n1 := hO9.out; have n5 := HS0.out; have n6 := HTR.out; have mV87 := szV87.out; have mV86 := szV86.out; have mV85 := szV85.out; have mV63 := szV63.out
              refine ⟨?_, ?_, ?_⟩ <;> omega
            replace AO := hidb (AO.out.skip (nn.out.1) 0 (.slice (some ⟨OUT, 0, none⟩) N N))
            replace AK := hidb (AK.out.skip (nn.out.2.1) 0 (.slice (some ⟨OUT, 0, none⟩) N N))
            replace A9 := hidb (A9.out.skip (nn.out.2.2) 0 (.slice (some ⟨OUT, 0, none⟩) N N))
            clear nn
            have nn : Hid (¬ O8 = Z ∧ w2.heap.size ≤ O8) := by
              show _ ∧ _
              have n1 := hOUT.out; have n1 := hRK.out; have n1 := hO8.out; have n1 := hO9.out; have n5 := HS0.out; have n6 := HTR.out; have mV87 := szV87.out; have mV86 := szV86.out; have mV85 := szV85.out; have mV63 := szV63.out
              omega
            replace HT := hidb (HT.out.skip NT10.out 0 (.slice (some ⟨OUT, 0, none⟩) N N))
            replace HZ := hidb (HZ.out.skip nn.out.1 0 (.slice (some ⟨OUT, 0, none⟩) N N))
            replace HG := hidb (HG.out.set nn.out.2 0 (.slice (some ⟨OUT, 0, none⟩) N N))
            replace A8 := hidb (At.fill1 (A8.out.has rfl) (.slice (some ⟨OUT, 0, none⟩) N N))
            clear nn NT10
            generalize V87.setCell ⟨O8, 0, none⟩ (.slice (some ⟨OUT, 0, none⟩) N N) = V88 at *
            refine hi_ready (rs := [11]) (by kernel_rfl) (by simp) ?_
            refine ReadyHI.cons rfl (fun K hK => ?_) ReadyHI.nil
            have NT11 : Hid (¬ O9 = T) := by
              show ¬ _
              have n1 := hOUT.out; have n1 := hRK.out; have n1 := hO8.out; have n1 := hO9.out; have n5 := HS0.out; have n6 := HTR.out; have mV88 := szV88.out; have mV87 := szV87.out; have mV86 := szV86.out; have mV85 := szV85.out; have mV63 := szV63.out
              omega
            have z0 := A9.out.c1
            have y0 := A9.out.f1
            go_simp
            refine hK.out _ _ ?_ (fun hHeld => ?_)
            · (try dsimp only); exact HT.out.skip NT11.out _ _
            clear hK K
            clear z0 y0
            have szV89 : Hid ((V88.setCell ⟨O9, 0, none⟩ (.slice (some ⟨RK, 0, none⟩) N N)).heap.size = V88.heap.size) := by show _ = _; simp
            have nn : Hid (¬ O9 = OUT ∧ ¬ O9 = RK ∧ ¬ O9 = O8) := by
              show _ ∧ _ ∧ _
              have n1 := hOUT.out; have n1 := hRK.out; have n1 := hO8.out; have n1 := hO9.out; have n5 := HS0.out; have n6 := HTR.out; have mV88 := szV88.out; have mV87 := szV87.out; have mV86 := szV86.out; have mV85 := szV85.out; have mV63 := szV63.out
              refine ⟨?_, ?_, ?_⟩ <;> omega
            replace AO := hidb (AO.out.skip (nn.out.1) 0 (.slice (some ⟨RK, 0, none⟩) N N))
            replace AK := hidb (AK.out.skip (nn.out.2.1) 0 (.slice (some ⟨RK, 0, none⟩) N N))
            replace A8 := hidb (A8.out.skip (nn.out.2.2) 0 (.slice (some ⟨RK, 0, none⟩) N N))
            clear nn
            have nn : Hid (¬ O9 = Z ∧ w2.heap.size ≤ O9) := by
              show _ ∧ _
              have n1 := hOUT.out; have n1 := hRK.out; have n1 := hO8.out; have n1 := hO9.out; have n5 := HS0.out; have n6 := HTR.out; have mV88 := szV88.out; have mV87 := szV87.out; have mV86 := szV86.out; have mV85 := szV85.out; have mV63 := szV63.out
              omega
            replace HT := hidb (HT.out.skip NT11.out 0 (.slice (some ⟨RK, 0, none⟩) N N))
            replace HZ := hidb (HZ.out.skip nn.out.1 0 (.slice (some ⟨RK, 0, none⟩) N N))
            replace HG := hidb (HG.out.set nn.out.2 0 (.slice (some ⟨RK, 0, none⟩) N N))
            replace A9 := hidb (At.fill1 (A9.out.has rfl) (.slice (some ⟨RK, 0, none⟩) N N))
            clear nn NT11
            generalize V88.setCell ⟨O9, 0, none⟩ (.slice (some ⟨RK, 0, none⟩) N N) = V89 at *
            refine hi_doneN (by kernel_rfl) ?_ _
            gi_wp2_with fail
            gi_meet
            have n1 := hOUT.out; have n1 := hRK.out; have n1 := hO8.out; have n1 := hO9.out; have n5 := HS0.out; have n6 := HTR.out; have mV89 := szV89.out; have mV88 := szV88.out; have mV87 := szV87.out; have mV86 := szV86.out; have mV85 := szV85.out; have mV63 := szV63.out
            refine ⟨O8, O9, OUT, RK, rfl, rfl, hidb ⟨HZ.out, A8.out, A9.out, by rw [← iF_rep, ← HCS.out.1]; exact AO.out, ?_, ⟨?_, ?_, ?_, ?_, ?_, ?_, ?_, ?_, ?_, ?_⟩, HG.out⟩⟩
            · rw [← iF_congr (f := fun _ => 0) (g := kfn (fun _ => (0, 0))) (fun j _ => by unfold kfn; split <;> rfl), ← iF_rep, ← HCS.out.2]; exact AK.out
            all_goals omega
          · skip
            have NT10 : Hid (¬ O8 = T) := by
              show ¬ _
              have n1 := hOUT.out; have n1 := hO8.out; have n1 := hO9.out; have n5 := HS0.out; have n6 := HTR.out; have mV86 := szV86.out; have mV85 := szV85.out; have mV63 := szV63.out
              omega
            have z0 := A8.out.c1
            have y0 := A8.out.f1
            go_simp
            refine hK.out _ _ ?_ (fun hHeld => ?_)
            · (try dsimp only); exact HT.out.skip NT10.out _ _
            clear hK K
            clear z0 y0
            have szV90 : Hid ((V86.setCell ⟨O8, 0, none⟩ (.slice (some ⟨OUT, 0, none⟩) N N)).heap.size = V86.heap.size) := by show _ = _; simp
            have nn : Hid (¬ O8 = OUT ∧ ¬ O8 = O9) := by
              show _ ∧ _
              have n1 := hOUT.out; have n1 := hO8.out; have n1 := hO9.out; have n5 := HS0.out; have n6 := HTR.out; have mV86 := szV86.out; have mV85 := szV85.out; have mV63 := szV63.out
              refine ⟨?_, ?_⟩ <;> omega
            replace AO := hidb (AO.out.skip (nn.out.1) 0 (.slice (some ⟨OUT, 0, none⟩) N N))
            replace A9 := hidb (A9.out.skip (nn.out.2) 0 (.slice (some ⟨OUT, 0, none⟩) N N))
            clear nn
            have nn : Hid (¬ O8 = Z ∧ w2.heap.size ≤ O8) := by
              show _ ∧ _
              have n1 := hOUT.out; have n1 := hO8.out; have n1 := hO9.out; have n5 := HS0.out; have n6 := HTR.out; have mV86 := szV86.out; have mV85 := szV85.out; have mV63 := szV63.out
              omega
            replace HT := hidb (HT.out.skip NT10.out 0 (.slice (some ⟨OUT, 0, none⟩) N N))
            replace HZ := hidb (HZ.out.skip nn.out.1 0 (.slice (some ⟨OUT, 0, none⟩) N N))
            replace HG := hidb (HG.out.set nn.out.2 0 (.slice (some ⟨OUT, 0, none⟩) N N))
            replace A8 := hidb (At.fill1 (A8.out.has rfl) (.slice (some ⟨OUT, 0, none⟩) N N))
            clear nn NT10
            generalize V86.setCell ⟨O8, 0, none⟩ (.slice (some ⟨OUT, 0, none⟩) N N) = V90 at *
            refine hi_ready (rs := [7]) (by kernel_rfl) (by simp) ?_
            refine ReadyHI.cons rfl (fun K hK => ?_) ReadyHI.nil
            go_simp
            refine hK.out _ _ ?_ (fun hHeld => ?_)
            · (try dsimp only); exact HT.out.alloc _
            clear hK K
            have szV91 : Hid ((V90.alloc (.cells CK 63)).heap.size = V90.heap.size + 1) := by show _ = _; simp
            have AK := hidb (At.newArr V90 CK 63)
            obtain ⟨RK, hRK⟩ : ∃ z, z = V90.heap.size := ⟨_, rfl⟩
            rw [← hRK] at AK ⊢
            replace hRK := hidb hRK
            replace HT := hidb (HT.out.alloc (.cells CK 63))
            replace HZ := hidb (HZ.out.alloc (.cells CK 63))
            replace HG := hidb (HG.out.alloc (.cells CK 63))
            replace AO := hidb (AO.out.alloc (.cells CK 63))
            replace A8 := hidb (A8.out.alloc (.cells CK 63))
            replace A9 := hidb (A9.out.alloc (.cells CK 63))
            generalize V90.alloc (.cells CK 63) = V91 at *
            refine hi_ready (rs := [11]) (by kernel_rfl) (by simp) ?_
            refine ReadyHI.cons rfl (fun K hK => ?_) ReadyHI.nil
            have NT11 : Hid (¬ O9 = T) := by
              show ¬ _
              have n1 := hOUT.out; have n1 := hRK.out; have n1 := hO8.out; have n1 := hO9.out; have n5 := HS0.out; have n6 := HTR.out; have mV91 := szV91.out; have mV90 := szV90.out; have mV86 := szV86.out; have mV85 := szV85.out; have mV63 := szV63.out
              omega
            have z0 := A9.out.c1
            have y0 := A9.out.f1
            go_simp
            refine hK.out _ _ ?_ (fun hHeld => ?_)
            · (try dsimp only); exact HT.out.skip NT11.out _ _
            clear hK K
            clear z0 y0
            have szV92 : Hid ((V91.setCell ⟨O9, 0, none⟩ (.slice (some ⟨RK, 0, none⟩) N N)).heap.size = V91.heap.size) := by show _ = _; simp
            have nn : Hid (¬ O9 = OUT ∧ ¬ O9 = RK ∧ ¬ O9 = O8) := by
              show _ ∧ _ ∧ _
              have n1 := hOUT.out; have n1 := hRK.out; have n1 := hO8.out; have n1 := hO9.out; have n5 := HS0.out; have n6 := HTR.out; have mV91 := szV91.out; have mV90 := szV90.out; have mV86 := szV86.out; have mV85 := szV85.out; have mV63 := szV63.out
              refine ⟨?_, ?_, ?_⟩ <;> omega
            replace AO := hidb (AO.out.skip (nn.out.1) 0 (.slice (some ⟨RK, 0, none⟩) N N))
            replace AK := hidb (AK.out.skip (nn.out.2.1) 0 (.slice (some ⟨RK, 0, none⟩) N N))
            replace A8 := hidb (A8.out.skip (nn.out.2.2) 0 (.slice (some ⟨RK, 0, none⟩) N N))
            clear nn
            have nn : Hid (¬ O9 = Z ∧ w2.heap.size ≤ O9) := by
              show _ ∧ _
              have n1 := hOUT.out; have n1 := hRK.out; have n1 := hO8.out; have n1 := hO9.out; have n5 := HS0.out; have n6 := HTR.out; have mV91 := szV91.out; have mV90 := szV90.out; have mV86 := szV86.out; have mV85 := szV85.out; have mV63 := szV63.out
              omega
            replace HT := hidb (HT.out.skip NT11.out 0 (.slice (some ⟨RK, 0, none⟩) N N))
            replace HZ := hidb (HZ.out.skip nn.out.1 0 (.slice (some ⟨RK, 0, none⟩) N N))
            replace HG := hidb (HG.out.set nn.out.2 0 (.slice (some ⟨RK, 0, none⟩) N N))
            replace A9 := hidb (At.fill1 (A9.out.has rfl) (.slice (some ⟨RK, 0, none⟩) N N))
            clear nn NT11
            generalize V91.setCell ⟨O9, 0, none⟩ (.slice (some ⟨RK, 0, none⟩) N N) = V92 at *
            refine hi_doneN (by kernel_rfl) ?_ _
            gi_wp2_with fail
            gi_meet
            have n1 := hOUT.out; have n1 := hRK.out; have n1 := hO8.out; have n1 := hO9.out; have n5 := HS0.out; have n6 := HTR.out; have mV92 := szV92.out; have mV91 := szV91.out; have mV90 := szV90.out; have mV86 := szV86.out; have mV85 := szV85.out; have mV63 := szV63.out
            refine ⟨O8, O9, OUT, RK, rfl, rfl, hidb ⟨HZ.out, A8.out, A9.out, by rw [← iF_rep, ← HCS.out.1]; exact AO.out, ?_, ⟨?_, ?_, ?_, ?_, ?_, ?_, ?_, ?_, ?_, ?_⟩, HG.out⟩⟩
            · rw [← iF_congr (f := fun _ => 0) (g := kfn (fun _ => (0, 0))) (fun j _ => by unfold kfn; split <;> rfl), ← iF_rep, ← HCS.out.2]; exact AK.out
            all_goals omega
        · skip
          go_simp
          refine hK.out _ _ ?_ (fun hHeld => ?_)
          · (try dsimp only); exact HT.out.alloc _
          clear hK K
          have szV93 : Hid ((V85.alloc (.cells CK 63)).heap.size = V85.heap.size + 1) := by show _ = _; simp
          have AK := hidb (At.newArr V85 CK 63)
          obtain ⟨RK, hRK⟩ : ∃ z, z = V85.heap.size := ⟨_, rfl⟩
          rw [← hRK] at AK ⊢
          replace hRK := hidb hRK
          replace HT := hidb (HT.out.alloc (.cells CK 63))
          replace HZ := hidb (HZ.out.alloc (.cells CK 63))
          replace HG := hidb (HG.out.alloc (.cells CK 63))
          replace A8 := hidb (A8.out.alloc (.cells CK 63))
          replace A9 := hidb (A9.out.alloc (.cells CK 63))
          generalize V85.alloc (.cells CK 63) = V93 at *
          refine hi_ready (rs := [3]) (by kernel_rfl) (by simp) ?_
          refine ReadyHI.cons rfl (fun K hK => ?_) ReadyHI.nil
          go_simp
          refine hK.out _ _ ?_ (fun hHeld => ?_)
          · (try dsimp only); exact HT.out.alloc _
          clear hK K
          have szV94 : Hid ((V93.alloc (.cells CI 3)).heap.size = V93.heap.size + 1) := by show _ = _; simp
          have AO := hidb (At.newArr V93 CI 3)
          obtain ⟨OUT, hOUT⟩ : ∃ z, z = V93.heap.size := ⟨_, rfl⟩
          rw [← hOUT] at AO ⊢
          replace hOUT := hidb hOUT
          replace HT := hidb (HT.out.alloc (.cells CI 3))
          replace HZ := hidb (HZ.out.alloc (.cells CI 3))
          replace HG := hidb (HG.out.alloc (.cells CI 3))
          replace AK := hidb (AK.out.alloc (.cells CI 3))
          replace A8 := hidb (A8.out.alloc (.cells CI 3))
          replace A9 := hidb (A9.out.alloc (.cells CI 3))
          generalize V93.alloc (.cells CI 3) = V94 at *
          refine hi_ready (rs := [10]) (by kernel_rfl) (by simp) ?_
          refine ReadyHI.cons rfl (fun K hK => ?_) ReadyHI.nil
          have NT10 : Hid (¬ O8 = T) := by
            show ¬ _
            have n1 := hOUT.out; have n1 := hRK.out; have n1 := hO8.out; have n1 := hO9.out; have n5 := HS0.out; have n6 := HTR.out; have mV94 := szV94.out; have mV93 := szV93.out; have mV85 := szV85.out; have mV63 := szV63.out
            omega
          have z0 := A8.out.c1
          have y0 := A8.out.f1
          go_simp
          refine hK.out _ _ ?_ (fun hHeld => ?_)
          · (try dsimp only); exact HT.out.skip NT10.out _ _
          clear hK K
          clear z0 y0
          have szV95 : Hid ((V94.setCell ⟨O8, 0, none⟩ (.slice (some ⟨OUT, 0, none⟩) N N)).heap.size = V94.heap.size) := by show _ = _; simp
          have nn : Hid (¬ O8 = OUT ∧ ¬ O8 = RK ∧ ¬ O8 = O9) := by
            show _ ∧ _ ∧ _
            have n1 := hOUT.out; have n1 := hRK.out; have n1 := hO8.out; have n1 := hO9.out; have n5 := HS0.out; have n6 := HTR.out; have mV94 := szV94.out; have mV93 := szV93.out; have mV85 := szV85.out; have mV63 := szV63.out
            refine ⟨?_, ?_, ?_⟩ <;> omega
          replace AO := hidb (AO.out.skip (nn.out.1) 0 (.slice (some ⟨OUT, 0, none⟩) N N))
          replace AK := hidb (AK.out.skip (nn.out.2.1) 0 (.slice (some ⟨OUT, 0, none⟩) N N))
          replace A9 := hidb (A9.out.skip (nn.out.2.2) 0 (.slice (some ⟨OUT, 0, none⟩) N N))
          clear nn
          have nn : Hid (¬ O8 = Z ∧ w2.heap.size ≤ O8) := by
            show _ ∧ _
            have n1 := hOUT.out; have n1 := hRK.out; have n1 := hO8.out; have n1 := hO9.out; have n5 := HS0.out; have n6 := HTR.out; have mV94 := szV94.out; have mV93 := szV93.out; have mV85 := szV85.out; have mV63 := szV63.out
            omega
          replace HT := hidb (HT.out.skip NT10.out 0 (.slice (some ⟨OUT, 0, none⟩) N N))
          replace HZ := hidb (HZ.out.skip nn.out.1 0 (.slice (some ⟨OUT, 0, none⟩) N N))
          replace HG := hidb (HG.out.set nn.out.2 0 (.slice (some ⟨OUT, 0, none⟩) N N))
          replace A8 := hidb (At.fill1 (A8.out.has rfl) (.slice (some ⟨OUT, 0, none⟩) N N))
          clear nn NT10
          generalize V94.setCell ⟨O8, 0, none⟩ (.slice (some ⟨OUT, 0, none⟩) N N) = V95 at *
          refine hi_ready (rs := [11]) (by kernel_rfl) (by simp) ?_
          refine ReadyHI.cons rfl (fun K hK => ?_) ReadyHI.nil
          have NT11 : Hid (¬ O9 = T) := by
            show ¬ _
            have n1 := hOUT.out; have n1 := hRK.out; have n1 := hO8.out; have n1 := hO9.out; have n5 := HS0.out; have n6 := HTR.out; have mV95 := szV95.out; have mV94 := szV94.out; have mV93 := szV93.out; have mV85 := szV85.out; have mV63 := szV63.out
            omega
          have z0 := A9.out.c1
          have y0 := A9.out.f1
          go_simp
          refine hK.out _ _ ?_ (fun hHeld => ?_)
          · (try dsimp only); exact HT.out.skip NT11.out _ _
          clear hK K
          clear z0 y0
          have szV96 : Hid ((V95.setCell ⟨O9, 0, none⟩ (.slice (some ⟨RK, 0, none⟩) N N)).heap.size = V95.heap.size) := by show _ = _; simp
          have nn : Hid (¬ O9 = OUT ∧ ¬ O9 = RK ∧ ¬ O9 = O8) := by
            show _ ∧ _ ∧ _
            have n1 := hOUT.out; have n1 := hRK.out; have n1 := hO8.out; have n1 := hO9.out; have n5 := HS0.out; have n6 := HTR.out; have mV95 := szV95.out; have mV94 := szV94.out; have mV93 := szV93.out; have mV85 := szV85.out; have mV63 := szV63.out
            refine ⟨?_, ?_, ?_⟩ <;> omega
          replace AO := hidb (AO.out.skip (nn.out.1) 0 (.slice (some ⟨RK, 0, none⟩) N N))
          replace AK := hidb (AK.out.skip (nn.out.2.1) 0 (.slice (some ⟨RK, 0, none⟩) N N))
          replace A8 := hidb (A8.out.skip (nn.out.2.2) 0 (.slice (some ⟨RK, 0, none⟩) N N))
          clear nn
          have nn : Hid (¬ O9 = Z ∧ w2.heap.size ≤ O9) := by
            show _ ∧ _
            have n1 := hOUT.out; have n1 := hRK.out; have n1 := hO8.out; have n1 := hO9.out; have n5 := HS0.out; have n6 := HTR.out; have mV95 := szV95.out; have mV94 := szV94.out; have mV93 := szV93.out; have mV85 := szV85.out; have mV63 := szV63.out
            omega
          replace HT := hidb (HT.out.skip NT11.out 0 (.slice (some ⟨RK, 0, none⟩) N N))
          replace HZ := hidb (HZ.out.skip nn.out.1 0 (.slice (some ⟨RK, 0, none⟩) N N))
          replace HG := hidb (HG.out.set nn.out.2 0 (.slice (some ⟨RK, 0, none⟩) N N))
          replace A9 := hidb (At.fill1 (A9.out.has rfl) (.slice (some ⟨RK, 0, none⟩) N N))
          clear nn NT11
          generalize V95.setCell ⟨O9, 0, none⟩ (.slice (some ⟨RK, 0, none⟩) N N) = V96 at *
          refine hi_doneN (by kernel_rfl) ?_ _
          gi_wp2_with fail
          gi_meet
          have n1 := hOUT.out; have n1 := hRK.out; have n1 := hO8.out; have n1 := hO9.out; have n5 := HS0.out; have n6 := HTR.out; have mV96 := szV96.out; have mV95 := szV95.out; have mV94 := szV94.out; have mV93 := szV93.out; have mV85 := szV85.out; have mV63 := szV63.out
          refine ⟨O8, O9, OUT, RK, rfl, rfl, hidb ⟨HZ.out, A8.out, A9.out, by rw [← iF_rep, ← HCS.out.1]; exact AO.out, ?_, ⟨?_, ?_, ?_, ?_, ?_, ?_, ?_, ?_, ?_, ?_⟩, HG.out⟩⟩
          · rw [← iF_congr (f := fun _ => 0) (g := kfn (fun _ => (0, 0))) (fun j _ => by unfold kfn; split <;> rfl), ← iF_rep, ← HCS.out.2]; exact AK.out
          all_goals omega
    · skip
      go_simp
      refine hK.out _ _ ?_ (fun hHeld => ?_)
      · (try dsimp only); exact HT.out.alloc _
      clear hK K
      have szV97 : Hid ((V0.alloc (.cells #[.slice none 0 0] 54)).heap.size = V0.heap.size + 1) := by show _ = _; simp
      have A9 := hidb (At.new1 V0 (.slice none 0 0) 54)
      obtain ⟨O9, hO9⟩ : ∃ z, z = V0.heap.size := ⟨_, rfl⟩
      rw [← hO9] at A9 ⊢
      replace hO9 := hidb hO9
      replace HT := hidb (HT.out.alloc (.cells #[.slice none 0 0] 54))
      replace HZ := hidb (HZ.out.alloc (.cells #[.slice none 0 0] 54))
      replace HG := hidb (HG.out.alloc (.cells #[.slice none 0 0] 54))
      generalize V0.alloc (.cells #[.slice none 0 0] 54) = V97 at *
      refine hi_ready (rs := [3, 7, 8]) (by kernel_rfl) (by simp) ?_
      refine ReadyHI.cons rfl (fun K hK => ?_) (ReadyHI.cons rfl (fun K hK => ?_) (ReadyHI.cons rfl (fun K hK => ?_) ReadyHI.nil))
      · skip
        go_simp
        refine hK.out _ _ ?_ (fun hHeld => ?_)
        · (try dsimp only); exact HT.out.alloc _
        clear hK K
        have szV98 : Hid ((V97.alloc (.cells CI 3)).heap.size = V97.heap.size + 1) := by show _ = _; simp
        have AO := hidb (At.newArr V97 CI 3)
        obtain ⟨OUT, hOUT⟩ : ∃ z, z = V97.heap.size := ⟨_, rfl⟩
        rw [← hOUT] at AO ⊢
        replace hOUT := hidb hOUT
        replace HT := hidb (HT.out.alloc (.cells CI 3))
        replace HZ := hidb (HZ.out.alloc (.cells CI 3))
        replace HG := hidb (HG.out.alloc (.cells CI 3))
        replace A9 := hidb (A9.out.alloc (.cells CI 3))
        generalize V97.alloc (.cells CI 3) = V98 at *
        refine hi_ready (rs := [7, 8]) (by kernel_rfl) (by simp) ?_
        refine ReadyHI.cons rfl (fun K hK => ?_) (ReadyHI.cons rfl (fun K hK => ?_) ReadyHI.nil)
        · skip
          go_simp
          refine hK.out _ _ ?_ (fun hHeld => ?_)
          · (try dsimp only); exact HT.out.alloc _
          clear hK K
          have szV99 : Hid ((V98.alloc (.cells CK 63)).heap.size = V98.heap.size + 1) := by show _ = _; simp
          have AK := hidb (At.newArr V98 CK 63)
          obtain ⟨RK, hRK⟩ : ∃ z, z = V98.heap.size := ⟨_, rfl⟩
          rw [← hRK] at AK ⊢
          replace hRK := hidb hRK
          replace HT := hidb (HT.out.alloc (.cells CK 63))
          replace HZ := hidb (HZ.out.alloc (.cells CK 63))
          replace HG := hidb (HG.out.alloc (.cells CK 63))
          replace AO := hidb (AO.out.alloc (.cells CK 63))
          replace A9 := hidb (A9.out.alloc (.cells CK 63))
          generalize V98.alloc (.cells CK 63) = V99 at *
          refine hi_ready (rs := [8]) (by kernel_rfl) (by simp) ?_
          refine ReadyHI.cons rfl (fun K hK => ?_) ReadyHI.nil
          go_simp
          refine hK.out _ _ ?_ (fun hHeld => ?_)
          · (try dsimp only); exact HT.out.alloc _
          clear hK K
          have szV100 : Hid ((V99.alloc (.cells #[.slice none 0 0] 30)).heap.size = V99.heap.size + 1) := by show _ = _; simp
          have A8 := hidb (At.new1 V99 (.slice none 0 0) 30)
          obtain ⟨O8, hO8⟩ : ∃ z, z = V99.heap.size := ⟨_, rfl⟩
          rw [← hO8] at A8 ⊢
          replace hO8 := hidb hO8
          replace HT := hidb (HT.out.alloc (.cells #[.slice none 0 0] 30))
          replace HZ := hidb (HZ.out.alloc (.cells #[.slice none 0 0] 30))
          replace HG := hidb (HG.out.alloc (.cells #[.slice none 0 0] 30))
          replace AO := hidb (AO.out.alloc (.cells #[.slice none 0 0] 30))
          replace AK := hidb (AK.out.alloc (.cells #[.slice none 0 0] 30))
          replace A9 := hidb (A9.out.alloc (.cells #[.slice none 0 0] 30))
          generalize V99.alloc (.cells #[.slice none 0 0] 30) = V100 at *
          refine hi_ready (rs := [10]) (by kernel_rfl) (by simp) ?_
          refine ReadyHI.cons rfl (fun K hK => ?_) ReadyHI.nil
          have NT10 : Hid (¬ O8 = T) := by
            show ¬ _
            have n1 := hOUT.out; have n1 := hRK.out; have n1 := hO8.out; have n1 := hO9.out; have n5 := HS0.out; have n6 := HTR.out; have mV100 := szV100.out; have mV99 := szV99.out; have mV98 := szV98.out; have mV97 := szV97.out
            omega
          have z0 := A8.out.c1
          have y0 := A8.out.f1
          go_simp
          refine hK.out _ _ ?_ (fun hHeld => ?_)
          · (try dsimp only); exact HT.out.skip NT10.out _ _
          clear hK K
          clear z0 y0
          have szV101 : Hid ((V100.setCell ⟨O8, 0, none⟩ (.slice (some ⟨OUT, 0, none⟩) N N)).heap.size = V100.heap.size) := by show _ = _; simp
          have nn : Hid (¬ O8 = OUT ∧ ¬ O8 = RK ∧ ¬ O8 = O9) := by
            show _ ∧ _ ∧ _
            have n1 := hOUT.out; have n1 := hRK.out; have n1 := hO8.out; have n1 := hO9.out; have n5 := HS0.out; have n6 := HTR.out; have mV100 := szV100.out; have mV99 := szV99.out; have mV98 := szV98.out; have mV97 := szV97.out
            refine ⟨?_, ?_, ?_⟩ <;> omega
          replace AO := hidb (AO.out.skip (nn.out.1) 0 (.slice (some ⟨OUT, 0, none⟩) N N))
          replace AK := hidb (AK.out.skip (nn.out.2.1) 0 (.slice (some ⟨OUT, 0, none⟩) N N))
          replace A9 := hidb (A9.out.skip (nn.out.2.2) 0 (.slice (some ⟨OUT, 0, none⟩) N N))
          clear nn
          have nn : Hid (¬ O8 = Z ∧ w2.heap.size ≤ O8) := by
            show _ ∧ _
            have n1 := hOUT.out; have n1 := hRK.out; have n1 := hO8.out; have n1 := hO9.out; have n5 := HS0.out; have n6 := HTR.out; have mV100 := szV100.out; have mV99 := szV99.out; have mV98 := szV98.out; have mV97 := szV97.out
            omega
          replace HT := hidb (HT.out.skip NT10.out 0 (.slice (some ⟨OUT, 0, none⟩) N N))
          replace HZ := hidb (HZ.out.skip nn.out.1 0 (.slice (some ⟨OUT, 0, none⟩) N N))
          replace HG := hidb (HG.out.set nn.out.2 0 (.slice (some ⟨OUT, 0, none⟩) N N))
          replace A8 := hidb (At.fill1 (A8.out.has rfl) (.slice (some ⟨OUT, 0, none⟩) N N))
          clear nn NT10
          generalize V100.setCell ⟨O8, 0, none⟩ (.slice (some ⟨OUT, 0, none⟩) N N) = V101 at *
          refine hi_ready (rs := [11]) (by kernel_rfl) (by simp) ?_
          refine ReadyHI.cons rfl (fun K hK => ?_) ReadyHI.nil
          have NT11 : Hid (¬ O9 = T) := by
            show ¬ _
            have n1 := hOUT.out; have n1 := hRK.out; have n1 := hO8.out; have n1 := hO9.out; have n5 := HS0.out; have n6 := HTR.out; have mV101 := szV101.out; have mV100 := szV100.out; have mV99 := szV99.out; have mV98 := szV98.out; have mV97 := szV97.out
            omega
          have z0 := A9.out.c1
          have y0 := A9.out.f1
          go_simp
          refine hK.out _ _ ?_ (fun hHeld => ?_)
          · (try dsimp only); exact HT.out.skip NT11.out _ _
          clear hK K
          clear z0 y0
          have szV102 : Hid ((V101.setCell ⟨O9, 0, none⟩ (.slice (some ⟨RK, 0, none⟩) N N)).heap.size = V101.heap.size) := by show _ = _; simp
          have nn : Hid (¬ O9 = OUT ∧ ¬ O9 = RK ∧ ¬ O9 = O8) := by
            show _ ∧ _ ∧ _
            have n1 := hOUT.out; have n1 := hRK.out; have n1 := hO8.out; have n1 := hO9.out; have n5 := HS0.out; have n6 := HTR.out; have mV101 := szV101.out; have mV100 := szV100.out; have mV99 := szV99.out; have mV98 := szV98.out; have mV97 := szV97.out
            refine ⟨?_, ?_, ?_⟩ <;> omega
          replace AO := hidb (AO.out.skip (nn.out.1) 0 (.slice (some ⟨RK, 0, none⟩) N N))
          replace AK := hidb (AK.out.skip (nn.out.2.1) 0 (.slice (some ⟨RK, 0, none⟩) N N))
          replace A8 := hidb (A8.out.skip (nn.out.2.2) 0 (.slice (some ⟨RK, 0, none⟩) N N))
          clear nn
          have nn : Hid (¬ O9 = Z ∧ w2.heap.size ≤ O9) := by
            show _ ∧ _
            have n1 := hOUT.out; have n1 := hRK.out; have n1 := hO8.out; have n1 := hO9.out; have n5 := HS0.out; have n6 := HTR.out; have mV101 := szV101.out; have mV100 := szV100.out; have mV99 := szV99.out; have mV98 := szV98.out; have mV97 := szV97.out
            omega
          replace HT := hidb (HT.out.skip NT11.out 0 (.slice (some ⟨RK, 0, none⟩) N N))
          replace HZ := hidb (HZ.out.skip nn.out.1 0 (.slice (some ⟨RK, 0, none⟩) N N))
          replace HG := hidb (HG.out.set nn.out.2 0 (.slice (some ⟨RK, 0, none⟩) N N))
          replace A9 := hidb (At.fill1 (A9.out.has rfl) (.slice (some ⟨RK, 0, none⟩) N N))
          clear nn NT11
          generalize V101.setCell ⟨O9, 0, none⟩ (.slice (some ⟨RK, 0, none⟩) N N) = V102 at *
          refine hi_doneN (by kernel_rfl) ?_ _
          gi_wp2_with fail
          gi_meet
          have n1 := hOUT.out; have n1 := hRK.out; have n1 := hO8.out; have n1 := hO9.out; have n5 := HS0.out; have n6 := HTR.out; have mV102 := szV102.out; have mV101 := szV101.out; have mV100 := szV100.out; have mV99 := szV99.out; have mV98 := szV98.out; have mV97 := szV97.out
          refine ⟨O8, O9, OUT, RK, rfl, rfl, hidb ⟨HZ.out, A8.out, A9.out, by rw [← iF_rep, ← HCS.out.1]; exact AO.out, ?_, ⟨?_, ?_, ?_, ?_, ?_, ?_, ?_, ?_, ?_, ?_⟩, HG.out⟩⟩
          · rw [← iF_congr (f := fun _ => 0) (g := kfn (fun _ => (0, 0))) (fun j _ => by unfold kfn; split <;> rfl), ← iF_rep, ← HCS.out.2]; exact AK.out
          all_goals omega
        · skip
          go_simp
          refine hK.out _ _ ?_ (fun hHeld => ?_)
          · (try dsimp only); exact HT.out.alloc _
          clear hK K
          have szV103 : Hid ((V98.alloc (.cells #[.slice none 0 0] 30)).heap.size = V98.heap.size + 1) := by show _ = _; simp
          have A8 := hidb (At.new1 V98 (.slice none 0 0) 30)
          obtain ⟨O8, hO8⟩ : ∃ z, z = V98.heap.size := ⟨_, rfl⟩
          rw [← hO8] at A8 ⊢
          replace hO8 := hidb hO8
          replace HT := hidb (HT.out.alloc (.cells #[.slice none 0 0] 30))
          replace HZ := hidb (HZ.out.alloc (.cells #[.slice none 0 0] 30))
          replace HG := hidb (HG.out.alloc (.cells #[.slice none 0 0] 30))
          replace AO := hidb (AO.out.alloc (.cells #[.slice none 0 0] 30))
          replace A9 := hidb (A9.out.alloc (.cells #[.slice none 0 0] 30))
          generalize V98.alloc (.cells #[.slice none 0 0] 30) = V103 at *
          refine hi_ready (rs := [7, 10]) (by kernel_rfl) (by simp) ?_
          refine ReadyHI.cons rfl (fun K hK => ?_) (ReadyHI.cons rfl (fun K hK => ?_) ReadyHI.nil)
          · skip
            go_simp
            refine hK.out _ _ ?_ (fun hHeld => ?_)
            · (try dsimp only); exact HT.out.alloc _
            clear hK K
            have szV104 : Hid ((V103.alloc (.cells CK 63)).heap.size = V103.heap.size + 1) := by show _ = _; simp
            have AK := hidb (At.newArr V103 CK 63)
            obtain ⟨RK, hRK⟩ : ∃ z, z = V103.heap.size := ⟨_, rfl⟩
            rw [← hRK] at AK ⊢
            replace hRK := hidb hRK
            replace HT := hidb (HT.out.alloc (.cells CK 63))
            replace HZ := hidb (HZ.out.alloc (.cells CK 63))
            replace HG := hidb (HG.out.alloc (.cells CK 63))
            replace AO := hidb (AO.out.alloc (.cells CK 63))
            replace A8 := hidb (A8.out.alloc (.cells CK 63))
            replace A9 := hidb (A9.out.alloc (.cells CK 63))
            generalize V103.alloc (.cells CK 63) = V104 at *
            refine hi_ready (rs := [10]) (by kernel_rfl) (by simp) ?_
            refine ReadyHI.cons rfl (fun K hK => ?_) ReadyHI.nil
            have NT10 : Hid (¬ O8 = T) := by
              show ¬ _
              have n1 := hOUT.out; have n1 := hRK.out; have n1 := hO8.out; have n1 := hO9.out; have n5 := HS0.out; have n6 := HTR.out; have mV104 := szV104.out; have mV103 := szV103.out; have mV98 := szV98.out; have mV97 := szV97.out
              omega
            have z0 := A8.out.c1
            have y0 := A8.out.f1
            go_simp
            refine hK.out _ _ ?_ (fun hHeld => ?_)
            · (try dsimp only); exact HT.out.skip NT10.out _ _
            clear hK K
            clear z0 y0
            have szV105 : Hid ((V104.setCell ⟨O8, 0, none⟩ (.slice (some ⟨OUT, 0, none⟩) N N)).heap.size = V104.heap.size) := by show _ = _; simp
            have nn : Hid (¬ O8 = OUT ∧ ¬ O8 = RK ∧ ¬ O8 = O9) := by
              show _ ∧ _ ∧ _
              have n1 := hOUT.out; have n1 := hRK.out; have n1 := hO8.out; have n1 := hO9.out; have n5 := HS0.out; have n6 := HTR.out; have mV104 := szV104.out; have mV103 := szV103.out; have mV98 := szV98.out; have mV97 := szV97.out
              refine ⟨?_, ?_, ?_⟩ <;> omega
            replace AO := hidb (AO.out.skip (nn.out.1) 0 (.slice (some ⟨OUT, 0, none⟩) N N))
            replace AK := hidb (AK.out.skip (nn.out.2.1) 0 (.slice (some ⟨OUT, 0, none⟩) N N))
            replace A9 := hidb (A9.out.skip (nn.out.2.2) 0 (.slice (some ⟨OUT, 0, none⟩) N N))
            clear nn
            have nn : Hid (¬ O8 = Z ∧ w2.heap.size ≤ O8) := by
              show _ ∧ _
              have n1 := hOUT.out; have n1 := hRK.out; have n1 := hO8.out; have n1 := hO9.out; have n5 := HS0.out; have n6 := HTR.out; have mV104 := szV104.out; have mV103 := szV103.out; have mV98 := szV98.out; have mV97 := szV97.out
              omega
            replace HT := hidb (HT.out.skip NT10.out 0 (.slice (some ⟨OUT, 0, none⟩) N N))
            replace HZ := hidb (HZ.out.skip nn.out.1 0 (.slice (some ⟨OUT, 0, none⟩) N N))
            replace HG := hidb (HG.out.set nn.out.2 0 (.slice (some ⟨OUT, 0, none⟩) N N))
            replace A8 := hidb (At.fill1 (A8.out.has rfl) (.slice (some ⟨OUT, 0, none⟩) N N))
            clear nn NT10
            generalize V104.setCell ⟨O8, 0, none⟩ (.slice (some ⟨OUT, 0, none⟩) N N) = V105 at *
            refine hi_ready (rs := [11]) (by kernel_rfl) (by simp) ?_
            refine ReadyHI.cons rfl (fun K hK => ?_) ReadyHI.nil
            have NT11 : Hid (¬ O9 = T) := by
              show ¬ _
              have n1 := hOUT.out; have n1 := hRK.out; have n1 := hO8.out; have n1 := hO9.out; have n5 := HS0.out; have n6 := HTR.out; have mV105 := szV105.out; have mV104 := szV104.out; have mV103 := szV103.out; have mV98 := szV98.out; have mV97 := szV97.out
              omega
            have z0 := A9.out.c1
            have y0 := A9.out.f1
            go_simp
            refine hK.out _ _ ?_ (fun hHeld => ?_)
            · (try dsimp only); exact HT.out.skip NT11.out _ _
            clear hK K
            clear z0 y0
            have szV106 : Hid ((V105.setCell ⟨O9, 0, none⟩ (.slice (some ⟨RK, 0, none⟩) N N)).heap.size = V105.heap.size) := by show _ = _; simp
            have nn : Hid (¬ O9 = OUT ∧ ¬ O9 = RK ∧ ¬ O9 = O8) := by
              show _ ∧ _ ∧ _
              have n1 := hOUT.out; have n1 := hRK.out; have n1 := hO8.out; have n1 := hO9.out; have n5 := HS0.out; have n6 := HTR.out; have mV105 := szV105.out; have mV104 := szV104.out; have mV103 := szV103.out; have mV98 := szV98.out; have mV97 := szV97.out
              refine ⟨?_, ?_, ?_⟩ <;> omega
            replace AO := hidb (AO.out.skip (nn.out.1) 0 (.slice (some ⟨RK, 0, none⟩) N N))
            replace AK := hidb (AK.out.skip (nn.out.2.1) 0 (.slice (some ⟨RK, 0, none⟩) N N))
            replace A8 := hidb (A8.out.skip (nn.out.2.2) 0 (.slice (some ⟨RK, 0, none⟩) N N))
            clear nn
            have nn : Hid (¬ O9 = Z ∧ w2.heap.size ≤ O9) := by
              show _ ∧ _
              have n1 := hOUT.out; have n1 := hRK.out; have n1 := hO8.out; have n1 := hO9.out; have n5 := HS0.out; have n6 := HTR.out; have mV105 := szV105.out; have mV104 := szV104.out; have mV103 := szV103.out; have mV98 := szV98.out; have mV97 := szV97.out
              omega
            replace HT := hidb (HT.out.skip NT11.out 0 (.slice (some ⟨RK, 0, none⟩) N N))
            replace HZ := hidb (HZ.out.skip nn.out.1 0 (.slice (some ⟨RK, 0, none⟩) N N))
            replace HG := hidb (HG.out.set nn.out.2 0 (.slice (some ⟨RK, 0, none⟩) N N))
            replace A9 := hidb (At.fill1 (A9.out.has rfl) (.slice (some ⟨RK, 0, none⟩) N N))
            clear nn NT11
            generalize V105.setCell ⟨O9, 0, none⟩ (.slice (some ⟨RK, 0, none⟩) N N) = V106 at *
            refine hi_doneN (by kernel_rfl) ?_ _
            gi_wp2_with fail
            gi_meet
            have n1 := hOUT.out; have n1 := hRK.out; have n1 := hO8.out; have n1 := hO9.out; have n5 := HS0.out; have n6 := HTR.out; have mV106 := szV106.out; have mV105 := szV105.out; have mV104 := szV104.out; have mV103 := szV103.out; have mV98 := szV98.out; have mV97 := szV97.out
            refine ⟨O8, O9, OUT, RK, rfl, rfl, hidb ⟨HZ.out, A8.out, A9.out, by rw [← iF_rep, ← HCS.out.1]; exact AO.out, ?_, ⟨?_, ?_, ?_, ?_, ?_, ?_, ?_, ?_, ?_, ?_⟩, HG.out⟩⟩
            · rw [← iF_congr (f := fun _ => 0) (g := kfn (fun _ => (0, 0))) (fun j _ => by unfold kfn; split <;> rfl), ← iF_rep, ← HCS.out.2]; exact AK.out
            all_goals omega
          · skip
            have NT10 : Hid (¬ O8 = T) := by
              show ¬ _
              have n1 := hOUT.out; have n1 := hO8.out; have n1 := hO9.out; have n5 := HS0.out; have n6 := HTR.out; have mV103 := szV103.out; have mV98 := szV98.out; have mV97 := szV97.out
              omega
            have z0 := A8.out.c1
            have y0 := A8.out.f1
            go_simp
            refine hK.out _ _ ?_ (fun hHeld => ?_)
            · (try dsimp only); exact HT.out.skip NT10.out _ _
            clear hK K
            clear z0 y0
            have szV107 : Hid ((V103.setCell ⟨O8, 0, none⟩ (.slice (some ⟨OUT, 0, none⟩) N N)).heap.size = V103.heap.size) := by show _ = _; simp
            have nn : Hid (¬ O8 = OUT ∧ ¬ O8 = O9) := by
              show _ ∧ _
              have n1 := hOUT.out; have n1 := hO8.out; have n1 := hO9.out; have n5 := HS0.out; have n6 := HTR.out; have mV103 := szV103.out; have mV98 := szV98.out; have mV97 := szV97.out
              refine ⟨?_, ?_⟩ <;> omega
            replace AO := hidb (AO.out.skip (nn.out.1) 0 (.slice (some ⟨OUT, 0, none⟩) N N))
            replace A9 := hidb (A9.out.skip (nn.out.2) 0 (.slice (some ⟨OUT, 0, none⟩) N N))
            clear nn
            have nn : Hid (¬ O8 = Z ∧ w2.heap.size ≤ O8) := by
              show _ ∧ _
              have n1 := hOUT.out; have n1 := hO8.out; have n1 := hO9.out; have n5 := HS0.out; have n6 := HTR.out; have mV103 := szV103.out; have mV98 := szV98.out; have mV97 := szV97.out
              omega
            replace HT := hidb (HT.out.skip NT10.out 0 (.slice (some ⟨OUT, 0, none⟩) N N))
            replace HZ := hidb (HZ.out.skip nn.out.1 0 (.slice (some ⟨OUT, 0, none⟩) N N))
            replace HG := hidb (HG.out.set nn.out.2 0 (.slice (some ⟨OUT, 0, none⟩) N N))
            replace A8 := hidb (At.fill1 (A8.out.has rfl) (.slice (some ⟨OUT, 0, none⟩) N N))
            clear nn NT10
            generalize V103.setCell ⟨O8, 0, none⟩ (.slice (some ⟨OUT, 0, none⟩) N N) = V107 at *
            refine hi_ready (rs := [7]) (by kernel_rfl) (by simp) ?_
            refine ReadyHI.cons rfl (fun K hK => ?_) ReadyHI.nil
            go_simp
            refine hK.out _ _ ?_ (fun hHeld => ?_)
            · (try dsimp only); exact HT.out.alloc _
            clear hK K
            have szV108 : Hid ((V107.alloc (.cells CK 63)).heap.size = V107.heap.size + 1) := by show _ = _; simp
            have AK := hidb (At.newArr V107 CK 63)
            obtain ⟨RK, hRK⟩ : ∃ z, z = V107.heap.size := ⟨_, rfl⟩
            rw [← hRK] at AK ⊢
            replace hRK := hidb hRK
            replace HT := hidb (HT.out.alloc (.cells CK 63))
            replace HZ := hidb (HZ.out.alloc (.cells CK 63))
            replace HG := hidb (HG.out.alloc (.cells CK 63))
            replace AO := hidb (AO.out.alloc (.cells CK 63))
            replace A8 := hidb (A8.out.alloc (.cells CK 63))
            replace A9 := hidb (A9.out.alloc (.cells CK 63))
            generalize V107.alloc (.cells CK 63) = V108 at *
            refine hi_ready (rs := [11]) (by kernel_rfl) (by simp) ?_
            refine ReadyHI.cons rfl (fun K hK => ?_) ReadyHI.nil
            have NT11 : Hid (¬ O9 = T) := by
              show ¬ _
              have n1 := hOUT.out; have n1 := hRK.out; have n1 := hO8.out; have n1 := hO9.out; have n5 := HS0.out; have n6 := HTR.out; have mV108 := szV108.out; have mV107 := szV107.out; have mV103 := szV103.out; have mV98 := szV98.out; have mV97 := szV97.out
              omega
            have z0 := A9.out.c1
            have y0 := A9.out.f1
            go_simp
            refine hK.out _ _ ?_ (fun hHeld => ?_)
            · (try dsimp only); exact HT.out.skip NT11.out _ _
            clear hK K
            clear z0 y0
            have szV109 : Hid ((V108.setCell ⟨O9, 0, none⟩ (.slice (some ⟨RK, 0, none⟩) N N)).heap.size = V108.heap.size) := by show _ = _; simp
            have nn : Hid (¬ O9 = OUT ∧ ¬ O9 = RK ∧ ¬ O9 = O8) := by
              show _ ∧ _ ∧ _
              have n1 := hOUT.out; have n1 := hRK.out; have n1 := hO8.out; have n1 := hO9.out; have n5 := HS0.out; have n6 := HTR.out; have mV108 := szV108.out; have mV107 := szV107.out; have mV103 := szV103.out; have mV98 := szV98.out; have mV97 := szV97.out
              refine ⟨?_, ?_, ?_⟩ <;> omega
            replace AO := hidb (AO.out.skip (nn.out.1) 0 (.slice (some ⟨RK, 0, none⟩) N N))
            replace AK := hidb (AK.out.skip (nn.out.2.1) 0 (.slice (some ⟨RK, 0, none⟩) N N))
            replace A8 := hidb (A8.out.skip (nn.out.2.2) 0 (.slice (some ⟨RK, 0, none⟩) N N))
            clear nn
            have nn : Hid (¬ O9 = Z ∧ w2.heap.size ≤ O9) := by
              show _ ∧ _
              have n1 := hOUT.out; have n1 := hRK.out; have n1 := hO8.out; have n1 := hO9.out; have n5 := HS0.out; have n6 := HTR.out; have mV108 := szV108.out; have mV107 := szV107.out; have mV103 := szV103.out; have mV98 := szV98.out; have mV97 := szV97.out
              omega
            replace HT := hidb (HT.out.skip NT11.out 0 (.slice (some ⟨RK, 0, none⟩) N N))
            replace HZ := hidb (HZ.out.skip nn.out.1 0 (.slice (some ⟨RK, 0, none⟩) N N))
            replace HG := hidb (HG.out.set nn.out.2 0 (.slice (some ⟨RK, 0, none⟩) N N))
            replace A9 := hidb (At.fill1 (A9.out.has rfl) (.slice (some ⟨RK, 0, none⟩) N N))
            clear nn NT11
            generalize V108.setCell ⟨O9, 0, none⟩ (.slice (some ⟨RK, 0, none⟩) N N) = V109 at *
            refine hi_doneN (by kernel_rfl) ?_ _
            gi_wp2_with fail
            gi_meet
            have n1 := hOUT.out; have n1 := hRK.out; have n1 := hO8.out; have n1 := hO9.out; have n5 := HS0.out; have n6 := HTR.out; have mV109 := szV109.out; have mV108 := szV108.out; have mV107 := szV107.out; have mV103 := szV103.out; have mV98 := szV98.out; have mV97 := szV97.out
            refine ⟨O8, O9, OUT, RK, rfl, rfl, hidb ⟨HZ.out, A8.out, A9.out, by rw [← iF_rep, ← HCS.out.1]; exact AO.out, ?_, ⟨?_, ?_, ?_, ?_, ?_, ?_, ?_, ?_, ?_, ?_⟩, HG.out⟩⟩
            · rw [← iF_congr (f := fun _ => 0) (g := kfn (fun _ => (0, 0))) (fun j _ => by unfold kfn; split <;> rfl), ← iF_rep, ← HCS.out.2]; exact AK.out
            all_goals omega
      · skip
        go_simp
        refine hK.out _ _ ?_ (fun hHeld => ?_)
        · (try dsimp only); exact HT.out.alloc _
        clear hK K
        have szV110 : Hid ((V97.alloc (.cells CK 63)).heap.size = V97.heap.size + 1) := by show _ = _; simp
        have AK := hidb (At.newArr V97 CK 63)
        obtain ⟨RK, hRK⟩ : ∃ z, z = V97.heap.size := ⟨_, rfl⟩
        rw [← hRK] at AK ⊢
        replace hRK := hidb hRK
        replace HT := hidb (HT.out.alloc (.cells CK 63))
        replace HZ := hidb (HZ.out.alloc (.cells CK 63))
        replace HG := hidb (HG.out.alloc (.cells CK 63))
        replace A9 := hidb (A9.out.alloc (.cells CK 63))
        generalize V97.alloc (.cells CK 63) = V110 at *
        refine hi_ready (rs := [3, 8]) (by kernel_rfl) (by simp) ?_
        refine ReadyHI.cons rfl (fun K hK => ?_) (ReadyHI.cons rfl (fun K hK => ?_) ReadyHI.nil)
        · skip
          go_simp
          refine hK.out _ _ ?_ (fun hHeld => ?_)
          · (try dsimp only); exact HT.out.alloc _
          clear hK K
          have szV111 : Hid ((V110.alloc (.cells CI 3)).heap.size = V110.heap.size + 1) := by show _ = _; simp
          have AO := hidb (At.newArr V110 CI 3)
          obtain ⟨OUT, hOUT⟩ : ∃ z, z = V110.heap.size := ⟨_, rfl⟩
          rw [← hOUT] at AO ⊢
          replace hOUT := hidb hOUT
          replace HT := hidb (HT.out.alloc (.cells CI 3))
          replace HZ := hidb (HZ.out.alloc (.cells CI 3))
          replace HG := hidb (HG.out.alloc (.cells CI 3))
          replace AK := hidb (AK.out.alloc (.cells CI 3))
          replace A9 := hidb (A9.out.alloc (.cells CI 3))
          generalize V110.alloc (.cells CI 3) = V111 at *
          refine hi_ready (rs := [8]) (by kernel_rfl) (by simp) ?_
          refine ReadyHI.cons rfl (fun K hK => ?_) ReadyHI.nil
          go_simp
          refine hK.out _ _ ?_ (fun hHeld => ?_)
          · (try dsimp only); exact HT.out.alloc _
          clear hK K
          have szV112 : Hid ((V111.alloc (.cells #[.slice none 0 0] 30)).heap.size = V111.heap.size + 1) := by show _ = _; simp
          have A8 := hidb (At.new1 V111 (.slice none 0 0) 30)
          obtain ⟨O8, hO8⟩ : ∃ z, z = V111.heap.size := ⟨_, rfl⟩
          rw [← hO8] at A8 ⊢
          replace hO8 := hidb hO8
          replace HT := hidb (HT.out.alloc (.cells #[.slice none 0 0] 30))
          replace HZ := hidb (HZ.out.alloc (.cells #[.slice none 0 0] 30))
          replace HG := hidb (HG.out.alloc (.cells #[.slice none 0 0] 30))
          replace AO := hidb (AO.out.alloc (.cells #[.slice none 0 0] 30))
          replace AK := hidb (AK.out.alloc (.cells #[.slice none 0 0] 30))
          replace A9 := hidb (A9.out.alloc (.cells #[.slice none 0 0] 30))
          generalize V111.alloc (.cells #[.slice none 0 0] 30) = V112 at *
          refine hi_ready (rs := [10]) (by kernel_rfl) (by simp) ?_
          refine ReadyHI.cons rfl (fun K hK => ?_) ReadyHI.nil
          have NT10 : Hid (¬ O8 = T) := by
            show ¬ _
            have n1 := hOUT.out; have n1 := hRK.out; have n1 := hO8.out; have n1 := hO9.out; have n5 := HS0.out; have n6 := HTR.out; have mV112 := szV112.out; have mV111 := szV111.out; have mV110 := szV110.out; have mV97 := szV97.out
            omega
          have z0 := A8.out.c1
          have y0 := A8.out.f1
          go_simp
          refine hK.out _ _ ?_ (fun hHeld => ?_)
          · (try dsimp only); exact HT.out.skip NT10.out _ _
          clear hK K
          clear z0 y0
          have szV113 : Hid ((V112.setCell ⟨O8, 0, none⟩ (.slice (some ⟨OUT, 0, none⟩) N N)).heap.size = V112.heap.size) := by show _ = _; simp
          have nn : Hid (¬ O8 = OUT ∧ ¬ O8 = RK ∧ ¬ O8 = O9) := by
            show _ ∧ _ ∧ _
            have n1 := hOUT.out; have n1 := hRK.out; have n1 := hO8.out; have n1 := hO9.out; have n5 := HS0.out; have n6 := HTR.out; have mV112 := szV112.out; have mV111 := szV111.out; have mV110 := szV110.out; have mV97 := szV97.out
            refine ⟨?_, ?_, ?_⟩ <;> omega
          replace AO := hidb (AO.out.skip (nn.out.1) 0 (.slice (some ⟨OUT, 0, none⟩) N N))
          replace AK := hidb (AK.out.skip (nn.out.2.1) 0 (.slice (some ⟨OUT, 0, none⟩) N N))
          replace A9 := hidb (A9.out.skip (nn.out.2.2) 0 (.slice (some ⟨OUT, 0, none⟩) N N))
          clear nn
          have nn : Hid (¬ O8 = Z ∧ w2.heap.size ≤ O8) := by
            show _ ∧ _
            have n1 := hOUT.out; have n1 := hRK.out; have n1 := hO8.out; have n1 := hO9.out; have n5 := HS0.out; have n6 := HTR.out; have mV112 := szV112.out; have mV111 := szV111.out; have mV110 := szV110.out; have mV97 := szV97.out
            omega
          replace HT := hidb (HT.out.skip NT10.out 0 (.slice (some ⟨OUT, 0, none⟩) N N))
          replace HZ := hidb (HZ.out.skip nn.out.1 0 (.slice (some ⟨OUT, 0, none⟩) N N))
          replace HG := hidb (HG.out.set nn.out.2 0 (.slice (some ⟨OUT, 0, none⟩) N N))
          replace A8 := hidb (At.fill1 (A8.out.has rfl) (.slice (some ⟨OUT, 0, none⟩) N N))
          clear nn NT10
          generalize V112.setCell ⟨O8, 0, none⟩ (.slice (some ⟨OUT, 0, none⟩) N N) = V113 at *
          refine hi_ready (rs := [11]) (by kernel_rfl) (by simp) ?_
          refine ReadyHI.cons rfl (fun K hK => ?_) ReadyHI.nil
          have NT11 : Hid (¬ O9 = T) := by
            show ¬ _
            have n1 := hOUT.out; have n1 := hRK.out; have n1 := hO8.out; have n1 := hO9.out; have n5 := HS0.out; have n6 := HTR.out; have mV113 := szV113.out; have mV112 := szV112.out; have mV111 := szV111.out; have mV110 := szV110.out; have mV97 := szV97.out
            omega
          have z0 := A9.out.c1
          have y0 := A9.out.f1
          go_simp
          refine hK.out _ _ ?_ (fun hHeld => ?_)
          · (try dsimp only); exact HT.out.skip NT11.out _ _
          clear hK K
          clear z0 y0
          have szV114 : Hid ((V113.setCell ⟨O9, 0, none⟩ (.slice (some ⟨RK, 0, none⟩) N N)).heap.size = V113.heap.size) := by show _ = _; simp
          have nn : Hid (¬ O9 = OUT ∧ ¬ O9 = RK ∧ ¬ O9 = O8) := by
            show _ ∧ _ ∧ _
            have n1 := hOUT.out; have n1 := hRK.out; have n1 := hO8.out; have n1 := hO9.out; have n5 := HS0.out; have n6 := HTR.out; have mV113 := szV113.out; have mV112 := szV112.out; have mV111 := szV111.out; have mV110 := szV110.out; have mV97 := szV97.out
            refine ⟨?_, ?_, ?_⟩ <;> omega
          replace AO := hidb (AO.out.skip (nn.out.1) 0 (.slice (some ⟨RK, 0, none⟩) N N))
          replace AK := hidb (AK.out.skip (nn.out.2.1) 0 (.slice (some ⟨RK, 0, none⟩) N N))
          replace A8 := hidb (A8.out.skip (nn.out.2.2) 0 (.slice (some ⟨RK, 0, none⟩) N N))
          clear nn
          have nn : Hid (¬ O9 = Z ∧ w2.heap.size ≤ O9) := by
            show _ ∧ _
            have n1 := hOUT.out; have n1 := hRK.out; have n1 := hO8.out; have n1 := hO9.out; have n5 := HS0.out; have n6 := HTR.out; have mV113 := szV113.out; have mV112 := szV112.out; have mV111 := szV111.out; have mV110 := szV110.out; have mV97 := szV97.out
            omega
          replace HT := hidb (HT.out.skip NT11.out 0 (.slice (some ⟨RK, 0, none⟩) N N))
          replace HZ := hidb (HZ.out.skip nn.out.1 0 (.slice (some ⟨RK, 0, none⟩) N N))
          replace HG := hidb (HG.out.set nn.out.2 0 (.slice (some ⟨RK, 0, none⟩) N N))
          replace A9 := hidb (At.fill1 (A9.out.has rfl) (.slice (some ⟨RK, 0, none⟩) N N))
          clear nn NT11
          generalize V113.setCell ⟨O9, 0, none⟩ (.slice (some ⟨RK, 0, none⟩) N N) = V114 at *
          refine hi_doneN (by kernel_rfl) ?_ _
          gi_wp2_with fail
          gi_meet
          have n1 := hOUT.out; have n1 := hRK.out; have n1 := hO8.out; have n1 := hO9.out; have n5 := HS0.out; have n6 := HTR.out; have mV114 := szV114.out; have mV113 := szV113.out; have mV112 := szV112.out; have mV111 := szV111.out; have mV110 := szV110.out; have mV97 := szV97.out
          refine ⟨O8, O9, OUT, RK, rfl, rfl, hidb ⟨HZ.out, A8.out, A9.out, by rw [← iF_rep, ← HCS.out.1]; exact AO.out, ?_, ⟨?_, ?_, ?_, ?_, ?_, ?_, ?_, ?_, ?_, ?_⟩, HG.out⟩⟩
          · rw [← iF_congr (f := fun _ => 0) (g := kfn (fun _ => (0, 0))) (fun j _ => by unfold kfn; split <;> rfl), ← iF_rep, ← HCS.out.2]; exact AK.out
          all_goals omega
        · skip
          go_simp
          refine hK.out _ _ ?_ (fun hHeld => ?_)
          · (try dsimp only); exact HT.out.alloc _
          clear hK K
          have szV115 : Hid ((V110.alloc (.cells #[.slice none 0 0] 30)).heap.size = V110.heap.size + 1) := by show _ = _; simp
          have A8 := hidb (At.new1 V110 (.slice none 0 0) 30)
          obtain ⟨O8, hO8⟩ : ∃ z, z = V110.heap.size := ⟨_, rfl⟩
          rw [← hO8] at A8 ⊢
          replace hO8 := hidb hO8
          replace HT := hidb (HT.out.alloc (.cells #[.slice none 0 0] 30))
          replace HZ := hidb (HZ.out.alloc (.cells #[.slice none 0 0] 30))
          replace HG := hidb (HG.out.alloc (.cells #[.slice none 0 0] 30))
          replace AK := hidb (AK.out.alloc (.cells #[.slice none 0 0] 30))
          replace A9 := hidb (A9.out.alloc (.cells #[.slice none 0 0] 30))
          generalize V110.alloc (.cells #[.slice none 0 0] 30) = V115 at *
          refine hi_ready (rs := [3]) (by kernel_rfl) (by simp) ?_
          refine ReadyHI.cons rfl (fun K hK => ?_) ReadyHI.nil
          go_simp
          refine hK.out _ _ ?_ (fun hHeld => ?_)
          · (try dsimp only); exact HT.out.alloc _
          clear hK K
          have szV116 : Hid ((V115.alloc (.cells CI 3)).heap.size = V115.heap.size + 1) := by show _ = _; simp
          have AO := hidb (At.newArr V115 CI 3)
          obtain ⟨OUT, hOUT⟩ : ∃ z, z = V115.heap.size := ⟨_, rfl⟩
          rw [← hOUT] at AO ⊢
          replace hOUT := hidb hOUT
          replace HT := hidb (HT.out.alloc (.cells CI 3))
          replace HZ := hidb (HZ.out.alloc (.cells CI 3))
          replace HG := hidb (HG.out.alloc (.cells CI 3))
          replace AK := hidb (AK.out.alloc (.cells CI 3))
          replace A8 := hidb (A8.out.alloc (.cells CI 3))
          replace A9 := hidb (A9.out.alloc (.cells CI 3))
          generalize V115.alloc (.cells CI 3) = V116 at *
          refine hi_ready (rs := [10]) (by kernel_rfl) (by simp) ?_
          refine ReadyHI.cons rfl (fun K hK => ?_) ReadyHI.nil
          have NT10 : Hid (¬ O8 = T) := by
            show ¬ _
            have n1 := hOUT.out; have n1 := hRK.out; have n1 := hO8.out; have n1 := hO9.out; have n5 := HS0.out; have n6 := HTR.out; have mV116 := szV116.out; have mV115 := szV115.out; have mV110 := szV110.out; have mV97 := szV97.out
            omega
          have z0 := A8.out.c1
          have y0 := A8.out.f1
          go_simp
          refine hK.out _ _ ?_ (fun hHeld => ?_)
          · (try dsimp only); exact HT.out.skip NT10.out _ _
          clear hK K
          clear z0 y0
          have szV117 : Hid ((V116.setCell ⟨O8, 0, none⟩ (.slice (some ⟨OUT, 0, none⟩) N N)).heap.size = V116.heap.size) := by show _ = _; simp
          have nn : Hid (¬ O8 = OUT ∧ ¬ O8 = RK ∧ ¬ O8 = O9) := by
            show _ ∧ _ ∧ _
            have n1 := hOUT.out; have n1 := hRK.out; have n1 := hO8.out; have n1 := hO9.out; have n5 := HS0.out; have n6 := HTR.out; have mV116 := szV116.out; have mV115 := szV115.out; have mV110 := szV110.out; have mV97 := szV97.out
            refine ⟨?_, ?_, ?_⟩ <;> omega
          replace AO := hidb (AO.out.skip (nn.out.1) 0 (.slice (some ⟨OUT, 0, none⟩) N N))
          replace AK := hidb (AK.out.skip (nn.out.2.1) 0 (.slice (some ⟨OUT, 0, none⟩) N N))
          replace A9 := hidb (A9.out.skip (nn.out.2.2) 0 (.slice (some ⟨OUT, 0, none⟩) N N))
          clear nn
          have nn : Hid (¬ O8 = Z ∧ w2.heap.size ≤ O8) := by
            show _ ∧ _
            have n1 := hOUT.out; have n1 := hRK.out; have n1 := hO8.out; have n1 := hO9.out; have n5 := HS0.out; have n6 := HTR.out; have mV116 := szV116.out; have mV115 := szV115.out; have mV110 := szV110.out; have mV97 := szV97.out
            omega
          replace HT := hidb (HT.out.skip NT10.out 0 (.slice (some ⟨OUT, 0, none⟩) N N))
          replace HZ := hidb (HZ.out.skip nn.out.1 0 (.slice (some ⟨OUT, 0, none⟩) N N))
          replace HG := hidb (HG.out.set nn.out.2 0 (.slice (some ⟨OUT, 0, none⟩) N N))
          replace A8 := hidb (At.fill1 (A8.out.has rfl) (.slice (some ⟨OUT, 0, none⟩) N N))
          clear nn NT10
          generalize V116.setCell ⟨O8, 0, none⟩ (.slice (some ⟨OUT, 0, none⟩) N N) = V117 at *
          refine hi_ready (rs := [11]) (by kernel_rfl) (by simp) ?_
          refine ReadyHI.cons rfl (fun K hK => ?_) ReadyHI.nil
          have NT11 : Hid (¬ O9 = T) := by
            show ¬ _
            have n1 := hOUT.out; have n1 := hRK.out; have n1 := hO8.out; have n1 := hO9.out; have n5 := HS0.out; have n6 := HTR.out; have mV117 := szV117.out; have mV116 := szV116.out; have mV115 := szV115.out; have mV110 := szV110.out; have mV97 := szV97.out
            omega
          have z0 := A9.out.c1
          have y0 := A9.out.f1
          go_simp
          refine hK.out _ _ ?_ (fun hHeld => ?_)
          · (try dsimp only); exact HT.out.skip NT11.out _ _
          clear hK K
          clear z0 y0
          have szV118 : Hid ((V117.setCell ⟨O9, 0, none⟩ (.slice (some ⟨RK, 0, none⟩) N N)).heap.size = V117.heap.size) := by show _ = _; simp
          have nn : Hid (¬ O9 = OUT ∧ ¬ O9 = RK ∧ ¬ O9 = O8) := by
            show _ ∧ _ ∧ _
            have n1 := hOUT.out; have n1 := hRK.out; have n1 := hO8.out; have n1 := hO9.out; have n5 := HS0.out; have n6 := HTR.out; have mV117 := szV117.out; have mV116 := szV116.out; have mV115 := szV115.out; have mV110 := szV110.out; have mV97 := szV97.out
            refine ⟨?_, ?_, ?_⟩ <;> omega
          replace AO := hidb (AO.out.skip (nn.out.1) 0 (.slice (some ⟨RK, 0, none⟩) N N))
          replace AK := hidb (AK.out.skip (nn.out.2.1) 0 (.slice (some ⟨RK, 0, none⟩) N N))
          replace A8 := hidb (A8.out.skip (nn.out.2.2) 0 (.slice (some ⟨RK, 0, none⟩) N N))
          clear nn
          have nn : Hid (¬ O9 = Z ∧ w2.heap.size ≤ O9) := by
            show _ ∧ _
            have n1 := hOUT.out; have n1 := hRK.out; have n1 := hO8.out; have n1 := hO9.out; have n5 := HS0.out; have n6 := HTR.out; have mV117 := szV117.out; have mV116 := szV116.out; have mV115 := szV115.out; have mV110 := szV110.out; have mV97 := szV97.out
            omega
          replace HT := hidb (HT.out.skip NT11.out 0 (.slice (some ⟨RK, 0, none⟩) N N))
          replace HZ := hidb (HZ.out.skip nn.out.1 0 (.slice (some ⟨RK, 0, none⟩) N N))
          replace HG := hidb (HG.out.set nn.out.2 0 (.slice (some ⟨RK, 0, none⟩) N N))
          replace A9 := hidb (At.fill1 (A9.out.has rfl) (.slice (some ⟨RK, 0, none⟩) N N))
          clear nn NT11
          generalize V117.setCell ⟨O9, 0, none⟩ (.slice (some ⟨RK, 0, none⟩) N N) = V118 at *
          refine hi_doneN (by kernel_rfl) ?_ _
          gi_wp2_with fail
          gi_meet
          have n1 := hOUT.out; have n1 := hRK.out; have n1 := hO8.out; have n1 := hO9.out; have n5 := HS0.out; have n6 := HTR.out; have mV118 := szV118.out; have mV117 := szV117.out; have mV116 := szV116.out; have mV115 := szV115.out; have mV110 := szV110.out; have mV97 := szV97.out
          refine ⟨O8, O9, OUT, RK, rfl, rfl, hidb ⟨HZ.out, A8.out, A9.out, by rw [← iF_rep, ← HCS.out.1]; exact AO.out, ?_, ⟨?_, ?_, ?_, ?_, ?_, ?_, ?_, ?_, ?_, ?_⟩, HG.out⟩⟩
          · rw [← iF_congr (f := fun _ => 0) (g := kfn (fun _ => (0, 0))) (fun j _ => by unfold kfn; split <;> rfl), ← iF_rep, ← HCS.out.2]; exact AK.out
          all_goals omega
      · skip
        go_simp
        refine hK.out _ _ ?_ (fun hHeld => ?_)
        · (try dsimp only); exact HT.out.alloc _
        clear hK K
        have szV119 : Hid ((V97.alloc (.cells #[.slice none 0 0] 30)).heap.size = V97.heap.size + 1) := by show _ = _; simp
        have A8 := hidb (At.new1 V97 (.slice none 0 0) 30)
        obtain ⟨O8, hO8⟩ : ∃ z, z = V97.heap.size := ⟨_, rfl⟩
        rw [← hO8] at A8 ⊢
        replace hO8 := hidb hO8
        replace HT := hidb (HT.out.alloc (.cells #[.slice none 0 0] 30))
        replace HZ := hidb (HZ.out.alloc (.cells #[.slice none 0 0] 30))
        replace HG := hidb (HG.out.alloc (.cells #[.slice none 0 0] 30))
        replace A9 := hidb (A9.out.alloc (.cells #[.slice none 0 0] 30))
        generalize V97.alloc (.cells #[.slice none 0 0] 30) = V119 at *
        refine hi_ready (rs := [3, 7]) (by kernel_rfl) (by simp) ?_
        refine ReadyHI.cons rfl (fun K hK => ?_) (ReadyHI.cons rfl (fun K hK => ?_) ReadyHI.nil)
        · skip
          go_simp
          refine hK.out _ _ ?_ (fun hHeld => ?_)
          · (try dsimp only); exact HT.out.alloc _
          clear hK K
          have szV120 : Hid ((V119.alloc (.cells CI 3)).heap.size = V119.heap.size + 1) := by show _ = _; simp
          have AO := hidb (At.newArr V119 CI 3)
          obtain ⟨OUT, hOUT⟩ : ∃ z, z = V119.heap.size := ⟨_, rfl⟩
          rw [← hOUT] at AO ⊢
          replace hOUT := hidb hOUT
          replace HT := hidb (HT.out.alloc (.cells CI 3))
          replace HZ := hidb (HZ.out.alloc (.cells CI 3))
          replace HG := hidb (HG.out.alloc (.cells CI 3))
          replace A8 := hidb (A8.out.alloc (.cells CI 3))
          replace A9 := hidb (A9.out.alloc (.cells CI 3))
          generalize V119.alloc (.cells CI 3) = V120 at *
          refine hi_ready (rs := [7, 10]) (by kernel_rfl) (by simp) ?_
          refine ReadyHI.cons rfl (fun K hK => ?_) (ReadyHI.cons rfl (fun K hK => ?_) ReadyHI.nil)
          · skip
            go_simp
            refine hK.out _ _ ?_ (fun hHeld => ?_)
            · (try dsimp only); exact HT.out.alloc _
            clear hK K
            have szV121 : Hid ((V120.alloc (.cells CK 63)).heap.size = V120.heap.size + 1) := by show _ = _; simp
            have AK := hidb (At.newArr V120 CK 63)
            obtain ⟨RK, hRK⟩ : ∃ z, z = V120.heap.size := ⟨_, rfl⟩
            rw [← hRK] at AK ⊢
            replace hRK := hidb hRK
            replace HT := hidb (HT.out.alloc (.cells CK 63))
            replace HZ := hidb (HZ.out.alloc (.cells CK 63))
            replace HG := hidb (HG.out.alloc (.cells CK 63))
            replace AO := hidb (AO.out.alloc (.cells CK 63))
            replace A8 := hidb (A8.out.alloc (.cells CK 63))
            replace A9 := hidb (A9.out.alloc (.cells CK 63))
            generalize V120.alloc (.cells CK 63) = V121 at *
            refine hi_ready (rs := [10]) (by kernel_rfl) (by simp) ?_
            refine ReadyHI.cons rfl (fun K hK => ?_) ReadyHI.nil
            have NT10 : Hid (¬ O8 = T) := by
              show ¬ _
              have n1 := hOUT.out; have n1 := hRK.out; have n1 := hO8.out; have n1 := hO9.out; have n5 := HS0.out; have n6 := HTR.out; have mV121 := szV121.out; have mV120 := szV120.out; have mV119 := szV119.out; have mV97 := szV97.out
              omega
            have z0 := A8.out.c1
            have y0 := A8.out.f1
            go_simp
            refine hK.out _ _ ?_ (fun hHeld => ?_)
            · (try dsimp only); exact HT.out.skip NT10.out _ _
            clear hK K
            clear z0 y0
            have szV122 : Hid ((V121.setCell ⟨O8, 0, none⟩ (.slice (some ⟨OUT, 0, none⟩) N N)).heap.size = V121.heap.size) := by show _ = _; simp
            have nn : Hid (¬ O8 = OUT ∧ ¬ O8 = RK ∧ ¬ O8 = O9) := by
              show _ ∧ _ ∧ _
              have n1 := hOUT.out; have n1 := hRK.out; have n1 := hO8.out; have n1 := hO9.out; have n5 := HS0.out; have n6 := HTR.out; have mV121 := szV121.out; have mV120 := szV120.out; have mV119 := szV119.out; have mV97 := szV97.out
              refine ⟨?_, ?_, ?_⟩ <;> omega
            replace AO := hidb (AO.out.skip (nn.out.1) 0 (.slice (some ⟨OUT, 0, none⟩) N N))
            replace AK := hidb (AK.out.skip (nn.out.2.1) 0 (.slice (some ⟨OUT, 0, none⟩) N N))
            replace A9 := hidb (A9.out.skip (nn.out.2.2) 0 (.slice (some ⟨OUT, 0, none⟩) N N))
            clear nn
            have nn : Hid (¬ O8 = Z ∧ w2.heap.size ≤ O8) := by
              show _ ∧ _
              have n1 := hOUT.out; have n1 := hRK.out; have n1 := hO8.out; have n1 := hO9.out; have n5 := HS0.out; have n6 := HTR.out; have mV121 := szV121.out; have mV120 := szV120.out; have mV119 := szV119.out; have mV97 := szV97.out
              omega
            replace HT := hidb (HT.out.skip NT10.out 0 (.slice (some ⟨OUT, 0, none⟩) N N))
            replace HZ := hidb (HZ.out.skip nn.out.1 0 (.slice (some ⟨OUT, 0, none⟩) N N))
            replace HG := hidb (HG.out.set nn.out.2 0 (.slice (some ⟨OUT, 0, none⟩) N N))
            replace A8 := hidb (At.fill1 (A8.out.has rfl) (.slice (some ⟨OUT, 0, none⟩) N N))
            clear nn NT10
            generalize V121.setCell ⟨O8, 0, none⟩ (.slice (some ⟨OUT, 0, none⟩) N N) = V122 at *
            refine hi_ready (rs := [11]) (by kernel_rfl) (by simp) ?_
            refine ReadyHI.cons rfl (fun K hK => ?_) ReadyHI.nil
            have NT11 : Hid (¬ O9 = T) := by
              show ¬ _
              have n1 := hOUT.out; have n1 := hRK.out; have n1 := hO8.out; have n1 := hO9.out; have n5 := HS0.out; have n6 := HTR.out; have mV122 := szV122.out; have mV121 := szV121.out; have mV120 := szV120.out; have mV119 := szV119.out; have mV97 := szV97.out
              omega
            have z0 := A9.out.c1
            have y0 := A9.out.f1
            go_simp
            refine hK.out _ _ ?_ (fun hHeld => ?_)
            · (try dsimp only); exact HT.out.skip NT11.out _ _
            clear hK K
            clear z0 y0
            have szV123 : Hid ((V122.setCell ⟨O9, 0, none⟩ (.slice (some ⟨RK, 0, none⟩) N N)).heap.size = V122.heap.size) := by show _ = _; simp
            have nn : Hid (¬ O9 = OUT ∧ ¬ O9 = RK ∧ ¬ O9 = O8) := by
              show _ ∧ _ ∧ _
              have n1 := hOUT.out; have n1 := hRK.out; have n1 := hO8.out; have n1 := hO9.out; have n5 := HS0.out; have n6 := HTR.out; have mV122 := szV122.out; have mV121 := szV121.out; have mV120 := szV120.out; have mV119 := szV119.out; have mV97 := szV97.out
              refine ⟨?_, ?_, ?_⟩ <;> omega
            replace AO := hidb (AO.out.skip (nn.out.1) 0 (.slice (some ⟨RK, 0, none⟩) N N))
            replace AK := hidb (AK.out.skip (nn.out.2.1) 0 (.slice (some ⟨RK, 0, none⟩) N N))
            replace A8 := hidb (A8.out.skip (nn.out.2.2) 0 (.slice (some ⟨RK, 0, none⟩) N N))
            clear nn
            have nn : Hid (¬ O9 = Z ∧ w2.heap.size ≤ O9) := by
              show _ ∧ _
              have n1 := hOUT.out; have n1 := hRK.out; have n1 := hO8.out; have n1 := hO9.out; have n5 := HS0.out; have n6 := HTR.out; have mV122 := szV122.out; have mV121 := szV121.out; have mV120 := szV120.out; have mV119 := szV119.out; have mV97 := szV97.out
              omega
            replace HT := hidb (HT.out.skip NT11.out 0 (.slice (some ⟨RK, 0, none⟩) N N))
            replace HZ := hidb (HZ.out.skip nn.out.1 0 (.slice (some ⟨RK, 0, none⟩) N N))
            replace HG := hidb (HG.out.set nn.out.2 0 (.slice (some ⟨RK, 0, none⟩) N N))
            replace A9 := hidb (At.fill1 (A9.out.has rfl) (.slice (some ⟨RK, 0, none⟩) N N))
            clear nn NT11
            generalize V122.setCell ⟨O9, 0, none⟩ (.slice (some ⟨RK, 0, none⟩) N N) = V123 at *
            refine hi_doneN (by kernel_rfl) ?_ _
            gi_wp2_with fail
            gi_meet
            have n1 := hOUT.out; have n1 := hRK.out; have n1 := hO8.out; have n1 := hO9.out; have n5 := HS0.out; have n6 := HTR.out; have mV123 := szV123.out; have mV122 := szV122.out; have mV121 := szV121.out; have mV120 := szV120.out; have mV119 := szV119.out; have mV97 := szV97.out
            refine ⟨O8, O9, OUT, RK, rfl, rfl, hidb ⟨HZ.out, A8.out, A9.out, by rw [← iF_rep, ← HCS.out.1]; exact AO.out, ?_, ⟨?_, ?_, ?_, ?_, ?_, ?_, ?_, ?_, ?_, ?_⟩, HG.out⟩⟩
            · rw [← iF_congr (f := fun _ => 0) (g := kfn (fun _ => (0, 0))) (fun j _ => by unfold kfn; split <;> rfl), ← iF_rep, ← HCS.out.2]; exact AK.out
            all_goals omega
          · skip
            have NT10 : Hid (¬ O8 = T) := by
              show ¬ _
              have n1 := hOUT.out; have n1 := hO8.out; have n1 := hO9.out; have n5 := HS0.out; have n6 := HTR.out; have mV120 := szV120.out; have mV119 := szV119.out; have mV97 := szV97.out
              omega
            have z0 := A8.out.c1
            have y0 := A8.out.f1
            go_simp
            refine hK.out _ _ ?_ (fun hHeld => ?_)
            · (try dsimp only); exact HT.out.skip NT10.out _ _
            clear hK K
            clear z0 y0
            have szV124 : Hid ((V120.setCell ⟨O8, 0, none⟩ (.slice (some ⟨OUT, 0, none⟩) N N)).heap.size = V120.heap.size) := by show _ = _; simp
            have nn : Hid (¬ O8 = OUT ∧ ¬ O8 = O9) := by
              show _ ∧ _
              have n1 := hOUT.out; have n1 := hO8.out; have n1 := hO9.out; have n5 := HS0.out; have n6 := HTR.out; have mV120 := szV120.out; have mV119 := szV119.out; have mV97 := szV97.out
              refine ⟨?_, ?_⟩ <;> omega
            replace AO := hidb (AO.out.skip (nn.out.1) 0 (.slice (some ⟨OUT, 0, none⟩) N N))
            replace A9 := hidb (A9.out.skip (nn.out.2) 0 (.slice (some ⟨OUT, 0, none⟩) N N))
            clear nn
            have nn : Hid (¬ O8 = Z ∧ w2.heap.size ≤ O8) := by
              show _ ∧ _
              have n1 := hOUT.out; have n1 := hO8.out; have n1 := hO9.out; have n5 := HS0.out; have n6 := HTR.out; have mV120 := szV120.out; have mV119 := szV119.out; have mV97 := szV97.out
              omega
            replace HT := hidb (HT.out.skip NT10.out 0 (.slice (some ⟨OUT, 0, none⟩) N N))
            replace HZ := hidb (HZ.out.skip nn.out.1 0 (.slice (some ⟨OUT, 0, none⟩) N N))
            replace HG := hidb (HG.out.set nn.out.2 0 (.slice (some ⟨OUT, 0, none⟩) N N))
            replace A8 := hidb (At.fill1 (A8.out.has rfl) (.slice (some ⟨OUT, 0, none⟩) N N))
            clear nn NT10
            generalize V120.setCell ⟨O8, 0, none⟩ (.slice (some ⟨OUT, 0, none⟩) N N) = V124 at *
            refine hi_ready (rs := [7]) (by kernel_rfl) (by simp) ?_
            refine ReadyHI.cons rfl (fun K hK => ?_) ReadyHI.nil
            go_simp
            refine hK.out _ _ ?_ (fun hHeld => ?_)
            · (try dsimp only); exact HT.out.alloc _
            clear hK K
            have szV125 : Hid ((V124.alloc (.cells CK 63)).heap.size = V124.heap.size + 1) := by show _ = _; simp
            have AK := hidb (At.newArr V124 CK 63)
            obtain ⟨RK, hRK⟩ : ∃ z, z = V124.heap.size := ⟨_, rfl⟩
            rw [← hRK] at AK ⊢
            replace hRK := hidb hRK
            replace HT := hidb (HT.out.alloc (.cells CK 63))
            replace HZ := hidb (HZ.out.alloc (.cells CK 63))
            replace HG := hidb (HG.out.alloc (.cells CK 63))
            replace AO := hidb (AO.out.alloc (.cells CK 63))
            replace A8 := hidb (A8.out.alloc (.cells CK 63))
            replace A9 := hidb (A9.out.alloc (.cells CK 63))
            generalize V124.alloc (.cells CK 63) = V125 at *
            refine hi_ready (rs := [11]) (by kernel_rfl) (by simp) ?_
            refine ReadyHI.cons rfl (fun K hK => ?_) ReadyHI.nil
            have NT11 : Hid (¬ O9 = T) := by
              show ¬ _
              have n1 := hOUT.out; have n1 := hRK.out; have n1 := hO8.out; have n1 := hO9.out; have n5 := HS0.out; have n6 := HTR.out; have mV125 := szV125.out; have mV124 := szV124.out; have mV120 := szV120.out; have mV119 := szV119.out; have mV97 := szV97.out
              omega
            have z0 := A9.out.c1
            have y0 := A9.out.f1
            go_simp
            refine hK.out _ _ ?_ (fun hHeld => ?_)
            · (try dsimp only); exact HT.out.skip NT11.out _ _
            clear hK K
            clear z0 y0
            have szV126 : Hid ((V125.setCell ⟨O9, 0, none⟩ (.slice (some ⟨RK, 0, none⟩) N N)).heap.size = V125.heap.size) := by show _ = _; simp
            have nn : Hid (¬ O9 = OUT ∧ ¬ O9 = RK ∧ ¬ O9 = O8) := by
              show _ ∧ _ ∧ _
              have n1 := hOUT.out; have n1 := hRK.out; have n1 := hO8.out; have n1 := hO9.out; have n5 := HS0.out; have n6 := HTR.out; have mV125 := szV125.out; have mV124 := szV124.out; have mV120 := szV120.out; have mV119 := szV119.out; have mV97 := szV97.out
              refine ⟨?_, ?_, ?_⟩ <;> omega
            replace AO := hidb (AO.out.skip (nn.out.1) 0 (.slice (some ⟨RK, 0, none⟩) N N))
            replace AK := hidb (AK.out.skip (nn.out.2.1) 0 (.slice (some ⟨RK, 0, none⟩) N N))
            replace A8 := hidb (A8.out.skip (nn.out.2.2) 0 (.slice (some ⟨RK, 0, none⟩) N N))
            clear nn
            have nn : Hid (¬ O9 = Z ∧ w2.heap.size ≤ O9) := by
              show _ ∧ _
              have n1 := hOUT.out; have n1 := hRK.out; have n1 := hO8.out; have n1 := hO9.out; have n5 := HS0.out; have n6 := HTR.out; have mV125 := szV125.out; have mV124 := szV124.out; have mV120 := szV120.out; have mV119 := szV119.out; have mV97 := szV97.out
              omega
            replace HT := hidb (HT.out.skip NT11.out 0 (.slice (some ⟨RK, 0, none⟩) N N))
            replace HZ := hidb (HZ.out.skip nn.out.1 0 (.slice (some ⟨RK, 0, none⟩) N N))
            replace HG := hidb (HG.out.set nn.out.2 0 (.slice (some ⟨RK, 0, none⟩) N N))
            replace A9 := hidb (At.fill1 (A9.out.has rfl) (.slice (some ⟨RK, 0, none⟩) N N))
            clear nn NT11
            generalize V125.setCell ⟨O9, 0, none⟩ (.slice (some ⟨RK, 0, none⟩) N N) = V126 at *
            refine hi_doneN (by kernel_rfl) ?_ _
            gi_wp2_with fail
            gi_meet
            have n1 := hOUT.out; have n1 := hRK.out; have n1 := hO8.out; have n1 := hO9.out; have n5 := HS0.out; have n6 := HTR.out; have mV126 := szV126.out; have mV125 := szV125.out; have mV124 := szV124.out; have mV120 := szV120.out; have mV119 := szV119.out; have mV97 := szV97.out
            refine ⟨O8, O9, OUT, RK, rfl, rfl, hidb ⟨HZ.out, A8.out, A9.out, by rw [← iF_rep, ← HCS.out.1]; exact AO.out, ?_, ⟨?_, ?_, ?_, ?_, ?_, ?_, ?_, ?_, ?_, ?_⟩, HG.out⟩⟩
            · rw [← iF_congr (f := fun _ => 0) (g := kfn (fun _ => (0, 0))) (fun j _ => by unfold kfn; split <;> rfl), ← iF_rep, ← HCS.out.2]; exact AK.out
            all_goals omega
        · skip
          go_simp
          refine hK.out _ _ ?_ (fun hHeld => ?_)
          · (try dsimp only); exact HT.out.alloc _
          clear hK K
          have szV127 : Hid ((V119.alloc (.cells CK 63)).heap.size = V119.heap.size + 1) := by show _ = _; simp
          have AK := hidb (At.newArr V119 CK 63)
          obtain ⟨RK, hRK⟩ : ∃ z, z = V119.heap.size := ⟨_, rfl⟩
          rw [← hRK] at AK ⊢
          replace hRK := hidb hRK
          replace HT := hidb (HT.out.alloc (.cells CK 63))
          replace HZ := hidb (HZ.out.alloc (.cells CK 63))
          replace HG := hidb (HG.out.alloc (.cells CK 63))
          replace A8 := hidb (A8.out.alloc (.cells CK 63))
          replace A9 := hidb (A9.out.alloc (.cells CK 63))
          generalize V119.alloc (.cells CK 63) = V127 at *
          refine hi_ready (rs := [3]) (by kernel_rfl) (by simp) ?_
          refine ReadyHI.cons rfl (fun K hK => ?_) ReadyHI.nil
          go_simp
          refine hK.out _ _ ?_ (fun hHeld => ?_)
          · (try dsimp only); exact HT.out.alloc _
          clear hK K
          have szV128 : Hid ((V127.alloc (.cells CI 3)).heap.size = V127.heap.size + 1) := by show _ = _; simp
          have AO := hidb (At.newArr V127 CI 3)
          obtain ⟨OUT, hOUT⟩ : ∃ z, z = V127.heap.size := ⟨_, rfl⟩
          rw [← hOUT] at AO ⊢
          replace hOUT := hidb hOUT
          replace HT := hidb (HT.out.alloc (.cells CI 3))
          replace HZ := hidb (HZ.out.alloc (.cells CI 3))
          replace HG := hidb (HG.out.alloc (.cells CI 3))
          replace AK := hidb (AK.out.alloc (.cells CI 3))
          replace A8 := hidb (A8.out.alloc (.cells CI 3))
          replace A9 := hidb (A9.out.alloc (.cells CI 3))
          generalize V127.alloc (.cells CI 3) = V128 at *
          refine hi_ready (rs := [10]) (by kernel_rfl) (by simp) ?_
          refine ReadyHI.cons rfl (fun K hK => ?_) ReadyHI.nil
          have NT10 : Hid (¬ O8 = T) := by
            show ¬ _
            have n1 := hOUT.out; have n1 := hRK.out; have n1 := hO8.out; have n1 := hO9.out; have n5 := HS0.out; have n6 := HTR.out; have mV128 := szV128.out; have mV127 := szV127.out; have mV119 := szV119.out; have mV97 := szV97.out
            omega
          have z0 := A8.out.c1
          have y0 := A8.out.f1
          go_simp
          refine hK.out _ _ ?_ (fun hHeld => ?_)
          · (try dsimp only); exact HT.out.skip NT10.out _ _
          clear hK K
          clear z0 y0
          have szV129 : Hid ((V128.setCell ⟨O8, 0, none⟩ (.slice (some ⟨OUT, 0, none⟩) N N)).heap.size = V128.heap.size) := by show _ = _; simp
          have nn : Hid (¬ O8 = OUT ∧ ¬ O8 = RK ∧ ¬ O8 = O9) := by
            show _ ∧ _ ∧ _
            have n1 := hOUT.out; have n1 := hRK.out; have n1 := hO8.out; have n1 := hO9.out; have n5 := HS0.out; have n6 := HTR.out; have mV128 := szV128.out; have mV127 := szV127.out; have mV119 := szV119.out; have mV97 := szV97.out
            refine ⟨?_, ?_, ?_⟩ <;> omega
          replace AO := hidb (AO.out.skip (nn.out.1) 0 (.slice (some ⟨OUT, 0, none⟩) N N))
          replace AK := hidb (AK.out.skip (nn.out.2.1) 0 (.slice (some ⟨OUT, 0, none⟩) N N))
          replace A9 := hidb (A9.out.skip (nn.out.2.2) 0 (.slice (some ⟨OUT, 0, none⟩) N N))
          clear nn
          have nn : Hid (¬ O8 = Z ∧ w2.heap.size ≤ O8) := by
            show _ ∧ _
            have n1 := hOUT.out; have n1 := hRK.out; have n1 := hO8.out; have n1 := hO9.out; have n5 := HS0.out; have n6 := HTR.out; have mV128 := szV128.out; have mV127 := szV127.out; have mV119 := szV119.out; have mV97 := szV97.out
            omega
          replace HT := hidb (HT.out.skip NT10.out 0 (.slice (some ⟨OUT, 0, none⟩) N N))
          replace HZ := hidb (HZ.out.skip nn.out.1 0 (.slice (some ⟨OUT, 0, none⟩) N N))
          replace HG := hidb (HG.out.set nn.out.2 0 (.slice (some ⟨OUT, 0, none⟩) N N))
          replace A8 := hidb (At.fill1 (A8.out.has rfl) (.slice (some ⟨OUT, 0, none⟩) N N))
          clear nn NT10
          generalize V128.setCell ⟨O8, 0, none⟩ (.slice (some ⟨OUT, 0, none⟩) N N) = V129 at *
          refine hi_ready (rs := [11]) (by kernel_rfl) (by simp) ?_
          refine ReadyHI.cons rfl (fun K hK => ?_) ReadyHI.nil
          have NT11 : Hid (¬ O9 = T) := by
            show ¬ _
            have n1 := hOUT.out; have n1 := hRK.out; have n1 := hO8.out; have n1 := hO9.out; have n5 := HS0.out; have n6 := HTR.out; have mV129 := szV129.out; have mV128 := szV128.out; have mV127 := szV127.out; have mV119 := szV119.out; have mV97 := szV97.out
            omega
          have z0 := A9.out.c1
          have y0 := A9.out.f1
          go_simp
          refine hK.out _ _ ?_ (fun hHeld => ?_)
          · (try dsimp only); exact HT.out.skip NT11.out _ _
          clear hK K
          clear z0 y0
          have szV130 : Hid ((V129.setCell ⟨O9, 0, none⟩ (.slice (some ⟨RK, 0, none⟩) N N)).heap.size = V129.heap.size) := by show _ = _; simp
          have nn : Hid (¬ O9 = OUT ∧ ¬ O9 = RK ∧ ¬ O9 = O8) := by
            show _ ∧ _ ∧ _
            have n1 := hOUT.out; have n1 := hRK.out; have n1 := hO8.out; have n1 := hO9.out; have n5 := HS0.out; have n6 := HTR.out; have mV129 := szV129.out; have mV128 := szV128.out; have mV127 := szV127.out; have mV119 := szV119.out; have mV97 := szV97.out
            refine ⟨?_, ?_, ?_⟩ <;> omega
          replace AO := hidb (AO.out.skip (nn.out.1) 0 (.slice (some ⟨RK, 0, none⟩) N N))
          replace AK := hidb (AK.out.skip (nn.out.2.1) 0 (.slice (some ⟨RK, 0, none⟩) N N))
          replace A8 := hidb (A8.out.skip (nn.out.2.2) 0 (.slice (some ⟨RK, 0, none⟩) N N))
          clear nn
          have nn : Hid (¬ O9 = Z ∧ w2.heap.size ≤ O9) := by
            show _ ∧ _
            have n1 := hOUT.out; have n1 := hRK.out; have n1 := hO8.out; have n1 := hO9.out; have n5 := HS0.out; have n6 := HTR.out; have mV129 := szV129.out; have mV128 := szV128.out; have mV127 := szV127.out; have mV119 := szV119.out; have mV97 := szV97.out
            omega
          replace HT := hidb (HT.out.skip NT11.out 0 (.slice (some ⟨RK, 0, none⟩) N N))
          replace HZ := hidb (HZ.out.skip nn.out.1 0 (.slice (some ⟨RK, 0, none⟩) N N))
          replace HG := hidb (HG.out.set nn.out.2 0 (.slice (some ⟨RK, 0, none⟩) N N))
          replace A9 := hidb (At.fill1 (A9.out.has rfl) (.slice (some ⟨RK, 0, none⟩) N N))
          clear nn NT11
          generalize V129.setCell ⟨O9, 0, none⟩ (.slice (some ⟨RK, 0, none⟩) N N) = V130 at *
          refine hi_doneN (by kernel_rfl) ?_ _
          gi_wp2_with fail
          gi_meet
          have n1 := hOUT.out; have n1 := hRK.out; have n1 := hO8.out; have n1 := hO9.out; have n5 := HS0.out; have n6 := HTR.out; have mV130 := szV130.out; have mV129 := szV129.out; have mV128 := szV128.out; have mV127 := szV127.out; have mV119 := szV119.out; have mV97 := szV97.out
          refine ⟨O8, O9, OUT, RK, rfl, rfl, hidb ⟨HZ.out, A8.out, A9.out, by rw [← iF_rep, ← HCS.out.1]; exact AO.out, ?_, ⟨?_, ?_, ?_, ?_, ?_, ?_, ?_, ?_, ?_, ?_⟩, HG.out⟩⟩
          · rw [← iF_congr (f := fun _ => 0) (g := kfn (fun _ => (0, 0))) (fun j _ => by unfold kfn; split <;> rfl), ← iF_rep, ← HCS.out.2]; exact AK.out
          all_goals omega
  case rest =>
    clear HT mkI mkK HCS HG HZ
    obtain ⟨O8, O9, OUT, RK, rfl, rfl, E⟩ := hcut
    obtain ⟨FL, LV, ob, ocap, vq, Fl, hSE⟩ := HX.out
    obtain ⟨r1, r2, r3, r4, r5, r6, r7, r8, r9, r10⟩ := E.out.2.2.2.2.2.1
    have hGc := E.out.2.2.2.2.2.2
    have hSc := hSE.below hGc.out
    have lF := hSE.nf.f.lt
    have lFL := hSE.nf.fl.lt
    have lIS := hSE.s.lt
    have lob := hSE.o.lt
    have hZc := E.out.1
    have E0 : Hid (GS wc Z O8 O9 OUT RK F FL IS N [.pointer (some ⟨F, 0, none⟩), .slice (some ⟨IS, 0, none⟩) N N, .slice (some ⟨IN, 0, none⟩) N N] (fsV m n Lb Lo Lcap N LV FL (.slice (some ⟨ob, 0, none⟩) N ocap) vq) Fl (bF N (stB m n l q)) (iF N (fun c => ((sF m n l q []).1 c : Int))) (iF (2 * N) (kfn (sF m n l q []).2))) := by
      refine ⟨E.out.1, E.out.2.1, E.out.2.2.1, E.out.2.2.2.1, E.out.2.2.2.2.1, ?_, ?_⟩
      · have := hSc.nf; rw [← HN.out] at this; exact this
      · have := hSc.s; rw [← HN.out] at this; exact this
    have HFe := hidb hSE.fe
    have HOr : Hid (Rs wc ob 0 ocap (on (flo m n l N).ord)) := by have := hSc.o; rw [← HN.out] at this; exact this
    have HGc := hidb hGc
    have hlX := hZc.lt
    have l8 := E.out.2.1.lt
    have l9 := E.out.2.2.1.lt
    have lO := E.out.2.2.2.1.lt
    have lK := E.out.2.2.2.2.1.lt
    have hws := hGc.out.size
    obtain ⟨X, hX⟩ : ∃ z, z = wc.heap.size := ⟨_, rfl⟩
    have HAp : Hid (Ap Z O8 O9 OUT RK F FL IS X) := ⟨⟨by omega, by omega, by omega, by omega, by omega, by omega, by omega⟩, ⟨by omega, by omega, by omega, by omega, by omega, by omega, by omega⟩, by omega⟩
    have HNm := hidb (show ob < w2.heap.size ∧ w2.heap.size ≤ OUT ∧ w2.heap.size ≤ RK ∧ w2.heap.size ≤ X from ⟨lob, r8, r9, by omega⟩)
    obtain ⟨z0, z1, z2⟩ := hZc.c3
    have f5 : wc.cell? ⟨F, 5, none⟩ = some (.slice (some ⟨ob, 0, none⟩) N ocap) := (E0.out.nf.f.1 5 (by simp [fsV])).1
    clear r1 r2 r3 r4 r5 r6 r7 r8 r9 r10 hGc hSc lF lFL lIS lob hZc hSE E HX hlX l8 l9 lO lK hws HTR
    gi_wp2_with fail
    refine ⟨trivial, (back_in Fence.wide 2 trivial rfl _ _ _ _).mono ?_⟩
    rintro e w' ⟨rfl, rfl⟩
    clear z0 z1 z2 f5
    gi_wp2
    have B3 := At.new1 wc (.slice (some ⟨ob, 0, none⟩) N ocap) 30
    have hal := (Gr.refl wc).alloc (.cells #[.slice (some ⟨ob, 0, none⟩) N ocap] 30)
    have E3 := E0.out.below hal.out
    have G3 := Gr.step HGc.out hal.out
    have O3 := HOr.out.below hal.out
    rw [← hX] at B3 ⊢
    clear hX hal E0 HGc HOr
    generalize wc.alloc (.cells #[.slice (some ⟨ob, 0, none⟩) N ocap] 30) = w4 at *
    have hwl := G3.out.size
    have hXl := B3.lt
    refine wpIn_rangeFunc_ownG (α := Nat) rfl (by decide) (gf := 31) (lb := #[.pointer (some ⟨X, 0, none⟩)]) rfl trivial (enters_of Tryd.func31 (by kernel_rfl) rfl)
      (back_stops Fence.wide 2 trivial rfl (by decide) X w2.heap.size ob N ocap (fun k => (N : Int) - 1 - k) (fun k => (oc m n l (N - 1 - k) : Int)) (by have := HL.out; omega) w4 HNm.out.1 hXl hwl (fun _ _ => rfl) B3.c1 (fun k hk => by
        have := O3.get (i := N - 1 - k) (by rw [List.length_map, HOl.out.1]; omega)
        rw [Nat.zero_add, HOl.out.2 (N - 1 - k) (by omega)] at this
        exact this)) KpB.trans (KpB.put hwl) (Below.refl _ _) (fun _ => rfl)
      (fun pre W => GS W Z O8 O9 OUT RK F FL IS N [.pointer (some ⟨F, 0, none⟩), .slice (some ⟨IS, 0, none⟩) N N, .slice (some ⟨IN, 0, none⟩) N N] (fsV m n Lb Lo Lcap N LV FL (.slice (some ⟨ob, 0, none⟩) N ocap) vq) Fl (bF N (stB m n l q)) (iF N (fun c => ((sF m n l q pre).1 c : Int))) (iF (2 * N) (kfn (sF m n l q pre).2)) ∧ Below w2.heap.size w2 W)
      (fun _ _ _ => False)
      (OwnFrom.and (Own.from (fun s A B row hs hg hr => hs.kept hg hr) _) (ownFrom_below (Nat.le_refl _) hwl))
      (fun _ _ _ _ _ hs _ _ => hs)
      ⟨E3, G3⟩ ?a1 ?assign ?body ?done ?stop
    case assign =>
      intro l x W K hK
      gi_wp2
      exact hK
    case stop =>
      rintro D c pre W _ _ h _
      exact h.elim
    case done =>
      rintro D ys W hD rfl ⟨E, hB⟩ hK
      have x0 := E.a.c1
      have hO' : At (W.putObj D (.deferred none)) OUT (ir (iF N (fun c => if stB m n l q c = true then (so m n l q c : Int) else 0))) := by
        rw [← iF_congr (f := fun c => ((sF m n l q (List.range N)).1 c : Int)) (g := fun c => if stB m n l q c = true then (so m n l q c : Int) else 0) (fun c hc => by
          have h1 := HEq.out.1 c hc
          rw [h1, HAll.out c hc]
          split <;> rfl)]
        exact E.o.kept (grownBy_putObj' _ D (.deferred none)) (fun r e => by cases e; exact ⟨_, hK, rfl⟩)
      have hB' : Gr w2 (W.putObj D (.deferred none)) := hB.trans (belowK_b (w := w2) (Nat.le_refl _) W D _ (.deferred none) (by omega) hK rfl rfl)
      gi_wp2
      refine ⟨by simp, .inl ⟨_, _, rfl, run_takeDeferred hK, ?_⟩⟩
      exact ⟨_, results_tmp2 rfl _ _ _, OUT, rfl, hO', Gr.step HGw.out hB'.out⟩
    case body =>
      rintro lp pre x W ⟨E', hB⟩ hpl
      obtain ⟨hc, ht⟩ := HLt.out x
      have HSn := hidb (sF_snoc m n l q pre x)
      have hst : sst m n l q (sF m n l q pre) x = if stB m n l q (oc m n l (N - 1 - x)) = true then
          (fun k => if k = oc m n l (N - 1 - x) then rkO ((sF m n l q pre).2 (oc m n l (N - 1 - x))) else (sF m n l q pre).1 k,
           if tw m n l (oc m n l (N - 1 - x)) = oc m n l (N - 1 - x) then (sF m n l q pre).2 else fun k => if k = tw m n l (oc m n l (N - 1 - x)) then wth ((sF m n l q pre).2 (tw m n l (oc m n l (N - 1 - x)))) (rkO ((sF m n l q pre).2 (oc m n l (N - 1 - x)))) else (sF m n l q pre).2 k)
          else sF m n l q pre := by unfold sst; rw [← HN.out]
      rw [hst] at HSn
      clear hst
      have HNc := hidb (fun W h => HNx.out W F FL LV (.slice (some ⟨ob, 0, none⟩) N ocap) vq Fl h HFe.out _ hc)
      rw [nxO_tw] at HNc
      have HBd := hidb (sF_bd m n l q pre)
      have HPl := hidb hpl
      generalize sF m n l q pre = s at *
      generalize tw m n l (oc m n l (N - 1 - x)) = t at *
      generalize oc m n l (N - 1 - x) = c at *
      have E := hidb E'
      have hWl := hB.size
      have HWl := hidb hWl
      have HB := hidb hB
      obtain ⟨z0, z1, z2⟩ := E'.z.c3
      have cS := (E'.s.gb hc).1
      have ixS := bindex IS N N c hc
      clear E' hpl hWl hB
      cases hb : stB m n l q c with
      | false =>
        rw [hb, if_neg (by decide)] at HSn
        rw [hb] at cS
        clear hb
        gi_wp2
        exact ⟨(KeepsOthers.refl _).from _, KpB.refl _ _ _, by rw [HSn.out]; exact E.out, HB.out⟩
      | true =>
        rw [hb, if_pos rfl] at HSn
        rw [hb] at cS
        clear hb
        have hcN := hc
        have ixO := iindex OUT 0 N N c hc
        rw [Nat.zero_add] at ixO
        have ixR := rindex RK N N c hc
        have HOr := hidb (fun W => order_any (s.2 c) (by have := HBd.out c; have := HPl.out; have := HL.out; omega) W)
        obtain ⟨KL, hKL⟩ : ∃ z, z = iF (2 * N) (kfn s.2) := ⟨_, rfl⟩
        have HKL := hidb hKL
        have HKt : Hid (∀ k, k < N → ∀ w, At w RK (ir KL) → (w.cell? ⟨RK, 2 * k, none⟩ = some (.int .i64 ((s.2 k).1 : Int)) ∧ w.cell? ⟨RK, 2 * k + 1, none⟩ = some (.int .i64 ((s.2 k).2 : Int))) ∧ (w.frozen? ⟨RK, 2 * k, none⟩ = false ∧ w.frozen? ⟨RK, 2 * k + 1, none⟩ = false)) := fun k hk w h => by
          rw [hKL] at h
          have h1 := h.gi (j := 2 * k) (by omega)
          have h2 := h.gi (j := 2 * k + 1) (by omega)
          rw [kfn_even] at h1
          rw [kfn_odd] at h2
          exact ⟨⟨h1.1, h2.1⟩, h1.2, h2.2⟩
        have HKc := hidb (fun w h => (HKt.out c hc w h).1)
        have NO : Hid (¬ OUT = O8 ∧ ¬ OUT = O9 ∧ ¬ OUT = RK) := ⟨HAp.out.1.2.1, HAp.out.1.2.2.1, HAp.out.2.2⟩
        rw [← hKL] at E
        clear hKL
        have HC := hidb (show c < N ∧ t < N from ⟨hc, ht⟩)
        gi_upto_region 8 with fail
        clear z0 z1 z2 cS ixS
        refine hi_regionN (S := (fun w' => At w' O8 [.slice (some ⟨OUT, 0, none⟩) N N] ∧ At w' O9 [.slice (some ⟨RK, 0, none⟩) N N] ∧ At w' RK (ir KL))) (by kernel_rfl) ?_ (fun hHeld => ?_)
        · (try dsimp only); exact ⟨E.out.a.drew, E.out.b.drew, E.out.k.drew⟩
        replace E := hidb E.out.drew
        have KD := hidb (KeepsOthers.drew W)
        generalize hW7 : W.drew = W7 at *
        have HW7 := hidb hW7
        clear hW7
        refine hi_take (i := 0) (v := ?vk0x7) (by kernel_rfl) rfl (fun _ _ => rfl) (by kernel_rfl) (by kernel_rfl) (by kernel_rfl) (fun _ _ _ h => h) (Or.inl ⟨by kernel_rfl, ?hk0x7⟩) (by assumption) ?rk0x7
        case hk0x7 => (intro w hSw; (try dsimp only at hSw); obtain ⟨hSa, hSb, hSc⟩ := hSw; have x0 := hSa.c1; have x1 := hSb.c1; obtain ⟨x2, x3⟩ := HKc.out w hSc; go_simp; try with_reducible rfl)
        (try simp only [Act.put, List.getElem_toArray, List.getElem_cons_zero, List.setIfInBounds_toArray, List.set_cons_zero, List.set_cons_succ])
        refine hi_take (i := 1) (v := ?vk1x10) (by kernel_rfl) rfl (fun _ _ => rfl) (by kernel_rfl) (by kernel_rfl) (by kernel_rfl) (fun _ _ _ h => h) (Or.inl ⟨by kernel_rfl, ?hk1x10⟩) (by assumption) ?rk1x10
        case hk1x10 => (intro w hSw; (try dsimp only at hSw); obtain ⟨hSa, hSb, hSc⟩ := hSw; have x0 := hSa.c1; have x1 := hSb.c1; obtain ⟨x2, x3⟩ := HKc.out w hSc; go_simp; try with_reducible rfl)
        (try simp only [Act.put, List.getElem_toArray, List.getElem_cons_zero, List.getElem_cons_succ, List.setIfInBounds_toArray, List.set_cons_zero, List.set_cons_succ])
        refine hi_take (i := 2) (v := ?vk2x13) (by kernel_rfl) rfl (fun _ _ => rfl) (by kernel_rfl) (by kernel_rfl) (by kernel_rfl) (fun _ _ _ h => h) (Or.inl ⟨by kernel_rfl, ?hk2x13⟩) (by assumption) ?rk2x13
        case hk2x13 => (intro w hSw; (try dsimp only at hSw); obtain ⟨hSa, hSb, hSc⟩ := hSw; have x0 := hSa.c1; have x1 := hSb.c1; obtain ⟨x2, x3⟩ := HKc.out w hSc; go_simp; try with_reducible rfl)
        (try simp only [Act.put, List.getElem_toArray, List.getElem_cons_zero, List.getElem_cons_succ, List.setIfInBounds_toArray, List.set_cons_zero, List.set_cons_succ])
        refine hi_take (i := 3) (v := ?vk3x16) (by kernel_rfl) rfl (fun _ _ => rfl) (by kernel_rfl) (by kernel_rfl) (by kernel_rfl) (fun _ _ _ h => h) (Or.inl ⟨by kernel_rfl, ?hk3x16⟩) (by assumption) ?rk3x16
        case hk3x16 => (intro w hSw; (try dsimp only at hSw); obtain ⟨hSa, hSb, hSc⟩ := hSw; have x0 := hSa.c1; have x1 := hSb.c1; obtain ⟨x2, x3⟩ := HKc.out w hSc; go_simp; try with_reducible rfl)
        (try simp only [Act.put, List.getElem_toArray, List.getElem_cons_zero, List.getElem_cons_succ, List.setIfInBounds_toArray, List.set_cons_zero, List.set_cons_succ])
        refine hi_take (i := 4) (v := ?vk4x19) (by kernel_rfl) rfl (fun _ _ => rfl) (by kernel_rfl) (by kernel_rfl) (by kernel_rfl) (fun _ _ _ h => h) (Or.inl ⟨by kernel_rfl, ?hk4x19⟩) (by assumption) ?rk4x19
        case hk4x19 => (intro w hSw; (try dsimp only at hSw); obtain ⟨hSa, hSb, hSc⟩ := hSw; have x0 := hSa.c1; have x1 := hSb.c1; obtain ⟨x2, x3⟩ := HKc.out w hSc; go_simp; try with_reducible rfl)
        (try simp only [Act.put, List.getElem_toArray, List.getElem_cons_zero, List.getElem_cons_succ, List.setIfInBounds_toArray, List.set_cons_zero, List.set_cons_succ])
        refine hi_take (i := 5) (v := ?vk5x22) (by kernel_rfl) rfl (fun _ _ => rfl) (by kernel_rfl) (by kernel_rfl) (by kernel_rfl) (fun _ _ _ h => h) (Or.inl ⟨by kernel_rfl, ?hk5x22⟩) (by assumption) ?rk5x22
        case hk5x22 => (intro w hSw; (try dsimp only at hSw); obtain ⟨hSa, hSb, hSc⟩ := hSw; have x0 := hSa.c1; have x1 := hSb.c1; obtain ⟨x2, x3⟩ := HKc.out w hSc; go_simp; try with_reducible rfl)
        (try simp only [Act.put, List.getElem_toArray, List.getElem_cons_zero, List.getElem_cons_succ, List.setIfInBounds_toArray, List.set_cons_zero, List.set_cons_succ])
        refine hi_ready (rs := [6]) (by kernel_rfl) (by simp) ?_
        refine ReadyHI.cons rfl (fun K hK => ?_) ReadyHI.nil
        go_simp
        gi_wp2_with fail
        refine ⟨trivial, (CallsIn.inRound lp (callsIn_wide.2 (HOr.out _))).mono ?_⟩
        rintro e W8 ⟨rfl, hB8⟩
        gi_wp2
        refine hK.out _ _ ?_ (fun hHeld => ?_)
        · (try dsimp only); exact ⟨At.below hB8.out hHeld.1, At.below hB8.out hHeld.2.1, At.below hB8.out hHeld.2.2⟩
        clear hK K
        have E8 := hidb (E.out.below hB8.out)
        have KW8 := hidb hB8.out
        have AO8 := E8.out.o.gi hcN
        have cO := AO8.1
        have fO := AO8.2
        clear AO8 hB8
        refine hi_take (i := 7) (v := ?vk7x41) (by kernel_rfl) rfl (fun _ _ => rfl) (by kernel_rfl) (by kernel_rfl) (by kernel_rfl) (fun _ _ _ h => h) (Or.inl ⟨by kernel_rfl, ?hk7x41⟩) (by assumption) ?rk7x41
        case hk7x41 => (intro w hSw; (try dsimp only at hSw); obtain ⟨hSa, hSb, hSc⟩ := hSw; have x0 := hSa.c1; have x1 := hSb.c1; obtain ⟨x2, x3⟩ := HKc.out w hSc; go_simp; try with_reducible rfl)
        (try simp only [Act.put, List.getElem_toArray, List.getElem_cons_zero, List.getElem_cons_succ, List.setIfInBounds_toArray, List.set_cons_zero, List.set_cons_succ])
        refine hi_ready (rs := [8]) (by kernel_rfl) (by simp) ?_
        refine ReadyHI.cons rfl (fun K hK => ?_) ReadyHI.nil
        go_simp
        refine hK.out _ _ ?_ (fun hHeld => ?_)
        · (try dsimp only); exact ⟨hHeld.1.skip NO.out.1 _ _, hHeld.2.1.skip NO.out.2.1 _ _, hHeld.2.2.skip NO.out.2.2 _ _⟩
        clear hK K
        refine hi_doneN (by kernel_rfl) ?_ _
        have E9 := hidb (E8.out.putO HAp.out c (rkO (s.2 c) : Int))
        have KW9 := hidb (show KeepsOthers W (W8.setCell ⟨OUT, c, none⟩ (.int .i64 (rkO (s.2 c) : Int))) ∧ KpB w2.heap.size X W (W8.setCell ⟨OUT, c, none⟩ (.int .i64 (rkO (s.2 c) : Int))) ∧ Below w2.heap.size w2 (W8.setCell ⟨OUT, c, none⟩ (.int .i64 (rkO (s.2 c) : Int))) ∧ w2.heap.size ≤ (W8.setCell ⟨OUT, c, none⟩ (.int .i64 (rkO (s.2 c) : Int))).heap.size from by
          have k1 := HWl.out
          have k2 : w2.heap.size ≤ W7.heap.size := by rw [← HW7.out]; simpa using k1
          have k3 := KW8.out.size
          have g7 : Gr W W7 := by rw [← HW7.out]; exact (Gr.refl W).drew
          have g8 := Gr.step g7 KW8.out
          refine ⟨(keeps_below g8.out).trans (KeepsOthers.setCell _ _ _), (KpB.below g8.out k1).trans (KpB.set HNm.out.2.1 (fun e => HAp.out.1.2.2.2.2.2.2 e.symm) _ _), (HB.out.trans (g8.out.mono k1)).setCell (p := ⟨OUT, c, none⟩) HNm.out.2.1 _, by simp; omega⟩)
        have hLs : (iF N (fun k => (s.1 k : Int))).set c (rkO (s.2 c) : Int) = iF N (fun k => ((if k = c then rkO (s.2 c) else s.1 k : Nat) : Int)) := iF_set _ _ _ (fun k _ => by split <;> rfl)
        rw [hLs] at E9
        clear hLs E8 KW8 KD E cO fO HOr HKc HW7
        generalize W8.setCell ⟨OUT, c, none⟩ (.int .i64 (rkO (s.2 c) : Int)) = W9 at *
        obtain ⟨z0, z1, z2⟩ := E9.out.z.c3
        have HNd := hidb (HNc.out _ E9.out.nf)
        clear HNc
        by_cases hf : t = c
        · rw [if_pos hf] at HNd HSn
          unfold nbA at HNd
          clear hf
          gi_wp2_with fail
          refine ⟨trivial, (CallsIn.inRound lp (callsIn_wide.2 HNd.out)).mono ?_⟩
          rintro e W10 ⟨rfl, hB10⟩
          have HF10 : Hid (KeepsFrom w4.heap.size W W10 ∧ KpB w2.heap.size X W W10 ∧ GS W10 Z O8 O9 OUT RK F FL IS N [.pointer (some ⟨F, 0, none⟩), .slice (some ⟨IS, 0, none⟩) N N, .slice (some ⟨IN, 0, none⟩) N N] (fsV m n Lb Lo Lcap N LV FL (.slice (some ⟨ob, 0, none⟩) N ocap) vq) Fl (bF N (stB m n l q)) (iF N (fun c => ((sF m n l q (pre ++ [x])).1 c : Int))) (iF (2 * N) (kfn (sF m n l q (pre ++ [x])).2)) ∧ Below w2.heap.size w2 W10) := by
            obtain ⟨k1, k2, k3, k4⟩ := KW9.out
            refine ⟨(k1.trans (keeps_below hB10.out)).from _, k2.trans (KpB.below hB10.out k4), ?_, k3.trans (hB10.out.mono k4)⟩
            rw [HSn.out]
            have := E9.out.below hB10.out
            rw [HKL.out] at this
            exact this
          clear z0 z1 z2 hB10
          gi_wp2
          exact HF10.out
        · rw [if_neg hf] at HNd HSn
          unfold nbA at HNd
          dsimp only at HNd
          have ixT := rindex RK N N t ht
          have HWt := hidb (fun W => with_any (s.2 t) (rkO (s.2 c)) (by have := HBd.out t; have := HPl.out; have := HL.out; omega) W)
          have HOc : Hid (∀ w, At w OUT (ir (iF N (fun k => ((if k = c then rkO (s.2 c) else s.1 k : Nat) : Int)))) → w.cell? ⟨OUT, c, none⟩ = some (.int .i64 (rkO (s.2 c) : Int))) := fun w h => by
            have := (h.gi hcN).1
            rw [if_pos rfl] at this
            exact this
          have NK : Hid (¬ RK = O8 ∧ ¬ RK = O9 ∧ ¬ RK = OUT) := ⟨HAp.out.2.1.2.1, HAp.out.2.1.2.2.1, fun e => HAp.out.2.2 e.symm⟩
          have HKs : Hid (((iF (2 * N) (kfn s.2)).set (2 * t) ((wth (s.2 t) (rkO (s.2 c))).1 : Int)).set (2 * t + 1) ((wth (s.2 t) (rkO (s.2 c))).2 : Int) = iF (2 * N) (kfn (fun k => if k = t then wth (s.2 t) (rkO (s.2 c)) else s.2 k))) := kfn_set s.2 (wth (s.2 t) (rkO (s.2 c)))
          clear hf
          gi_wp2_with fail
          refine ⟨trivial, (CallsIn.inRound lp (callsIn_wide.2 HNd.out)).mono ?_⟩
          rintro e W10 ⟨rfl, hB10⟩
          have E10 := hidb (E9.out.below hB10.out)
          have KW10 := hidb (show KeepsOthers W W10 ∧ KpB w2.heap.size X W W10 ∧ Below w2.heap.size w2 W10 ∧ w2.heap.size ≤ W10.heap.size from ⟨KW9.out.1.trans (keeps_below hB10.out), KW9.out.2.1.trans (KpB.below hB10.out KW9.out.2.2.2), KW9.out.2.2.1.trans (hB10.out.mono KW9.out.2.2.2), Nat.le_trans KW9.out.2.2.2 hB10.out.size⟩)
          clear z0 z1 z2 hB10 HNd E9 KW9
          gi_upto_region 11 with fail
          refine hi_regionN (S := (fun w' => At w' O8 [.slice (some ⟨OUT, 0, none⟩) N N] ∧ At w' O9 [.slice (some ⟨RK, 0, none⟩) N N] ∧ At w' OUT (ir (iF N (fun k => ((if k = c then rkO (s.2 c) else s.1 k : Nat) : Int)))))) (by kernel_rfl) ?_ (fun hHeld => ?_)
          · (try dsimp only); exact ⟨E10.out.a.drew, E10.out.b.drew, E10.out.o.drew⟩
          have E11 := hidb E10.out.drew
          generalize hW11 : W10.drew = W11 at *
          have HW11 := hidb hW11
          clear hW11
          refine hi_take (i := 0) (v := ?vm0x6) (by kernel_rfl) rfl (fun _ _ => rfl) (by kernel_rfl) (by kernel_rfl) (by kernel_rfl) (fun _ _ _ h => h) (Or.inl ⟨by kernel_rfl, ?hm0x6⟩) (by assumption) ?rm0x6
          case hm0x6 => (intro w hSw; (try dsimp only at hSw); obtain ⟨hSa, hSb, hSc⟩ := hSw; have x0 := hSa.c1; have x1 := hSb.c1; have x2 := HOc.out w hSc; go_simp; try with_reducible rfl)
          (try simp only [Act.put, List.getElem_toArray, List.getElem_cons_zero, List.setIfInBounds_toArray, List.set_cons_zero, List.set_cons_succ])
          refine hi_take (i := 1) (v := ?vm1x9) (by kernel_rfl) rfl (fun _ _ => rfl) (by kernel_rfl) (by kernel_rfl) (by kernel_rfl) (fun _ _ _ h => h) (Or.inl ⟨by kernel_rfl, ?hm1x9⟩) (by assumption) ?rm1x9
          case hm1x9 => (intro w hSw; (try dsimp only at hSw); obtain ⟨hSa, hSb, hSc⟩ := hSw; have x0 := hSa.c1; have x1 := hSb.c1; have x2 := HOc.out w hSc; go_simp; try with_reducible rfl)
          (try simp only [Act.put, List.getElem_toArray, List.getElem_cons_zero, List.getElem_cons_succ, List.setIfInBounds_toArray, List.set_cons_zero, List.set_cons_succ])
          refine hi_take (i := 2) (v := ?vm2x12) (by kernel_rfl) rfl (fun _ _ => rfl) (by kernel_rfl) (by kernel_rfl) (by kernel_rfl) (fun _ _ _ h => h) (Or.inl ⟨by kernel_rfl, ?hm2x12⟩) (by assumption) ?rm2x12
          case hm2x12 => (intro w hSw; (try dsimp only at hSw); obtain ⟨hSa, hSb, hSc⟩ := hSw; have x0 := hSa.c1; have x1 := hSb.c1; have x2 := HOc.out w hSc; go_simp; try with_reducible rfl)
          (try simp only [Act.put, List.getElem_toArray, List.getElem_cons_zero, List.getElem_cons_succ, List.setIfInBounds_toArray, List.set_cons_zero, List.set_cons_succ])
          refine hi_take (i := 3) (v := ?vm3x15) (by kernel_rfl) rfl (fun _ _ => rfl) (by kernel_rfl) (by kernel_rfl) (by kernel_rfl) (fun _ _ _ h => h) (Or.inl ⟨by kernel_rfl, ?hm3x15⟩) (by assumption) ?rm3x15
          case hm3x15 => (intro w hSw; (try dsimp only at hSw); obtain ⟨hSa, hSb, hSc⟩ := hSw; have x0 := hSa.c1; have x1 := hSb.c1; have x2 := HOc.out w hSc; go_simp; try with_reducible rfl)
          (try simp only [Act.put, List.getElem_toArray, List.getElem_cons_zero, List.getElem_cons_succ, List.setIfInBounds_toArray, List.set_cons_zero, List.set_cons_succ])
          refine hi_take (i := 4) (v := ?vm4x18) (by kernel_rfl) rfl (fun _ _ => rfl) (by kernel_rfl) (by kernel_rfl) (by kernel_rfl) (fun _ _ _ h => h) (Or.inl ⟨by kernel_rfl, ?hm4x18⟩) (by assumption) ?rm4x18
          case hm4x18 => (intro w hSw; (try dsimp only at hSw); obtain ⟨hSa, hSb, hSc⟩ := hSw; have x0 := hSa.c1; have x1 := hSb.c1; have x2 := HOc.out w hSc; go_simp; try with_reducible rfl)
          (try simp only [Act.put, List.getElem_toArray, List.getElem_cons_zero, List.getElem_cons_succ, List.setIfInBounds_toArray, List.set_cons_zero, List.set_cons_succ])
          refine hi_take (i := 6) (v := ?vm6x21) (by kernel_rfl) rfl (fun _ _ => rfl) (by kernel_rfl) (by kernel_rfl) (by kernel_rfl) (fun _ _ _ h => h) (Or.inl ⟨by kernel_rfl, ?hm6x21⟩) (by assumption) ?rm6x21
          case hm6x21 => (intro w hSw; (try dsimp only at hSw); obtain ⟨hSa, hSb, hSc⟩ := hSw; have x0 := hSa.c1; have x1 := hSb.c1; have x2 := HOc.out w hSc; go_simp; try with_reducible rfl)
          (try simp only [Act.put, List.getElem_toArray, List.getElem_cons_zero, List.getElem_cons_succ, List.setIfInBounds_toArray, List.set_cons_zero, List.set_cons_succ])
          refine hi_take (i := 7) (v := ?vm7x24) (by kernel_rfl) rfl (fun _ _ => rfl) (by kernel_rfl) (by kernel_rfl) (by kernel_rfl) (fun _ _ _ h => h) (Or.inl ⟨by kernel_rfl, ?hm7x24⟩) (by assumption) ?rm7x24
          case hm7x24 => (intro w hSw; (try dsimp only at hSw); obtain ⟨hSa, hSb, hSc⟩ := hSw; have x0 := hSa.c1; have x1 := hSb.c1; have x2 := HOc.out w hSc; go_simp; try with_reducible rfl)
          (try simp only [Act.put, List.getElem_toArray, List.getElem_cons_zero, List.getElem_cons_succ, List.setIfInBounds_toArray, List.set_cons_zero, List.set_cons_succ])
          refine hi_take (i := 8) (v := ?vm8x27) (by kernel_rfl) rfl (fun _ _ => rfl) (by kernel_rfl) (by kernel_rfl) (by kernel_rfl) (fun _ _ _ h => h) (Or.inl ⟨by kernel_rfl, ?hm8x27⟩) (by assumption) ?rm8x27
          case hm8x27 => (intro w hSw; (try dsimp only at hSw); obtain ⟨hSa, hSb, hSc⟩ := hSw; have x0 := hSa.c1; have x1 := hSb.c1; have x2 := HOc.out w hSc; go_simp; try with_reducible rfl)
          (try simp only [Act.put, List.getElem_toArray, List.getElem_cons_zero, List.getElem_cons_succ, List.setIfInBounds_toArray, List.set_cons_zero, List.set_cons_succ])
          refine hi_take (i := 9) (v := ?vm9x30) (by kernel_rfl) rfl (fun _ _ => rfl) (by kernel_rfl) (by kernel_rfl) (by kernel_rfl) (fun _ _ _ h => h) (Or.inl ⟨by kernel_rfl, ?hm9x30⟩) (by assumption) ?rm9x30
          case hm9x30 => (intro w hSw; (try dsimp only at hSw); obtain ⟨hSa, hSb, hSc⟩ := hSw; have x0 := hSa.c1; have x1 := hSb.c1; have x2 := HOc.out w hSc; go_simp; try with_reducible rfl)
          (try simp only [Act.put, List.getElem_toArray, List.getElem_cons_zero, List.getElem_cons_succ, List.setIfInBounds_toArray, List.set_cons_zero, List.set_cons_succ])
          refine hi_ready (rs := [5]) (by kernel_rfl) (by simp) ?_
          refine ReadyHI.cons rfl (fun K hK => ?_) ReadyHI.nil
          obtain ⟨⟨k2, k3⟩, -⟩ := HKt.out t ht _ E11.out.k
          go_simp
          refine hK.out _ _ ?_ (fun hHeld => ?_)
          · (try dsimp only); exact hHeld
          clear hK K
          clear k2 k3
          refine hi_ready (rs := [10]) (by kernel_rfl) (by simp) ?_
          refine ReadyHI.cons rfl (fun K hK => ?_) ReadyHI.nil
          go_simp
          gi_wp2_with fail
          refine ⟨trivial, (CallsIn.inRound lp (callsIn_wide.2 (HWt.out _))).mono ?_⟩
          rintro e W12 ⟨rfl, hB12⟩
          gi_wp2
          refine hK.out _ _ ?_ (fun hHeld => ?_)
          · (try dsimp only); exact ⟨At.below hB12.out hHeld.1, At.below hB12.out hHeld.2.1, At.below hB12.out hHeld.2.2⟩
          clear hK K
          have E12 := hidb (E11.out.below hB12.out)
          have KW12 := hidb hB12.out
          obtain ⟨⟨k2, k3⟩, g2, g3⟩ := HKt.out t ht _ E12.out.k
          clear hB12
          refine hi_take (i := 11) (v := ?vm11x55) (by kernel_rfl) rfl (fun _ _ => rfl) (by kernel_rfl) (by kernel_rfl) (by kernel_rfl) (fun _ _ _ h => h) (Or.inl ⟨by kernel_rfl, ?hm11x55⟩) (by assumption) ?rm11x55
          case hm11x55 => (intro w hSw; (try dsimp only at hSw); obtain ⟨hSa, hSb, hSc⟩ := hSw; have x0 := hSa.c1; have x1 := hSb.c1; have x2 := HOc.out w hSc; go_simp; try with_reducible rfl)
          (try simp only [Act.put, List.getElem_toArray, List.getElem_cons_zero, List.getElem_cons_succ, List.setIfInBounds_toArray, List.set_cons_zero, List.set_cons_succ])
          refine hi_ready (rs := [12]) (by kernel_rfl) (by simp) ?_
          refine ReadyHI.cons rfl (fun K hK => ?_) ReadyHI.nil
          go_simp
          refine hK.out _ _ ?_ (fun hHeld => ?_)
          · (try dsimp only); exact ⟨(hHeld.1.skip NK.out.1 _ _).skip NK.out.1 _ _, (hHeld.2.1.skip NK.out.2.1 _ _).skip NK.out.2.1 _ _, (hHeld.2.2.skip NK.out.2.2 _ _).skip NK.out.2.2 _ _⟩
          clear hK K
          refine hi_doneN (by kernel_rfl) ?_ _
          have HF13 : Hid (KeepsFrom w4.heap.size W ((W12.setCell ⟨RK, 2 * t, none⟩ (.int .i64 ((wth (s.2 t) (rkO (s.2 c))).1 : Int))).setCell ⟨RK, 2 * t + 1, none⟩ (.int .i64 ((wth (s.2 t) (rkO (s.2 c))).2 : Int))) ∧ KpB w2.heap.size X W ((W12.setCell ⟨RK, 2 * t, none⟩ (.int .i64 ((wth (s.2 t) (rkO (s.2 c))).1 : Int))).setCell ⟨RK, 2 * t + 1, none⟩ (.int .i64 ((wth (s.2 t) (rkO (s.2 c))).2 : Int))) ∧ GS ((W12.setCell ⟨RK, 2 * t, none⟩ (.int .i64 ((wth (s.2 t) (rkO (s.2 c))).1 : Int))).setCell ⟨RK, 2 * t + 1, none⟩ (.int .i64 ((wth (s.2 t) (rkO (s.2 c))).2 : Int))) Z O8 O9 OUT RK F FL IS N [.pointer (some ⟨F, 0, none⟩), .slice (some ⟨IS, 0, none⟩) N N, .slice (some ⟨IN, 0, none⟩) N N] (fsV m n Lb Lo Lcap N LV FL (.slice (some ⟨ob, 0, none⟩) N ocap) vq) Fl (bF N (stB m n l q)) (iF N (fun c => ((sF m n l q (pre ++ [x])).1 c : Int))) (iF (2 * N) (kfn (sF m n l q (pre ++ [x])).2)) ∧ Below w2.heap.size w2 ((W12.setCell ⟨RK, 2 * t, none⟩ (.int .i64 ((wth (s.2 t) (rkO (s.2 c))).1 : Int))).setCell ⟨RK, 2 * t + 1, none⟩ (.int .i64 ((wth (s.2 t) (rkO (s.2 c))).2 : Int)))) := by
            obtain ⟨k1, k2, k3, k4⟩ := KW10.out
            have g11 : Gr W10 W11 := by rw [← HW11.out]; exact (Gr.refl W10).drew
            have g12 := Gr.step g11 KW12.out
            refine ⟨((k1.trans (keeps_below g12.out)).trans ((KeepsOthers.setCell _ _ _).trans (KeepsOthers.setCell _ _ _))).from _, (k2.trans (KpB.below g12.out k4)).trans ((KpB.set HNm.out.2.2.1 (fun e => HAp.out.2.1.2.2.2.2.2.2 e.symm) _ _).trans (KpB.set HNm.out.2.2.1 (fun e => HAp.out.2.1.2.2.2.2.2.2 e.symm) _ _)), ?_, ((k3.trans (g12.out.mono k4)).setCell (p := ⟨RK, 2 * t, none⟩) HNm.out.2.2.1 _).setCell (p := ⟨RK, 2 * t + 1, none⟩) HNm.out.2.2.1 _⟩
            rw [HSn.out]
            have := (E12.out.putK HAp.out (2 * t) ((wth (s.2 t) (rkO (s.2 c))).1 : Int)).putK HAp.out (2 * t + 1) ((wth (s.2 t) (rkO (s.2 c))).2 : Int)
            rw [HKL.out, HKs.out] at this
            exact this
          clear k2 k3 g2 g3
          gi_wp2
          exact HF13.out

end Go.Proofs.YtlhligeicnejbaaDoor
