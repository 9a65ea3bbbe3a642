/-
  Contracts of the library, laid at this dump by the shelf's own command, in its plain mode: slices_Delete_int_cells.; shape.thinner.drop.
-/
import Derived.Test.YtnadgoomkaldkaaDoorQTk
import Derived.Shelf.Slices.Delete
import Derived.Shelf.Slices.Cells
import Derived.Shelf.Slices.Empties
import Derived.Test.YtnadgoomkaldkaaDoorProg
import Derived.Test.YtnadgoomkaldkaaDoorQTgL
namespace Go.Proofs
open Go.Shelf
def Tryd.laysNm223_ren : Go.Shelf.Ren := ⟨fun | 23 => 73 | n => n, fun | 22 => 37 | 3 => 3 | 4 => 4 | 0 => 0 | n => n, fun | n => n⟩
theorem Tryd.laysNm223 : Go.Proofs.Lays2.n23 Tryd.prog Tryd.laysNm223_ren := {
  mixed := by kernel_rfl
  f23 := Tryd.func73.trans (congrArg some (by kernel_rfl))
  t0 := Tryd.underlying0
  a0 := Tryd.isAgg0
  z0 := Tryd.sizeOf0
  v0 := Tryd.zeroValue0
  t3 := Tryd.underlying3
  a3 := Tryd.isAgg3
  z3 := Tryd.sizeOf3
  v3 := Tryd.zeroValue3
  t4 := Tryd.underlying4
  a4 := Tryd.isAgg4
  z4 := Tryd.sizeOf4
  v4 := Tryd.zeroValue4
  t22 := Tryd.underlying37
  a22 := Tryd.isAgg37
  z22 := Tryd.sizeOf37
  v22 := Tryd.zeroValue37
  i3 := by kernel_rfl }
open Go.RowKit Go.Lib Go.Sort in
theorem Tryd.slices_Delete_int_cells (b off n c i j : Nat) (zs : List Int) (w : World) (hz : n ≤ zs.length) (hcap : n ≤ c) (hm : c ≤ 9223372036854775807) (hij : i ≤ j) (hj : j ≤ n) (hc : ∀ j, j < zs.length → w.cell? ⟨b, off + j, none⟩ = some (.int .i64 (zs.getD j 0))) (hf : ∀ j, j < n → w.frozen? ⟨b, off + j, none⟩ = false) :
    Calls Tryd.prog 73 #[.slice (some ⟨b, off, none⟩) n c, .int .i64 i, .int .i64 j] w fun e w' => e = .returned (.slice (some ⟨b, off, none⟩) (n - (j - i)) c) ∧ ∃ q, w' = (w.drewN q).setCells b off (((zs.take n).take i ++ (zs.take n).drop j ++ List.replicate (j - i) 0).map (Value.int .i64)) := Any.slices_Delete_int_cells Tryd.laysNm223 b off n c i j zs w hz hcap hm hij hj hc hf
end Go.Proofs
namespace Go.Proofs.YtnadgoomkaldkaaDoor
open Go.RowKit
attribute [local go_sem ↓] Go.wp_at_zero Go.wp_at_succ

theorem Ow.setCs {A : Nat} {a : World} : ∀ (vs : List Value) (o : Nat) (b : World), Ow A a b → Ow A a (b.setCells A o vs)
  | [], _, _, h => h
  | v :: r, o, _b, h => Ow.setCs r (o + 1) _ (h.set o v)
theorem At.setCsG {B : Nat} : ∀ (vs : List Value) (o : Nat) (W : World) (l : List Value), At W B l → o + vs.length = l.length → At (W.setCells B o vs) B (l.take o ++ vs)
  | [], o, W, l, h, e => by
    have : l.take o = l := List.take_of_length_le (by simp at e; omega)
    rw [List.append_nil, this]
    exact h
  | v :: r, o, W, l, h, e => by
    have ho : o < l.length := by simp at e; omega
    have := At.setCsG r (o + 1) _ (l.set o v) (h.put o v) (by simp at e ⊢; omega)
    rw [show (l.set o v).take (o + 1) = l.take o ++ [v] by
      rw [List.take_succ_eq_append_getElem (by simpa using ho), List.getElem_set_self, List.take_set_of_le (by omega)]] at this
    have e2 : W.setCells B o (v :: r) = (W.setCell ⟨B, o, none⟩ v).setCells B (o + 1) r := rfl
    rw [e2]
    simpa using this
theorem At.setAll {B : Nat} {vs : List Value} {W : World} {l : List Value} (h : At W B l) (e : vs.length = l.length) : At (W.setCells B 0 vs) B vs := by
  have := At.setCsG vs 0 W l h (by omega)
  simpa using this
theorem At.prefix {W : World} {B : Nat} {xs ys : List Value} (h : At W B (xs ++ ys)) : At W B xs := by
  refine ⟨fun i hi => ?_, h.2⟩
  have := h.1 i (by simp; omega)
  rw [List.getElem_append_left hi] at this
  exact this
theorem del_at {W : World} {Bk q L k : Nat} {l : List Nat} (h : At W Bk (irn l)) (hL : l.length = L) (hk : k < L) : At ((W.drewN q).setCells Bk 0 (((((l.map (fun (x : Nat) => (x : Int))).take L).take k ++ ((l.map (fun (x : Nat) => (x : Int))).take L).drop (k + 1) ++ List.replicate (k + 1 - k) 0).map (Value.int .i64)))) Bk (irn (l.eraseIdx k)) := by
  have e : (((l.map (fun (x : Nat) => (x : Int))).take L).take k ++ ((l.map (fun (x : Nat) => (x : Int))).take L).drop (k + 1) ++ List.replicate (k + 1 - k) 0).map (Value.int .i64) = irn (l.eraseIdx k) ++ [.int .i64 0] := by
    have hm : (l.map (fun (x : Nat) => (x : Int))).take L = l.map (fun (x : Nat) => (x : Int)) := List.take_of_length_le (by simp; omega)
    rw [hm, show k + 1 - k = 1 by omega, List.eraseIdx_eq_take_drop_succ]
    simp [irn, Function.comp_def]
  rw [e]
  refine At.prefix (ys := [.int .i64 0]) (At.setAll (At.drewN h q) ?_)
  simp [irn, List.length_eraseIdx, hL, hk]
  omega
section
variable {w W : World} {T SP cS GO CL AR cA : Nat} {B cp : Nat → Nat} {most : Int} {S : List Sp} {A : List (List Nat)} {G : List Bool} {C : List Nat}
set_option maxRecDepth 4000 in
set_option maxHeartbeats 16000000 in
theorem drop_any (h : TH w W T SP cS GO CL AR cA B cp most S A G C) (hN : NI S A G C) {i k : Nat} (hi : i < A.length) (h0 : 0 < k) (hk : k + 1 < (ax A i).length) (hll : (ax A i).length ≤ 5000) : Calls Tryd.prog 50 #[.pointer (some ⟨T, 0, none⟩), .int .i64 (i : Int), .int .i64 (k : Int)] W fun e w' => e = .returned (.tuple #[]) ∧ TH w w' T SP cS GO CL AR cA B cp most S (woA A i k) (G.set (nn A i k) true) ((C.set (nn A i (k - 1)) 0).set (nn A i (k + 1)) 0) := by
  have y0 := hN.lt i hi (k - 1) (by omega)
  have y1 := hN.lt i hi k (by omega)
  have y2 := hN.lt i hi (k + 1) hk
  have hkl : k < (ax A i).length := by omega
  have HNm := hidb (fun W' G' C' (hT : TH w W' T SP cS GO CL AR cA B cp most S A G' C') => And.intro (at5 hT.t) (And.intro (hT.num hi (m := k - 1) (by omega)).1 (And.intro (hT.num hi (m := k) (by omega)).1 (hT.num hi (m := k + 1) hk).1)))
  have HAr := hidb (fun W' G' C' (hT : TH w W' T SP cS GO CL AR cA B cp most S A G' C') => hT.arc hi)
  have HDl : Hid (∀ W' G' C', TH w W' T SP cS GO CL AR cA B cp most S A G' C' → Calls Tryd.prog 73 #[.slice (some ⟨B i, 0, none⟩) (ax A i).length (cp i), .int .i64 (k : Int), .int .i64 ((k + 1 : Nat) : Int)] W' fun e w' => e = .returned (.slice (some ⟨B i, 0, none⟩) ((ax A i).length - 1) (cp i)) ∧ At w' (B i) (irn ((ax A i).eraseIdx k)) ∧ Ow (B i) W' w') := by
    intro W' G' C' hT
    obtain ⟨b1, b2, b3⟩ := hT.b i hi
    have := Tryd.slices_Delete_int_cells (B i) 0 (ax A i).length (cp i) k (k + 1) ((ax A i).map (fun (x : Nat) => (x : Int))) W' (by simp) b2 b3 (by omega) (by omega) (fun j hj => by
      have hj2 : j < (ax A i).length := by simpa using hj
      have := (irn_at b1 hj2).1
      rw [Nat.zero_add, this]
      simp [hj2]) (fun j hj => by rw [Nat.zero_add]; exact (irn_at b1 hj).2)
    refine this.mono ?_
    rintro e w' ⟨rfl, q, rfl⟩
    exact ⟨by rw [show k + 1 - k = 1 by omega], del_at b1 rfl hkl, Ow.setCs _ _ _ ⟨rfl, rfl, rfl, Nat.le_refl _, fun _ _ _ => rfl⟩⟩
  have HG := hidb (fun W' G' C' (hT : TH w W' T SP cS GO CL AR cA B cp most S A G' C') (hl : G'.length = S.length) => hT.gon (y := nn A i k) (by rw [hl]; exact y1))
  have HC0 := hidb (fun W' G' C' (hT : TH w W' T SP cS GO CL AR cA B cp most S A G' C') (hl : C'.length = S.length) => hT.clr (x := nn A i (k - 1)) (by rw [hl]; exact y0))
  have HC2 := hidb (fun W' G' C' (hT : TH w W' T SP cS GO CL AR cA B cp most S A G' C') (hl : C'.length = S.length) => hT.clr (x := nn A i (k + 1)) (by rw [hl]; exact y2))
  have HCut := hidb (fun W1 W' G' C' (hT : TH w W1 T SP cS GO CL AR cA B cp most S A G' C') (hl : At W' (B i) (irn ((ax A i).eraseIdx k))) (hO : Ow (B i) W1 W') => hT.cut hi hkl hl hO)
  have HArO : Hid (∀ W1 W' G' C', TH w W1 T SP cS GO CL AR cA B cp most S A G' C' → Ow (B i) W1 W' → (W'.cell? ⟨AR, i, none⟩ = some (.slice (some ⟨B i, 0, none⟩) (ax A i).length (cp i)) ∧ W'.frozen? ⟨AR, i, none⟩ = false) ∧ W'.cell? ⟨T, 4, none⟩ = some (.slice (some ⟨AR, 0, none⟩) A.length cA)) := fun W1 W' G' C' hT hO => by
    have a2 := hT.a.ow hO (fun e => (hT.nb i hi).2.2.2.2 e.symm)
    have t2 := hT.t.ow hO (fun e => (hT.nb i hi).1 e.symm)
    have := a2.1 i (by rw [arv_len]; exact hi)
    rw [arv_get] at this
    exact ⟨this, (at5 t2).2.2.2.2⟩
  have HLn := hidb (And.intro hN.gl hN.cll)
  have F := hidb h
  have i0 := fun w => iindex0 (B i) (ax A i).length (cp i) (k - 1) (by omega) w
  have i1 := fun w => iindex0 (B i) (ax A i).length (cp i) k hkl w
  have i2 := fun w => iindex0 (B i) (ax A i).length (cp i) (k + 1) hk w
  have c0 := fun w => iindex0 CL S.length S.length _ y0 w
  have c2 := fun w => iindex0 CL S.length S.length _ y2 w
  have g1 := fun w => bindex0 GO S.length S.length _ y1 w
  have ai : ∀ w, (Instr.indexAt 34 (.slice (some ⟨AR, 0, none⟩) A.length cA) (.int .i64 (i : Int))).run Tryd.prog w = .ok (.pointer (some ⟨AR, i, none⟩)) w := fun w => by
    have := tindex AR A.length cA i hi w
    rw [Nat.zero_add] at this
    exact this
  have em : IntKind.i64.wrap ((k : Int) - 1) = ((k - 1 : Nat) : Int) := by rw [show (k : Int) - 1 = ((k - 1 : Nat) : Int) by omega]; exact wr_in (by omega) (by omega)
  have en : IntKind.i64.wrap ((k : Int) + 1) = ((k + 1 : Nat) : Int) := by rw [show (k : Int) + 1 = ((k + 1 : Nat) : Int) by omega]; exact wr_in (by omega) (by omega)
  generalize nn A i (k - 1) = x0 at *
  generalize nn A i k = x1 at *
  generalize nn A i (k + 1) = x2 at *
  generalize hk0 : k - 1 = k0 at *
  generalize hk2 : k + 1 = k2 at *
  generalize hL1 : (ax A i).length - 1 = L1 at *
  generalize hL : (ax A i).length = L at *
  generalize hM : A.length = M at *
  generalize hn : S.length = n at *
  generalize B i = Bi at *
  generalize cp i = ci at *
  clear h hN hi h0 hk hll y0 y1 y2 hkl hk0 hk2
  go_enter Tryd.func50, Tryd.ntmps50
  have t4 := (HNm.out _ _ _ F.out).1.2.2.2.2
  have cA0 := (HAr.out _ _ _ F.out).1
  go_upto_region 1 with fail
  clear t4 cA0
  refine wp_region_held_drew (S := (fun w' => (w'.cell? ⟨T, 0, none⟩ = some (.int .i64 most) ∧ w'.cell? ⟨T, 1, none⟩ = some (.slice (some ⟨SP, 0, none⟩) n cS) ∧ w'.cell? ⟨T, 2, none⟩ = some (.slice (some ⟨GO, 0, none⟩) n n) ∧ w'.cell? ⟨T, 3, none⟩ = some (.slice (some ⟨CL, 0, none⟩) n n) ∧ w'.cell? ⟨T, 4, none⟩ = some (.slice (some ⟨AR, 0, none⟩) M cA)) ∧ w'.cell? ⟨Bi, k0, none⟩ = some (.int .i64 (x0 : Int)) ∧ w'.cell? ⟨Bi, k, none⟩ = some (.int .i64 (x1 : Int)) ∧ w'.cell? ⟨Bi, k2, none⟩ = some (.int .i64 (x2 : Int)))) (by kernel_rfl) ?_ (fun hHeld => ?_)
  · (try dsimp only); exact HNm.out _ _ _ F.out.drew
  replace F := hidb F.out.drew
  generalize W.drew = W1 at *
  refine wt (i := 0) (v := ?vd1q0x4) rfl ?hd1q0x4 ?rd1q0x4
  case hd1q0x4 => (intro w hSw; (try dsimp only at hSw); obtain ⟨⟨z0, z1, z2, z3, z4⟩, z5, z6, z7⟩ := hSw; go_simp; try with_reducible rfl)
  (try simp only [Act.put, lq1, lq2, lq4, lq5, lq6])
  refine wt (i := 1) (v := ?vd1q1x7) rfl ?hd1q1x7 ?rd1q1x7
  case hd1q1x7 => (intro w hSw; (try dsimp only at hSw); obtain ⟨⟨z0, z1, z2, z3, z4⟩, z5, z6, z7⟩ := hSw; go_simp; try with_reducible rfl)
  (try simp only [Act.put, lq1, lq2, lq3, lq4, lq5, lq6])
  refine wt (i := 2) (v := ?vd1q2x10) rfl ?hd1q2x10 ?rd1q2x10
  case hd1q2x10 => (intro w hSw; (try dsimp only at hSw); obtain ⟨⟨z0, z1, z2, z3, z4⟩, z5, z6, z7⟩ := hSw; go_simp; try with_reducible rfl)
  (try simp only [Act.put, lq1, lq2, lq3, lq4, lq5, lq6])
  refine wt (i := 3) (v := ?vd1q3x13) rfl ?hd1q3x13 ?rd1q3x13
  case hd1q3x13 => (intro w hSw; (try dsimp only at hSw); obtain ⟨⟨z0, z1, z2, z3, z4⟩, z5, z6, z7⟩ := hSw; go_simp; try with_reducible rfl)
  (try simp only [Act.put, lq1, lq2, lq3, lq4, lq5, lq6])
  refine wt (i := 4) (v := ?vd1q4x16) rfl ?hd1q4x16 ?rd1q4x16
  case hd1q4x16 => (intro w hSw; (try dsimp only at hSw); obtain ⟨⟨z0, z1, z2, z3, z4⟩, z5, z6, z7⟩ := hSw; go_simp; try with_reducible rfl)
  (try simp only [Act.put, lq1, lq2, lq3, lq4, lq5, lq6])
  refine wt (i := 5) (v := ?vd1q5x19) rfl ?hd1q5x19 ?rd1q5x19
  case hd1q5x19 => (intro w hSw; (try dsimp only at hSw); obtain ⟨⟨z0, z1, z2, z3, z4⟩, z5, z6, z7⟩ := hSw; go_simp; try with_reducible rfl)
  (try simp only [Act.put, lq1, lq2, lq3, lq4, lq5, lq6])
  refine wt (i := 6) (v := ?vd1q6x22) rfl ?hd1q6x22 ?rd1q6x22
  case hd1q6x22 => (intro w hSw; (try dsimp only at hSw); obtain ⟨⟨z0, z1, z2, z3, z4⟩, z5, z6, z7⟩ := hSw; go_simp; try with_reducible rfl)
  (try simp only [Act.put, lq1, lq2, lq3, lq4, lq5, lq6])
  refine wt (i := 7) (v := ?vd1q7x25) rfl ?hd1q7x25 ?rd1q7x25
  case hd1q7x25 => (intro w hSw; (try dsimp only at hSw); obtain ⟨⟨z0, z1, z2, z3, z4⟩, z5, z6, z7⟩ := hSw; go_simp; try with_reducible rfl)
  (try simp only [Act.put, lq1, lq2, lq3, lq4, lq5, lq6])
  refine wt (i := 8) (v := ?vd1q8x28) rfl ?hd1q8x28 ?rd1q8x28
  case hd1q8x28 => (intro w hSw; (try dsimp only at hSw); obtain ⟨⟨z0, z1, z2, z3, z4⟩, z5, z6, z7⟩ := hSw; go_simp; try with_reducible rfl)
  (try simp only [Act.put, lq1, lq2, lq3, lq4, lq5, lq6])
  refine wpAnyH_ready (rs := [9]) (by kernel_rfl) (by simp) ?_
  refine AllReadyH.cons rfl (fun K hK => ?_) AllReadyH.nil
  obtain ⟨d0, d1⟩ := HG.out _ _ _ F.out HLn.out.1
  go_simp
  refine hK.out _ _ ?_ (fun hHeld => ?_)
  · (try dsimp only); exact HNm.out _ _ _ (F.out.setG x1)
  clear hK K
  clear d0 d1
  replace F := hidb (F.out.setG x1)
  generalize W1.setCell ⟨GO, x1, none⟩ (.bool true) = V1 at *
  refine wpAnyH_done (by kernel_rfl) ?_ _
  go_upto_region 2 with fail
  refine wp_region_held_drew (S := (fun w' => (w'.cell? ⟨T, 0, none⟩ = some (.int .i64 most) ∧ w'.cell? ⟨T, 1, none⟩ = some (.slice (some ⟨SP, 0, none⟩) n cS) ∧ w'.cell? ⟨T, 2, none⟩ = some (.slice (some ⟨GO, 0, none⟩) n n) ∧ w'.cell? ⟨T, 3, none⟩ = some (.slice (some ⟨CL, 0, none⟩) n n) ∧ w'.cell? ⟨T, 4, none⟩ = some (.slice (some ⟨AR, 0, none⟩) M cA)) ∧ w'.cell? ⟨Bi, k0, none⟩ = some (.int .i64 (x0 : Int)) ∧ w'.cell? ⟨Bi, k, none⟩ = some (.int .i64 (x1 : Int)) ∧ w'.cell? ⟨Bi, k2, none⟩ = some (.int .i64 (x2 : Int)))) (by kernel_rfl) ?_ (fun hHeld => ?_)
  · (try dsimp only); exact HNm.out _ _ _ F.out.drew
  replace F := hidb F.out.drew
  generalize V1.drew = W2 at *
  refine wt (i := 0) (v := ?vd2q0x4) rfl ?hd2q0x4 ?rd2q0x4
  case hd2q0x4 => (intro w hSw; (try dsimp only at hSw); obtain ⟨⟨z0, z1, z2, z3, z4⟩, z5, z6, z7⟩ := hSw; go_simp; try with_reducible rfl)
  (try simp only [Act.put, lq1, lq2, lq4, lq5, lq6])
  refine wt (i := 1) (v := ?vd2q1x7) rfl ?hd2q1x7 ?rd2q1x7
  case hd2q1x7 => (intro w hSw; (try dsimp only at hSw); obtain ⟨⟨z0, z1, z2, z3, z4⟩, z5, z6, z7⟩ := hSw; go_simp; try with_reducible rfl)
  (try simp only [Act.put, lq1, lq2, lq3, lq4, lq5, lq6])
  refine wt (i := 2) (v := ?vd2q2x10) rfl ?hd2q2x10 ?rd2q2x10
  case hd2q2x10 => (intro w hSw; (try dsimp only at hSw); obtain ⟨⟨z0, z1, z2, z3, z4⟩, z5, z6, z7⟩ := hSw; go_simp; try with_reducible rfl)
  (try simp only [Act.put, lq1, lq2, lq3, lq4, lq5, lq6])
  refine wt (i := 3) (v := ?vd2q3x13) rfl ?hd2q3x13 ?rd2q3x13
  case hd2q3x13 => (intro w hSw; (try dsimp only at hSw); obtain ⟨⟨z0, z1, z2, z3, z4⟩, z5, z6, z7⟩ := hSw; go_simp; try with_reducible rfl)
  (try simp only [Act.put, lq1, lq2, lq3, lq4, lq5, lq6])
  refine wt (i := 4) (v := ?vd2q4x16) rfl ?hd2q4x16 ?rd2q4x16
  case hd2q4x16 => (intro w hSw; (try dsimp only at hSw); obtain ⟨⟨z0, z1, z2, z3, z4⟩, z5, z6, z7⟩ := hSw; go_simp; try with_reducible rfl)
  (try simp only [Act.put, lq1, lq2, lq3, lq4, lq5, lq6])
  refine wt (i := 5) (v := ?vd2q5x19) rfl ?hd2q5x19 ?rd2q5x19
  case hd2q5x19 => (intro w hSw; (try dsimp only at hSw); obtain ⟨⟨z0, z1, z2, z3, z4⟩, z5, z6, z7⟩ := hSw; go_simp; try with_reducible rfl)
  (try simp only [Act.put, lq1, lq2, lq3, lq4, lq5, lq6])
  refine wt (i := 6) (v := ?vd2q6x22) rfl ?hd2q6x22 ?rd2q6x22
  case hd2q6x22 => (intro w hSw; (try dsimp only at hSw); obtain ⟨⟨z0, z1, z2, z3, z4⟩, z5, z6, z7⟩ := hSw; go_simp; try with_reducible rfl)
  (try simp only [Act.put, lq1, lq2, lq3, lq4, lq5, lq6])
  refine wt (i := 7) (v := ?vd2q7x25) rfl ?hd2q7x25 ?rd2q7x25
  case hd2q7x25 => (intro w hSw; (try dsimp only at hSw); obtain ⟨⟨z0, z1, z2, z3, z4⟩, z5, z6, z7⟩ := hSw; go_simp; try with_reducible rfl)
  (try simp only [Act.put, lq1, lq2, lq3, lq4, lq5, lq6])
  refine wt (i := 8) (v := ?vd2q8x28) rfl ?hd2q8x28 ?rd2q8x28
  case hd2q8x28 => (intro w hSw; (try dsimp only at hSw); obtain ⟨⟨z0, z1, z2, z3, z4⟩, z5, z6, z7⟩ := hSw; go_simp; try with_reducible rfl)
  (try simp only [Act.put, lq1, lq2, lq3, lq4, lq5, lq6])
  refine wt (i := 9) (v := ?vd2q9x31) rfl ?hd2q9x31 ?rd2q9x31
  case hd2q9x31 => (intro w hSw; (try dsimp only at hSw); obtain ⟨⟨z0, z1, z2, z3, z4⟩, z5, z6, z7⟩ := hSw; go_simp; try with_reducible rfl)
  (try simp only [Act.put, lq1, lq2, lq3, lq4, lq5, lq6])
  refine wt (i := 10) (v := ?vd2q10x34) rfl ?hd2q10x34 ?rd2q10x34
  case hd2q10x34 => (intro w hSw; (try dsimp only at hSw); obtain ⟨⟨z0, z1, z2, z3, z4⟩, z5, z6, z7⟩ := hSw; go_simp; try with_reducible rfl)
  (try simp only [Act.put, lq1, lq2, lq3, lq4, lq5, lq6])
  refine wt (i := 11) (v := ?vd2q11x37) rfl ?hd2q11x37 ?rd2q11x37
  case hd2q11x37 => (intro w hSw; (try dsimp only at hSw); obtain ⟨⟨z0, z1, z2, z3, z4⟩, z5, z6, z7⟩ := hSw; go_simp; try with_reducible rfl)
  (try simp only [Act.put, lq1, lq2, lq3, lq4, lq5, lq6])
  refine wt (i := 12) (v := ?vd2q12x40) rfl ?hd2q12x40 ?rd2q12x40
  case hd2q12x40 => (intro w hSw; (try dsimp only at hSw); obtain ⟨⟨z0, z1, z2, z3, z4⟩, z5, z6, z7⟩ := hSw; go_simp; try with_reducible rfl)
  (try simp only [Act.put, lq1, lq2, lq3, lq4, lq5, lq6])
  refine wt (i := 13) (v := ?vd2q13x43) rfl ?hd2q13x43 ?rd2q13x43
  case hd2q13x43 => (intro w hSw; (try dsimp only at hSw); obtain ⟨⟨z0, z1, z2, z3, z4⟩, z5, z6, z7⟩ := hSw; go_simp; try with_reducible rfl)
  (try simp only [Act.put, lq1, lq2, lq3, lq4, lq5, lq6])
  refine wt (i := 14) (v := ?vd2q14x46) rfl ?hd2q14x46 ?rd2q14x46
  case hd2q14x46 => (intro w hSw; (try dsimp only at hSw); obtain ⟨⟨z0, z1, z2, z3, z4⟩, z5, z6, z7⟩ := hSw; go_simp; try with_reducible rfl)
  (try simp only [Act.put, lq1, lq2, lq3, lq4, lq5, lq6])
  refine wt (i := 15) (v := ?vd2q15x49) rfl ?hd2q15x49 ?rd2q15x49
  case hd2q15x49 => (intro w hSw; (try dsimp only at hSw); obtain ⟨⟨z0, z1, z2, z3, z4⟩, z5, z6, z7⟩ := hSw; go_simp; try with_reducible rfl)
  (try simp only [Act.put, lq1, lq2, lq3, lq4, lq5, lq6])
  refine wt (i := 16) (v := ?vd2q16x52) rfl ?hd2q16x52 ?rd2q16x52
  case hd2q16x52 => (intro w hSw; (try dsimp only at hSw); obtain ⟨⟨z0, z1, z2, z3, z4⟩, z5, z6, z7⟩ := hSw; go_simp; try with_reducible rfl)
  (try simp only [Act.put, lq1, lq2, lq3, lq4, lq5, lq6])
  refine wt (i := 17) (v := ?vd2q17x55) rfl ?hd2q17x55 ?rd2q17x55
  case hd2q17x55 => (intro w hSw; (try dsimp only at hSw); obtain ⟨⟨z0, z1, z2, z3, z4⟩, z5, z6, z7⟩ := hSw; go_simp; try with_reducible rfl)
  (try simp only [Act.put, lq1, lq2, lq3, lq4, lq5, lq6])
  refine wt (i := 18) (v := ?vd2q18x58) rfl ?hd2q18x58 ?rd2q18x58
  case hd2q18x58 => (intro w hSw; (try dsimp only at hSw); obtain ⟨⟨z0, z1, z2, z3, z4⟩, z5, z6, z7⟩ := hSw; go_simp; try with_reducible rfl)
  (try simp only [Act.put, lq1, lq2, lq3, lq4, lq5, lq6])
  refine wpAnyH_ready (rs := [19]) (by kernel_rfl) (by simp) ?_
  refine AllReadyH.cons rfl (fun K hK => ?_) AllReadyH.nil
  obtain ⟨d0, d1⟩ := HC0.out _ _ _ F.out HLn.out.2
  go_simp
  refine hK.out _ _ ?_ (fun hHeld => ?_)
  · (try dsimp only); exact HNm.out _ _ _ (by simpa using F.out.setC x0 0)
  clear hK K
  clear d0 d1
  have F2 := hidb (F.out.setC x0 0)
  replace F := F2
  clear F2
  rw [show ((0 : Nat) : Int) = 0 from rfl] at F
  generalize W2.setCell ⟨CL, x0, none⟩ (.int .i64 0) = V2 at *
  refine wt (i := 20) (v := ?vd2q20x74) rfl ?hd2q20x74 ?rd2q20x74
  case hd2q20x74 => (intro w hSw; (try dsimp only at hSw); obtain ⟨⟨z0, z1, z2, z3, z4⟩, z5, z6, z7⟩ := hSw; go_simp; try with_reducible rfl)
  (try simp only [Act.put, lq1, lq2, lq3, lq4, lq5, lq6])
  refine wpAnyH_ready (rs := [21]) (by kernel_rfl) (by simp) ?_
  refine AllReadyH.cons rfl (fun K hK => ?_) AllReadyH.nil
  obtain ⟨d0, d1⟩ := HC2.out _ _ _ F.out (by rw [List.length_set]; exact HLn.out.2)
  go_simp
  refine hK.out _ _ ?_ (fun hHeld => ?_)
  · (try dsimp only); exact HNm.out _ _ _ (by simpa using F.out.setC x2 0)
  clear hK K
  clear d0 d1
  have F2 := hidb (F.out.setC x2 0)
  replace F := F2
  clear F2
  rw [show ((0 : Nat) : Int) = 0 from rfl] at F
  generalize V2.setCell ⟨CL, x2, none⟩ (.int .i64 0) = V3 at *
  refine wpAnyH_done (by kernel_rfl) ?_ _
  go_upto_region 3 with fail
  refine wp_region_held_drew (S := (fun w' => w'.cell? ⟨T, 4, none⟩ = some (.slice (some ⟨AR, 0, none⟩) M cA))) (by kernel_rfl) ?_ (fun hHeld => ?_)
  · (try dsimp only); exact (HNm.out _ _ _ F.out.drew).1.2.2.2.2
  replace F := hidb F.out.drew
  generalize V3.drew = W3 at *
  refine wt (i := 0) (v := ?vd3q0x4) rfl ?hd3q0x4 ?rd3q0x4
  case hd3q0x4 => (intro w hSw; (try dsimp only at hSw); have z4 := hSw; go_simp; try with_reducible rfl)
  (try simp only [Act.put, lq1, lq2, lq4, lq5, lq6])
  refine wt (i := 1) (v := ?vd3q1x7) rfl ?hd3q1x7 ?rd3q1x7
  case hd3q1x7 => (intro w hSw; (try dsimp only at hSw); have z4 := hSw; go_simp; try with_reducible rfl)
  (try simp only [Act.put, lq1, lq2, lq3, lq4, lq5, lq6])
  refine wt (i := 2) (v := ?vd3q2x10) rfl ?hd3q2x10 ?rd3q2x10
  case hd3q2x10 => (intro w hSw; (try dsimp only at hSw); have z4 := hSw; go_simp; try with_reducible rfl)
  (try simp only [Act.put, lq1, lq2, lq3, lq4, lq5, lq6])
  refine wt (i := 3) (v := ?vd3q3x13) rfl ?hd3q3x13 ?rd3q3x13
  case hd3q3x13 => (intro w hSw; (try dsimp only at hSw); have z4 := hSw; go_simp; try with_reducible rfl)
  (try simp only [Act.put, lq1, lq2, lq3, lq4, lq5, lq6])
  refine wt (i := 4) (v := ?vd3q4x16) rfl ?hd3q4x16 ?rd3q4x16
  case hd3q4x16 => (intro w hSw; (try dsimp only at hSw); have z4 := hSw; go_simp; try with_reducible rfl)
  (try simp only [Act.put, lq1, lq2, lq3, lq4, lq5, lq6])
  refine wt (i := 5) (v := ?vd3q5x19) rfl ?hd3q5x19 ?rd3q5x19
  case hd3q5x19 => (intro w hSw; (try dsimp only at hSw); have z4 := hSw; go_simp; try with_reducible rfl)
  (try simp only [Act.put, lq1, lq2, lq3, lq4, lq5, lq6])
  refine wt (i := 6) (v := ?vd3q6x22) rfl ?hd3q6x22 ?rd3q6x22
  case hd3q6x22 => (intro w hSw; (try dsimp only at hSw); have z4 := hSw; go_simp; try with_reducible rfl)
  (try simp only [Act.put, lq1, lq2, lq3, lq4, lq5, lq6])
  refine wt (i := 7) (v := ?vd3q7x25) rfl ?hd3q7x25 ?rd3q7x25
  case hd3q7x25 => (intro w hSw; (try dsimp only at hSw); have z4 := hSw; go_simp; try with_reducible rfl)
  (try simp only [Act.put, lq1, lq2, lq3, lq4, lq5, lq6])
  refine wt (i := 8) (v := ?vd3q8x28) rfl ?hd3q8x28 ?rd3q8x28
  case hd3q8x28 => (intro w hSw; (try dsimp only at hSw); have z4 := hSw; go_simp; try with_reducible rfl)
  (try simp only [Act.put, lq1, lq2, lq3, lq4, lq5, lq6])
  refine wpAnyH_ready (rs := [9]) (by kernel_rfl) (by simp) ?_
  refine AllReadyH.cons rfl (fun K hK => ?_) AllReadyH.nil
  go_simp
  go_wp2_with (go_at_call 73; refine (HDl.out _ _ _ F.out).mono ?_; rintro e V4 ⟨rfl, hAt, hO⟩)
  refine hK.out _ _ ?_ (fun hHeld => ?_)
  · (try dsimp only); exact (HArO.out _ _ _ _ F.out hO).2
  clear hK K
  have HA2 := hidb hAt
  have HO2 := hidb hO
  have HR2 := hidb (HArO.out _ _ _ _ F.out hO)
  clear hAt hO
  refine wt (i := 10) (v := ?vd3q10x42) rfl ?hd3q10x42 ?rd3q10x42
  case hd3q10x42 => (intro w hSw; (try dsimp only at hSw); have z4 := hSw; go_simp; try with_reducible rfl)
  (try simp only [Act.put, lq1, lq2, lq3, lq4, lq5, lq6])
  refine wpAnyH_ready (rs := [11]) (by kernel_rfl) (by simp) ?_
  refine AllReadyH.cons rfl (fun K hK => ?_) AllReadyH.nil
  obtain ⟨⟨d0, d1⟩, -⟩ := HR2.out
  go_simp
  refine hK.out _ _ ?_ (fun hHeld => ?_)
  · (try dsimp only); exact (at5 (HCut.out _ _ _ _ F.out HA2.out HO2.out).t).2.2.2.2 |> fun q => by first | exact q | (rw [woA_len, hM] at q; exact q)
  clear hK K
  clear d0 d1
  refine wpAnyH_done (by kernel_rfl) ?_ _
  exact bodyPost_end (results_none rfl _ _ _) rfl ⟨rfl, HCut.out _ _ _ _ F.out HA2.out HO2.out⟩
end
end Go.Proofs.YtnadgoomkaldkaaDoor
