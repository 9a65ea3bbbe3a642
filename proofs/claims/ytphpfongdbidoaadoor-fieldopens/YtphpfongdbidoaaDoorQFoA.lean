/-
  field.Open, Close (FoA.tpl, once for each).
-/
import Derived.Test.YtphpfongdbidoaaDoorQFaD
namespace Go.Proofs.YtphpfongdbidoaaDoor
open Go.RowKit

theorem At.rs {W : World} {B cap : Nat} {l : List Int} (h : At W B (ir l)) (hc : l.length ≤ cap) : Rs W B 0 cap l :=
  ⟨fun i hi => by have := (h.1 i (by simpa [ir] using hi)).1; simpa [ir] using this, h.lt, hc⟩
theorem ok_vcode {m n : Nat} {l : List Int} (ok : Ok l m n) : vcode m n l = 0 := by
  have h1 := ok.m1
  have h2 := ok.m2
  have h3 := ok.n1
  have h4 := ok.n2
  unfold vcode
  rw [if_neg (by omega), if_neg ?_, if_pos ?_]
  · intro x hx
    obtain ⟨i, hi, rfl⟩ := List.getElem_of_mem hx
    rw [gl_get hi]
    exact ok.hi i
  · rintro (h | h)
    · omega
    · exact h (by rw [ok.len, Int.natCast_mul])
theorem hcode_ok {m n r : Nat} {l : List Int} (hv : vcode m n l = 0) (hr : r ≤ 128) : hcode m n l r = 0 := by
  unfold hcode
  rw [if_pos hv, if_pos ?_]
  unfold inI
  simp
  omega
set_option maxRecDepth 4000 in
set_option maxHeartbeats 4000000 in
theorem Open_ok (g : Nat → Addr) {m n rch b o cap : Nat} {l : List Int} (w : World) (h : Rs w b o cap l) (ok : Ok l m n) (hl : Lai w g) (hr : rch ≤ 128) : Calls Tryd.prog 16 #[raV m n (.slice (some ⟨b, o, none⟩) l.length cap), .int .i64 (rch : Int)] w fun e w' => ∃ B, e = .returned (.tuple #[raV m n (.slice (some ⟨B, 0, none⟩) l.length l.length), .nilIface]) ∧ At w' B (ir (opL true l m n rch)) ∧ w.heap.size ≤ B ∧ Gr w w' := by
  have C1 := hidb (fun w1 (hB : Gr w w1) => Least_ok g w1 (h.below hB.out) ok (hl.below hB.out) (hcode_ok (ok_vcode ok) hr) hr)
  obtain ⟨L, hL⟩ : ∃ L, L = mpL (!true) l m n rch := ⟨_, rfl⟩
  have hLn : L.length = l.length := by rw [hL, mpL_len, ok.len, Nat.mul_comm]
  have okL : Ok L m n := by rw [hL]; exact mpL_ok ok
  have C2 : Hid (∀ w1 B, Gr w w1 → At w1 B (ir L) → Calls Tryd.prog 9 #[raV m n (.slice (some ⟨B, 0, none⟩) l.length l.length), .int .i64 (rch : Int)] w1 fun e w' => ∃ B, e = .returned (.tuple #[raV m n (.slice (some ⟨B, 0, none⟩) l.length l.length), .nilIface]) ∧ At w' B (ir (opL true l m n rch)) ∧ w1.heap.size ≤ B ∧ Gr w1 w') := fun w1 B hG hA => by
    have := Most_ok g w1 (At.rs hA (Nat.le_refl _)) okL (hl.below hG.out) (hcode_ok (ok_vcode okL) hr) hr
    rw [hLn, hL] at this
    exact this
  have C1' : Hid (∀ w1, Gr w w1 → Calls Tryd.prog 10 #[raV m n (.slice (some ⟨b, o, none⟩) l.length cap), .int .i64 (rch : Int)] w1 fun e w' => ∃ B, e = .returned (.tuple #[raV m n (.slice (some ⟨B, 0, none⟩) l.length l.length), .nilIface]) ∧ At w' B (ir L) ∧ Gr w1 w') := fun w1 hG => by
    refine (C1.out w1 hG).mono ?_
    rintro e w' ⟨B, rfl, hA, _, hB⟩
    exact ⟨B, rfl, by rw [hL]; exact hA, hB⟩
  obtain ⟨L2, hL2⟩ : ∃ L2, L2 = opL true l m n rch := ⟨_, rfl⟩
  rw [← hL2] at C2 ⊢
  have P0 : Hid (PrF w ((w.alloc (.cells #[.int .i64 m, .int .i64 n, .slice (some ⟨b, o, none⟩) l.length cap] 27)).alloc (.cells #[.int .i64 0, .int .i64 0, .slice none 0 0] 27)) [.int .i64 m, .int .i64 n, .slice (some ⟨b, o, none⟩) l.length cap]) := ⟨(At.new3 w (.int .i64 m) (.int .i64 n) (.slice (some ⟨b, o, none⟩) l.length cap) 27).alloc (.cells #[.int .i64 0, .int .i64 0, .slice none 0 0] 27), At.nx3 (W := w) (.cells #[.int .i64 m, .int .i64 n, .slice (some ⟨b, o, none⟩) l.length cap] 27) (.int .i64 0) (.int .i64 0) (.slice none 0 0) 27, ((Gr.refl w).alloc (.cells #[.int .i64 m, .int .i64 n, .slice (some ⟨b, o, none⟩) l.length cap] 27)).alloc (.cells #[.int .i64 0, .int .i64 0, .slice none 0 0] 27)⟩
  clear h ok hl hr C1 hL hLn okL hL2
  generalize (rch : Int) = rI at *
  go_enter Tryd.func16, Tryd.ntmps16
  go_wp2_with fail
  refine (C1'.out _ P0.out.gr).mono ?_
  rintro e w1 ⟨B, rfl, hA, hB⟩
  replace P0 := hidb (P0.out.below hB.out)
  have HA := hidb hA
  clear hB hA C1'
  go_upto_region 2 with fail
  have HC := hidb (At.new3 w1 (.int .i64 m) (.int .i64 n) (.slice (some ⟨B, 0, none⟩) l.length l.length) 27)
  replace P0 := hidb (P0.out.alloc (.cells #[.int .i64 m, .int .i64 n, .slice (some ⟨B, 0, none⟩) l.length l.length] 27))
  replace HA := hidb (HA.out.alloc (.cells #[.int .i64 m, .int .i64 n, .slice (some ⟨B, 0, none⟩) l.length l.length] 27))
  generalize w1.alloc (.cells #[.int .i64 m, .int .i64 n, .slice (some ⟨B, 0, none⟩) l.length l.length] 27) = w2 at *
  generalize w1.heap.size = C at *
  obtain ⟨c0, c1, c2⟩ := HC.out.c3
  have sz := hidb P0.out.a1.lt
  go_wp2_with fail
  refine (C2.out _ B P0.out.gr HA.out).mono ?_
  rintro e w3 ⟨B2, rfl, hA2, hw2, hB⟩
  replace P0 := hidb (P0.out.below hB.out)
  have HA2 := hidb hA2
  have HW2 := hidb (show w.heap.size + 1 < B2 by have := sz.out; omega)
  clear hB hA2 hw2 c0 c1 c2
  obtain ⟨a0, a1, a2⟩ := P0.out.a1.c3
  obtain ⟨f0, f1, f2⟩ := P0.out.a1.f3
  have AH := P0.out.a1.has (n := 3) rfl
  go_wp2
  refine bodyPost_ret (v := .tuple #[raV m n (.slice (some ⟨B2, 0, none⟩) l.length l.length), .nilIface]) (by simp [results, Tryd.results16, go_sem, a0, a1, a2]) rfl ⟨B2, rfl, ?_, by have := HW2.out; omega, ?_⟩
  · have hne : ¬ w.heap.size + 1 = B2 := by have := HW2.out; omega
    exact ((HA2.out.skip hne 0 _).skip hne 1 _).skip hne 2 _
  · exact ((P0.out.gr.set (by omega) _ _).set (by omega) _ _).set (by omega) _ _
set_option maxRecDepth 4000 in
set_option maxHeartbeats 4000000 in
theorem Close_ok (g : Nat → Addr) {m n rch b o cap : Nat} {l : List Int} (w : World) (h : Rs w b o cap l) (ok : Ok l m n) (hl : Lai w g) (hr : rch ≤ 128) : Calls Tryd.prog 17 #[raV m n (.slice (some ⟨b, o, none⟩) l.length cap), .int .i64 (rch : Int)] w fun e w' => ∃ B, e = .returned (.tuple #[raV m n (.slice (some ⟨B, 0, none⟩) l.length l.length), .nilIface]) ∧ At w' B (ir (opL false l m n rch)) ∧ w.heap.size ≤ B ∧ Gr w w' := by
  have C1 := hidb (fun w1 (hB : Gr w w1) => Most_ok g w1 (h.below hB.out) ok (hl.below hB.out) (hcode_ok (ok_vcode ok) hr) hr)
  obtain ⟨L, hL⟩ : ∃ L, L = mpL (!false) l m n rch := ⟨_, rfl⟩
  have hLn : L.length = l.length := by rw [hL, mpL_len, ok.len, Nat.mul_comm]
  have okL : Ok L m n := by rw [hL]; exact mpL_ok ok
  have C2 : Hid (∀ w1 B, Gr w w1 → At w1 B (ir L) → Calls Tryd.prog 10 #[raV m n (.slice (some ⟨B, 0, none⟩) l.length l.length), .int .i64 (rch : Int)] w1 fun e w' => ∃ B, e = .returned (.tuple #[raV m n (.slice (some ⟨B, 0, none⟩) l.length l.length), .nilIface]) ∧ At w' B (ir (opL false l m n rch)) ∧ w1.heap.size ≤ B ∧ Gr w1 w') := fun w1 B hG hA => by
    have := Least_ok g w1 (At.rs hA (Nat.le_refl _)) okL (hl.below hG.out) (hcode_ok (ok_vcode okL) hr) hr
    rw [hLn, hL] at this
    exact this
  have C1' : Hid (∀ w1, Gr w w1 → Calls Tryd.prog 9 #[raV m n (.slice (some ⟨b, o, none⟩) l.length cap), .int .i64 (rch : Int)] w1 fun e w' => ∃ B, e = .returned (.tuple #[raV m n (.slice (some ⟨B, 0, none⟩) l.length l.length), .nilIface]) ∧ At w' B (ir L) ∧ Gr w1 w') := fun w1 hG => by
    refine (C1.out w1 hG).mono ?_
    rintro e w' ⟨B, rfl, hA, _, hB⟩
    exact ⟨B, rfl, by rw [hL]; exact hA, hB⟩
  obtain ⟨L2, hL2⟩ : ∃ L2, L2 = opL false l m n rch := ⟨_, rfl⟩
  rw [← hL2] at C2 ⊢
  have P0 : Hid (PrF w ((w.alloc (.cells #[.int .i64 m, .int .i64 n, .slice (some ⟨b, o, none⟩) l.length cap] 27)).alloc (.cells #[.int .i64 0, .int .i64 0, .slice none 0 0] 27)) [.int .i64 m, .int .i64 n, .slice (some ⟨b, o, none⟩) l.length cap]) := ⟨(At.new3 w (.int .i64 m) (.int .i64 n) (.slice (some ⟨b, o, none⟩) l.length cap) 27).alloc (.cells #[.int .i64 0, .int .i64 0, .slice none 0 0] 27), At.nx3 (W := w) (.cells #[.int .i64 m, .int .i64 n, .slice (some ⟨b, o, none⟩) l.length cap] 27) (.int .i64 0) (.int .i64 0) (.slice none 0 0) 27, ((Gr.refl w).alloc (.cells #[.int .i64 m, .int .i64 n, .slice (some ⟨b, o, none⟩) l.length cap] 27)).alloc (.cells #[.int .i64 0, .int .i64 0, .slice none 0 0] 27)⟩
  clear h ok hl hr C1 hL hLn okL hL2
  generalize (rch : Int) = rI at *
  go_enter Tryd.func17, Tryd.ntmps17
  go_wp2_with fail
  refine (C1'.out _ P0.out.gr).mono ?_
  rintro e w1 ⟨B, rfl, hA, hB⟩
  replace P0 := hidb (P0.out.below hB.out)
  have HA := hidb hA
  clear hB hA C1'
  go_upto_region 2 with fail
  have HC := hidb (At.new3 w1 (.int .i64 m) (.int .i64 n) (.slice (some ⟨B, 0, none⟩) l.length l.length) 27)
  replace P0 := hidb (P0.out.alloc (.cells #[.int .i64 m, .int .i64 n, .slice (some ⟨B, 0, none⟩) l.length l.length] 27))
  replace HA := hidb (HA.out.alloc (.cells #[.int .i64 m, .int .i64 n, .slice (some ⟨B, 0, none⟩) l.length l.length] 27))
  generalize w1.alloc (.cells #[.int .i64 m, .int .i64 n, .slice (some ⟨B, 0, none⟩) l.length l.length] 27) = w2 at *
  generalize w1.heap.size = C at *
  obtain ⟨c0, c1, c2⟩ := HC.out.c3
  have sz := hidb P0.out.a1.lt
  go_wp2_with fail
  refine (C2.out _ B P0.out.gr HA.out).mono ?_
  rintro e w3 ⟨B2, rfl, hA2, hw2, hB⟩
  replace P0 := hidb (P0.out.below hB.out)
  have HA2 := hidb hA2
  have HW2 := hidb (show w.heap.size + 1 < B2 by have := sz.out; omega)
  clear hB hA2 hw2 c0 c1 c2
  obtain ⟨a0, a1, a2⟩ := P0.out.a1.c3
  obtain ⟨f0, f1, f2⟩ := P0.out.a1.f3
  have AH := P0.out.a1.has (n := 3) rfl
  go_wp2
  refine bodyPost_ret (v := .tuple #[raV m n (.slice (some ⟨B2, 0, none⟩) l.length l.length), .nilIface]) (by simp [results, Tryd.results17, go_sem, a0, a1, a2]) rfl ⟨B2, rfl, ?_, by have := HW2.out; omega, ?_⟩
  · have hne : ¬ w.heap.size + 1 = B2 := by have := HW2.out; omega
    exact ((HA2.out.skip hne 0 _).skip hne 1 _).skip hne 2 _
  · exact ((P0.out.gr.set (by omega) _ _).set (by omega) _ _).set (by omega) _ _
end Go.Proofs.YtphpfongdbidoaaDoor
