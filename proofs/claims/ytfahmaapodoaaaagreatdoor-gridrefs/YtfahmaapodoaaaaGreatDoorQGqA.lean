/-
  grid: padded, cut, letter, Valid of a reference, Square, In.
-/
import Derived.Test.YtfahmaapodoaaaaGreatDoorQGqN
import Derived.Test.YtfahmaapodoaaaaGreatDoorQGqS
import Derived.Test.YtfahmaapodoaaaaGreatDoorQGqZ
import Derived.Lib.AppendIntMem
import Derived.Lib.SmallJoins
import Derived.Laws.DeepStrings4
import Derived.BigQuiet
import Derived.Deep.QuietTactic
import Derived.Deep.CutRange
import Derived.Deep.RegionHeld3
namespace Go.Proofs.YtfahmaapodoaaaaGreatDoor
open Go.RowKit GQ

abbrev sV (l : List UInt8) : Value := .string ⟨l.toArray⟩
/-- What the program reads of variables: the table of tens, two errors. -/
structure SqL (w : World) : Prop where
  tab : Lib.TabIs Tryz.prog w "internal/strconv.uint64pow10" .u64 Lib.pow10Tab
  rng : ∃ p, w.cell? ⟨0, 0, none⟩ = some (.iface 141 (.pointer p))
  shp : ∃ p, w.cell? ⟨2, 0, none⟩ = some (.iface 141 (.pointer p))
theorem cell_grw {w w' : World} {a : Addr} {v : Value} (h : w.cell? a = some v) (g : Gr w w') : w'.cell? a = some v := by
  rw [g.out.cell (lt_of_cell h)]; exact h
theorem SqL.gr {w w' : World} (h : SqL w) (g : Gr w w') : SqL w' where
  tab := Joins.tab_stays (g := 11) (by kernel_rfl) h.tab g.out (Nat.le_refl _)
  rng := by obtain ⟨p, hp⟩ := h.rng; exact ⟨p, cell_grw hp g⟩
  shp := by obtain ⟨p, hp⟩ := h.shp; exact ⟨p, cell_grw hp g⟩
theorem add_s (l m : List UInt8) (hl : l.length ≤ 1000) (hm : m.length ≤ 1000) (w : World) : (Op.stringOp .add ⟨l.toArray⟩ ⟨m.toArray⟩).run Tryz.prog w = .ok (.string ⟨(l ++ m).toArray⟩) w :=
  run_string_add_lists (P := Tryz.prog) w l m (by omega) (by omega)
theorem size_s (l : List UInt8) : (ByteArray.mk l.toArray).size = l.length := by simp [ByteArray.size]
theorem itoa_c (n : Nat) (hn : n < 10000000) (w : World) (h : SqL w) : Calls Tryz.prog 34 #[.int .i64 n] w fun e w' => e = .returned (sV (Lib.decDigits n)) ∧ Gr w w' := by
  refine (Tryz.strconv_Itoa n (by omega) (by omega) w h.tab).mono ?_
  rintro e w' ⟨rfl, k, os, rfl⟩
  rw [Lib.itoa_nonneg]
  exact ⟨rfl, Lib.below_grow _ w (Nat.le_refl _) k os⟩
theorem repeat_c (c : Nat) (hc : c ≤ 7) (w : World) : Calls Tryz.prog 35 #[.string ⟨#[48]⟩, .int .i64 c] w fun e w' => e = .returned (sV (Lib.repeatL [48] c)) ∧ Gr w w' := by
  refine (Tryz.strings_Repeat ⟨#[48]⟩ c w (by omega) ?_).mono ?_
  · rw [show (ByteArray.mk #[48]).size = 1 from rfl]
    omega
  · rintro e w' ⟨rfl, h⟩
    exact ⟨rfl, h⟩
theorem padded_g (n d : Nat) (hn : n < 10000000) (hd : d ≤ 7) (hle : (Lib.decDigits n).length ≤ d) (w : World) (h : SqL w) : Calls Tryz.prog 22 #[.int .i64 n, .int .i64 d] w fun e w' => e = .returned (sV (dgs n d)) ∧ Gr w w' := by
  have hps := ndig_pos n
  obtain ⟨k, hk⟩ : ∃ k, (Lib.decDigits n).length = k := ⟨_, rfl⟩
  have HP := hidb (padded_digits d n hle)
  rw [hk] at HP hle hps
  have hz : ∀ c : Nat, c ≤ 7 → (Lib.repeatL [48] c).length ≤ 1000 := fun c hc => by rw [Lib.repeatL_length]; simp; omega
  have hadd : ∀ W : World, (Op.stringOp .add ⟨(Lib.repeatL [48] (d - k)).toArray⟩ ⟨(Lib.decDigits n).toArray⟩).run Tryz.prog W = .ok (.string ⟨(dgs n d).toArray⟩) W := fun W => by
    rw [add_s _ _ (hz _ (by omega)) (by omega), HP.out]
  have hsz : (ByteArray.mk (Lib.decDigits n).toArray).size = k := by rw [size_s, hk]
  have H1 := hidb (fun w => itoa_c n hn w)
  have H2 := hidb (fun w => repeat_c (d - k) (by omega) w)
  rw [show ((d - k : Nat) : Int) = (d : Int) - (k : Int) by omega] at H2
  have emax : max (0 : Int) ((d : Int) - (k : Int)) = d - k := by omega
  have ew : IntKind.i64.wrap ((d : Int) - (k : Int)) = d - k := wrq (by omega) (by omega)
  have HH := hidb h
  clear hk hle hps hz HP hn h hd
  unfold sV at H1 H2 ⊢
  generalize ByteArray.mk (Lib.decDigits n).toArray = D at hsz hadd H1
  generalize ByteArray.mk (Lib.repeatL [48] (d - k)).toArray = E at hadd H2
  generalize ByteArray.mk (dgs n d).toArray = F at hadd ⊢
  go_enter Tryz.func22, Tryz.ntmps22
  go_wp2_with fail
  refine (H1.out _ HH.out).mono ?_
  rintro e w1 ⟨rfl, g1⟩
  go_wp2_with fail
  refine (H2.out _).mono ?_
  rintro e w2 ⟨rfl, g2⟩
  go_wp2_with fail
  go_ret
  exact ⟨rfl, g1.step g2⟩
theorem padded_c (n : Nat) (hn : n < 100000) (w : World) (h : SqL w) : Calls Tryz.prog 22 #[.int .i64 n, .int .i64 5] w fun e w' => e = .returned (sV (dgs n 5)) ∧ Gr w w' :=
  padded_g n 5 (by omega) (by decide) (ndig_le 4 n (by omega)) w h
theorem ext_s (l : List UInt8) (m : Nat) : (ByteArray.mk l.toArray).extract 0 m = ⟨(l.take m).toArray⟩ := by
  apply ByteArray.ext
  simp [ByteArray.data_extract]
theorem cut_c (n many : Nat) (hm : many ≤ 5) (hn : n ≤ 9999999) (w : World) (h : SqL w) : Calls Tryz.prog 30 #[.int .i64 n, .int .i64 many] w fun e w' => e = .returned (sV (dgs (n % 100000 / 10 ^ (5 - many)) many)) ∧ Gr w w' := by
  have ht := dgs_take (5 - many) many (n % 100000)
  rw [show many + (5 - many) = 5 by omega] at ht
  rw [← ht]
  have H1 := hidb (fun w => padded_c (n % 100000) (by omega) w)
  have e1 : (n : Int).tmod 100000 = ((n % 100000 : Nat) : Int) := by rw [Int.tmod_eq_emod_of_nonneg (by omega)]; omega
  have hsz : (ByteArray.mk (dgs (n % 100000) 5).toArray).size = 5 := by rw [size_s, dgs_length]
  have hex := ext_s (dgs (n % 100000) 5) many
  have hm' : (many : Int) ≤ 5 := by omega
  have HH := hidb h
  clear hm ht h
  unfold sV at H1 ⊢
  generalize ByteArray.mk (dgs (n % 100000) 5).toArray = D at hsz hex H1
  go_enter Tryz.func30, Tryz.ntmps30
  go_wp2_with fail
  refine (H1.out _ HH.out).mono ?_
  rintro e w1 ⟨rfl, g1⟩
  go_wp2_with fail
  go_ret
  exact ⟨rfl, g1⟩
theorem ltr_fin : ∀ m : Fin 20, (ByteArray.mk #[65, 66, 67, 68, 69, 70, 71, 72, 74, 75, 76, 77, 78, 80, 81, 82, 83, 84, 85, 86]).extract m.val (m.val + 1) = ⟨[ltr m.val].toArray⟩ := by decide
theorem letter_c (n : Nat) (hn : n < 100) (w : World) : Calls Tryz.prog 29 #[.int .i64 n] w fun e w' => e = .returned (sV [ltr (n % 20)]) ∧ w' = w := by
  have hl := ltr_fin ⟨n % 20, by omega⟩
  dsimp only at hl
  have e1 : (n : Int).tmod 20 = ((n % 20 : Nat) : Int) := by rw [Int.tmod_eq_emod_of_nonneg (by omega)]; omega
  obtain ⟨m, hm⟩ : ∃ m, n % 20 = m := ⟨_, rfl⟩
  have hm2 : m < 20 := by omega
  rw [hm] at hl e1 ⊢
  have q1 : (m : Int) + 1 ≤ 20 := by omega
  have q0 : (0 : Int) ≤ (m : Int) + 1 := by omega
  have q2 : (m : Int) ≤ (m : Int) + 1 := by omega
  have q3 : ((m : Int) + 1).toNat = m + 1 := by omega
  have q4 : IntKind.i64.wrap ((m : Int) + 1) = m + 1 := wrq (by omega) (by omega)
  clear hm hm2 hn
  unfold sV
  generalize ByteArray.mk [ltr m].toArray = R at hl ⊢
  have hsl : ∀ W : World, (Instr.slice 9 (.string ⟨#[65, 66, 67, 68, 69, 70, 71, 72, 74, 75, 76, 77, 78, 80, 81, 82, 83, 84, 85, 86]⟩) (some (.int .i64 m)) (some (.int .i64 ((m : Int) + 1))) none).run Tryz.prog W = .ok (.string R) W := fun W => by
    rw [run_slice_string_if W 9 _ .i64 .i64 m (m + 1) Tryz.underlying9, if_pos ⟨q0, q1⟩, if_pos ⟨by omega, q2⟩, q3, Int.toNat_natCast, hl]
  clear hl q3 q2 q0 q1
  go_enter Tryz.func29, Tryz.ntmps29
  go_wp2_with fail
  go_ret
  exact ⟨rfl, rfl⟩
end Go.Proofs.YtfahmaapodoaaaaGreatDoor
