/-
  grid.Sheets: what it gives.
-/
import Derived.Test.YthpbkomchdgneaaDoorQGsB
namespace Go.Proofs.YthpbkomchdgneaaDoor
open Go.RowKit

theorem At.grown {W w' : World} {B : Nat} {l : List Value} {row : Option Nat} (h : At W B l) (hg : W.grownBy w' row) (hne : some B ≠ row) : At w' B l := by
  have hb := hg.block B h.2 hne
  exact ⟨fun i hi => ⟨(World.cell?_of_block (w := W) (a := ⟨B, i, none⟩) hb).trans (h.1 i hi).1, (World.frozen?_of_block (w := W) (a := ⟨B, i, none⟩) hb).trans (h.1 i hi).2⟩, Nat.lt_of_lt_of_le h.2 hg.size⟩
theorem wr64 {n : Int} (h1 : -9223372036854775808 ≤ n) (h2 : n ≤ 9223372036854775807) : IntKind.i64.wrap n = n := by simp [IntKind.wrap, IntKind.signed, IntKind.bits]; omega
theorem tdiv_pos_bd {n s : Int} (hn : 0 ≤ n) (hs : 1 ≤ s) : 0 ≤ n.tdiv s ∧ n.tdiv s ≤ n := by
  have h := tdiv_bd n s hs
  have h2 : 0 ≤ n.tdiv s := Int.tdiv_nonneg hn (by omega)
  omega
theorem mul_bd {x y : Nat} (hx : x ≤ 33554433) (hy : y ≤ 33554433) : 0 ≤ (x : Int) * (y : Int) ∧ (x : Int) * (y : Int) ≤ 1125899973951489 := by
  have h := Nat.mul_le_mul hx hy
  have e : (x : Int) * (y : Int) = ((x * y : Nat) : Int) := by simp
  rw [e]
  omega
/-- The numbers that Sheets reckons ahead of its loops. -/
structure Ahead (a b c d wide high : Int) (cols rows : Nat) : Prop where
  e1 : IntKind.i64.wrap (c - a) = c - a
  e2 : ¬ wide = 0
  e3 : IntKind.i64.wrap ((c - a).tdiv wide) = (c - a).tdiv wide
  e4 : IntKind.i64.wrap ((c - a).tdiv wide + 1) = (cols : Int)
  f1 : IntKind.i64.wrap (d - b) = d - b
  f2 : ¬ high = 0
  f3 : IntKind.i64.wrap ((d - b).tdiv high) = (d - b).tdiv high
  f4 : IntKind.i64.wrap ((d - b).tdiv high + 1) = (rows : Int)
  p : IntKind.i64.wrap ((cols : Int) * (rows : Int)) = (cols : Int) * (rows : Int)
theorem Fine.ahead {a b c d wide high lap : Int} (h : Fine a b c d wide high lap) : Ahead a b c d wide high (cnt a c wide) (cnt b d high) := by
  obtain ⟨a1, b1, c1, d1, ac, bd, w1, w2, h1, h2, l1, l2⟩ := h
  have t1 := tdiv_pos_bd (n := c - a) (by omega) w1
  have t2 := tdiv_pos_bd (n := d - b) (by omega) h1
  have m := mul_bd (cnt_bd a1 c1 ac w1).2 (cnt_bd b1 d1 bd h1).2
  have q1 := cnt_eq ac w1
  have q2 := cnt_eq bd h1
  refine ⟨wr64 (by omega) (by omega), by omega, wr64 (by omega) (by omega), ?_, wr64 (by omega) (by omega), by omega, wr64 (by omega) (by omega), ?_, wr64 (by omega) (by omega)⟩
  · rw [wr64 (by omega) (by omega)]; exact q1
  · rw [wr64 (by omega) (by omega)]; exact q2
theorem okS_parts {a b c d wide high lap : Int} (h : okS a b c d wide high lap = true) : okB a b c d = true ∧ inI 1 33554432 wide = true ∧ inI 1 33554432 high = true ∧ inI 0 16777216 lap = true := by
  unfold okS at h
  simp only [Bool.and_eq_true] at h
  exact ⟨h.1.1.1, h.1.1.2, h.1.2, h.2⟩
set_option maxRecDepth 4000 in
set_option maxHeartbeats 4000000 in
theorem sheets_many (g : Nat → Addr) (a b c d wide high lap : Int) (h : okS a b c d wide high lap = true) (hm : 4000 < cnt a c wide * cnt b d high) (w : World) (hl : Laid w g) : Calls Tryd.prog 10 #[boV a b c d, .int .i64 wide, .int .i64 high, .int .i64 lap] w fun e w' => e = .returned (.tuple #[.slice none 0 0, errV g 1]) ∧ Gr w w' := by
  have HL := hidb hl
  obtain ⟨k1, k2, k3, k4⟩ := okS_parts h
  obtain ⟨e1, e2, e3, e4, f1, f2, f3, f4, ep⟩ := (okS_fine h).ahead
  generalize cnt a c wide = cols at *
  generalize cnt b d high = rows at *
  have hm' : (4000 : Int) < (cols : Int) * (rows : Int) := by
    have e : (cols : Int) * (rows : Int) = ((cols * rows : Nat) : Int) := by simp
    rw [e]; omega
  have HR := hidb (fun w => right_any a b c d w)
  rw [k1] at HR
  have K2 := hidb k2
  have K3 := hidb k3
  have K4 := hidb k4
  clear hl h k1 k2 k3 k4 hm
  go_enter Tryd.func10, Tryd.ntmps10
  go_wp2_with fail
  refine (HR.out _).mono ?_
  rintro e w1 ⟨rfl, hB⟩
  have PA : At w1 w.heap.size (boL a b c d) := At.below hB (At.new4 w _ _ _ _ _)
  have HC : Gr w w1 := Gr.step (by ((with_reducible repeat' (first | assumption | refine Gr.drew ?_ | refine Gr.alloc ?_ _ | refine Gr.set ?_ (by first | omega | (simp; omega)) _ _ | exact Gr.refl _)); done)) hB
  have cg : w1.cell? ⟨1, 0, none⟩ = some (.iface 143 (.pointer (some (g 1)))) := (HL.out.below HC).cell 1 (by decide)
  clear hB
  obtain ⟨c0, c1, c2, c3⟩ := PA.c4
  go_wp2_with fail
  refine (within_any _ _ _ _).mono ?_
  rintro e w2 ⟨rfl, rfl⟩
  rw [K2.out]
  go_wp2_with fail
  refine (within_any _ _ _ _).mono ?_
  rintro e w2 ⟨rfl, rfl⟩
  rw [K3.out]
  go_wp2_with fail
  refine (within_any _ _ _ _).mono ?_
  rintro e w2 ⟨rfl, rfl⟩
  rw [K4.out]
  go_upto_region 6 with fail
  go_quiet (fail)
  go_wp2
  go_ret2
  exact ⟨rfl, by ((with_reducible repeat' (first | assumption | refine Gr.drew ?_ | refine Gr.drewN ?_ _ | refine Gr.alloc ?_ _ | refine Gr.set ?_ (by first | omega | (simp; omega)) _ _ | exact Gr.refl _)); done)⟩
set_option maxRecDepth 4000 in
set_option maxHeartbeats 8000000 in
theorem sheets_ok (g : Nat → Addr) (a b c d wide high lap : Int) (h : okS a b c d wide high lap = true) (hm : cnt a c wide * cnt b d high ≤ 4000) (w : World) (_hl : Laid w g) : Calls Tryd.prog 10 #[boV a b c d, .int .i64 wide, .int .i64 high, .int .i64 lap] w fun e w' => ∃ v, e = .returned (.tuple #[v, .nilIface]) ∧ RowS w' v (shL a b wide high lap (cnt a c wide) (cnt b d high * cnt a c wide)) ∧ Gr w w' := by
  obtain ⟨k1, k2, k3, k4⟩ := okS_parts h
  have fin := okS_fine h
  obtain ⟨e1, e2, e3, e4, f1, f2, f3, f4, ep⟩ := fin.ahead
  obtain ⟨a1, b1, c1', d1', ac, bd, w1', w2', h1', h2', l1', l2'⟩ := fin
  have HCI := hidb (fun k => cnt_iff (lo := a) (hi := c) (wide := wide) ac w1' k)
  have HRI := hidb (fun k => cnt_iff (lo := b) (hi := d) (wide := high) bd h1' k)
  have hcb := (cnt_bd a1 c1' ac w1').1
  generalize cnt a c wide = cols at *
  generalize cnt b d high = rows at *
  have hm' : ¬ (4000 : Int) < (cols : Int) * (rows : Int) := by
    have e : (cols : Int) * (rows : Int) = ((cols * rows : Nat) : Int) := by simp
    rw [e]; omega
  have hm2 : rows * cols ≤ 4000 := by rw [Nat.mul_comm]; exact hm
  have HM2 := hidb hm2
  have BB : Hid ((-16777216 ≤ a ∧ -16777216 ≤ b ∧ c ≤ 16777216 ∧ d ≤ 16777216) ∧ (1 ≤ wide ∧ wide ≤ 33554432 ∧ 1 ≤ high ∧ high ≤ 33554432 ∧ 0 ≤ lap ∧ lap ≤ 16777216) ∧ 1 ≤ cols) := ⟨⟨a1, b1, c1', d1'⟩, ⟨w1', w2', h1', h2', l1', l2'⟩, hcb⟩
  have HR := hidb (fun w => right_any a b c d w)
  rw [k1] at HR
  have K2 := hidb k2
  have K3 := hidb k3
  have K4 := hidb k4
  obtain ⟨i0, hi, hz0, hz1, hz2⟩ := info_parts infoS
  clear h k1 k2 k3 k4 hm a1 b1 c1' d1' ac bd w1' w2' h1' h2' l1' l2' hm2 hcb
  go_enter Tryd.func10, Tryd.ntmps10
  go_wp2_with fail
  refine (HR.out _).mono ?_
  rintro e w1 ⟨rfl, hB⟩
  have PA : At w1 w.heap.size (boL a b c d) := At.below hB (At.new4 w _ _ _ _ _)
  have HC : Gr w w1 := Gr.step (by ((with_reducible repeat' (first | assumption | refine Gr.drew ?_ | refine Gr.alloc ?_ _ | refine Gr.set ?_ (by first | omega | (simp; omega)) _ _ | exact Gr.refl _)); done)) hB
  clear hB
  obtain ⟨c0, c1, c2, c3⟩ := PA.c4
  go_wp2_with fail
  refine (within_any _ _ _ _).mono ?_
  rintro e w2 ⟨rfl, rfl⟩
  rw [K2.out]
  go_wp2_with fail
  refine (within_any _ _ _ _).mono ?_
  rintro e w2 ⟨rfl, rfl⟩
  rw [K3.out]
  go_wp2_with fail
  refine (within_any _ _ _ _).mono ?_
  rintro e w2 ⟨rfl, rfl⟩
  rw [K4.out]
  go_wp2
  clear e1 e2 e3 e4 f1 f2 f3 f4 ep hm' c0 c1 c2 c3
  go_loopw [12, 62] (fun v t wr => ∃ (r : Nat) (ad : Option Addr) (cap : Nat), r ≤ rows ∧ v = .slice ad (r * cols) cap ∧ t = .int .i64 (r : Int) ∧ wr.ownsRow (w.heap.size + 1) 46 6 v (r * cols) (sc (shL a b wide high lap cols (r * cols))) ∧ At wr w.heap.size (boL a b c d) ∧ Gr w wr) (fun _ t _ => rows - (intOf t).toNat)
  case atStart => exact ⟨0, none, 0, by omega, by simp, rfl, by simpa [shL, sc] using World.ownsRow_nil w2 _ _ _, PA, HC⟩
  case round =>
    clear PA HC
    obtain ⟨r, ad, cap, hr, rfl, rfl, hown, PA, HC⟩ := hrel
    by_cases hrr : r < rows
    · have hrr' : (r : Int) < (rows : Int) := by omega
      have HRR := hidb hrr
      clear hrr hr
      obtain ⟨N0, hN0⟩ : ∃ n, n = r * cols := ⟨_, rfl⟩
      go_wp2
      clear hrr'
      go_loopw [12, 66] (fun v t wr => ∃ (k : Nat) (ad : Option Addr) (cap : Nat), k ≤ cols ∧ v = .slice ad (r * cols + k) cap ∧ t = .int .i64 (k : Int) ∧ wr.ownsRow (w.heap.size + 1) 46 6 v (r * cols + k) (sc (shL a b wide high lap cols (r * cols + k))) ∧ At wr w.heap.size (boL a b c d) ∧ Gr w wr) (fun _ t _ => cols - (intOf t).toNat)
      case atStart => exact ⟨0, ad, cap, by omega, rfl, rfl, hown, PA, HC⟩
      case round =>
        clear PA HC hown
        obtain ⟨k, ad, cap, hk, rfl, rfl, hown, PA, HC⟩ := hrel
        by_cases hkk : k < cols
        · have hkk' : (k : Int) < (cols : Int) := by omega
          obtain ⟨⟨ba, bb, bc, bd⟩, ⟨bw, bw2, bh, bh2, bl, bl2⟩, _⟩ := BB.out
          have cx := (HCI.out k).1 hkk
          have cy := (HRI.out r).1 HRR.out
          have cp : 0 ≤ (k : Int) * wide := Int.mul_nonneg (by omega) (by omega)
          have cq : 0 ≤ (r : Int) * high := Int.mul_nonneg (by omega) (by omega)
          have HSH : Hid (∀ p q : Int, p = (k : Int) * wide → q = (r : Int) * high → shOf a b wide high lap cols (r * cols + k) = ⟨k, r, a + p - lap, b + q - lap, a + p - lap + wide - 1 + 2 * lap, b + q - lap + high - 1 + 2 * lap⟩) := by
            rintro p q rfl rfl
            rw [shOf_at a b wide high lap hkk]
            congr 1 <;> omega
          obtain ⟨p, hp⟩ : ∃ p, p = (k : Int) * wide := ⟨_, rfl⟩
          obtain ⟨q, hq⟩ : ∃ q, q = (r : Int) * high := ⟨_, rfl⟩
          rw [← hp] at cx cp
          rw [← hq] at cy cq
          have g1 : IntKind.i64.wrap ((k : Int) * wide) = p := by rw [← hp]; exact wr64 (by omega) (by omega)
          have g2 : IntKind.i64.wrap (a + p) = a + p := wr64 (by omega) (by omega)
          have g3 : IntKind.i64.wrap (a + p - lap) = a + p - lap := wr64 (by omega) (by omega)
          have g4 : IntKind.i64.wrap ((r : Int) * high) = q := by rw [← hq]; exact wr64 (by omega) (by omega)
          have g5 : IntKind.i64.wrap (b + q) = b + q := wr64 (by omega) (by omega)
          have g6 : IntKind.i64.wrap (b + q - lap) = b + q - lap := wr64 (by omega) (by omega)
          have g7 : IntKind.i64.wrap (a + p - lap + wide) = a + p - lap + wide := wr64 (by omega) (by omega)
          have g8 : IntKind.i64.wrap (a + p - lap + wide - 1) = a + p - lap + wide - 1 := wr64 (by omega) (by omega)
          have g9 : IntKind.i64.wrap (2 * lap) = 2 * lap := wr64 (by omega) (by omega)
          have g10 : IntKind.i64.wrap (a + p - lap + wide - 1 + 2 * lap) = a + p - lap + wide - 1 + 2 * lap := wr64 (by omega) (by omega)
          have g11 : IntKind.i64.wrap (b + q - lap + high) = b + q - lap + high := wr64 (by omega) (by omega)
          have g12 : IntKind.i64.wrap (b + q - lap + high - 1) = b + q - lap + high - 1 := wr64 (by omega) (by omega)
          have g13 : IntKind.i64.wrap (b + q - lap + high - 1 + 2 * lap) = b + q - lap + high - 1 + 2 * lap := wr64 (by omega) (by omega)
          have hcl : cols ≤ 4000 := Nat.le_trans (Nat.le_mul_of_pos_left cols (Nat.lt_of_le_of_lt (Nat.zero_le _) HRR.out)) HM2.out
          have g14 : IntKind.i64.wrap ((k : Int) + 1) = ((k + 1 : Nat) : Int) := by rw [wr64 (by omega) (by omega)]; simp
          clear hcl
          have HS0 := hidb (HSH.out p q hp hq)
          clear hp hq ba bb bc bd bw bw2 bh bh2 bl bl2 cx cy cp cq HSH
          obtain ⟨c0, c1, c2, c3⟩ := PA.c4
          have hcount : r * cols + k + 1 ≤ 4000 := by
            have h1 := HM2.out
            have h2 : (r + 1) * cols ≤ rows * cols := Nat.mul_le_mul_right cols HRR.out
            rw [Nat.add_mul] at h2
            omega
          have HCN := hidb hcount
          clear hcount
          go_upto_region 16 with fail
          obtain ⟨X, hX⟩ : ∃ n, n = a + p - lap := ⟨_, rfl⟩
          obtain ⟨Y, hY⟩ : ∃ n, n = b + q - lap := ⟨_, rfl⟩
          obtain ⟨X2, hX2⟩ : ∃ n, n = a + p - lap + wide - 1 + 2 * lap := ⟨_, rfl⟩
          obtain ⟨Y2, hY2⟩ : ∃ n, n = b + q - lap + high - 1 + 2 * lap := ⟨_, rfl⟩
          rw [← hX2, ← hY2, ← hX, ← hY] at HS0
          rw [← hX2, ← hY2, ← hX, ← hY]
          have SA : At ((wr.alloc (.cells #[.int .i64 X, .int .i64 Y] 32)).alloc (.cells #[.int .i64 X2, .int .i64 Y2] 32)) wr.heap.size [.int .i64 X, .int .i64 Y] := by ((with_reducible repeat' (first | assumption | exact At.new1 _ _ _ | exact At.new2 _ _ _ _ | exact At.new3 _ _ _ _ _ | exact At.nx1 _ _ _ | exact At.nx2 _ _ _ _ | exact At.nx3 _ _ _ _ _ | exact At.ny1 _ _ _ _ | exact At.ny2 _ _ _ _ _ | exact At.ny3 _ _ _ _ _ _ | exact At.nz1 _ _ _ _ _ | exact At.nz2 _ _ _ _ _ _ | exact At.nz3 _ _ _ _ _ _ _ | exact Has.new1 _ _ _ | exact Has.new2 _ _ _ _ | exact Has.new3 _ _ _ _ _ | exact Has.nx1 _ _ _ | exact Has.nx2 _ _ _ _ | exact Has.nx3 _ _ _ _ _ | exact Has.ny1 _ _ _ _ | exact Has.ny2 _ _ _ _ _ | exact Has.ny3 _ _ _ _ _ _ | exact Has.nz1 _ _ _ _ _ | exact Has.nz2 _ _ _ _ _ _ | exact Has.nz3 _ _ _ _ _ _ _ | refine At.fill1 ?_ _ | refine At.fill2 ?_ _ _ | refine At.fill3 ?_ _ _ _ | refine At.swap ?_ (by first | omega | (simp; omega)) _ _ | refine At.alloc ?_ _ | refine At.drew ?_ | refine At.skip ?_ (by first | omega | (simp; omega)) _ _ | refine At.below (by assumption) ?_ | refine Has.alloc ?_ _ | refine Has.drew ?_ | refine Has.set ?_ _ _ _ | refine Has.below (by assumption) ?_)); done)
          have TA : At ((wr.alloc (.cells #[.int .i64 X, .int .i64 Y] 32)).alloc (.cells #[.int .i64 X2, .int .i64 Y2] 32)) (wr.heap.size + 1) [.int .i64 X2, .int .i64 Y2] := by ((with_reducible repeat' (first | assumption | exact At.new1 _ _ _ | exact At.new2 _ _ _ _ | exact At.new3 _ _ _ _ _ | exact At.nx1 _ _ _ | exact At.nx2 _ _ _ _ | exact At.nx3 _ _ _ _ _ | exact At.ny1 _ _ _ _ | exact At.ny2 _ _ _ _ _ | exact At.ny3 _ _ _ _ _ _ | exact At.nz1 _ _ _ _ _ | exact At.nz2 _ _ _ _ _ _ | exact At.nz3 _ _ _ _ _ _ _ | exact Has.new1 _ _ _ | exact Has.new2 _ _ _ _ | exact Has.new3 _ _ _ _ _ | exact Has.nx1 _ _ _ | exact Has.nx2 _ _ _ _ | exact Has.nx3 _ _ _ _ _ | exact Has.ny1 _ _ _ _ | exact Has.ny2 _ _ _ _ _ | exact Has.ny3 _ _ _ _ _ _ | exact Has.nz1 _ _ _ _ _ | exact Has.nz2 _ _ _ _ _ _ | exact Has.nz3 _ _ _ _ _ _ _ | refine At.fill1 ?_ _ | refine At.fill2 ?_ _ _ | refine At.fill3 ?_ _ _ _ | refine At.swap ?_ (by first | omega | (simp; omega)) _ _ | refine At.alloc ?_ _ | refine At.drew ?_ | refine At.skip ?_ (by first | omega | (simp; omega)) _ _ | refine At.below (by assumption) ?_ | refine Has.alloc ?_ _ | refine Has.drew ?_ | refine Has.set ?_ _ _ _ | refine Has.below (by assumption) ?_)); done)
          replace PA := (PA.alloc (.cells #[.int .i64 X, .int .i64 Y] 32)).alloc (.cells #[.int .i64 X2, .int .i64 Y2] 32)
          replace HC := (HC.alloc (.cells #[.int .i64 X, .int .i64 Y] 32)).alloc (.cells #[.int .i64 X2, .int .i64 Y2] 32)
          replace hown := (hown.alloc (.cells #[.int .i64 X, .int .i64 Y] 32)).alloc (.cells #[.int .i64 X2, .int .i64 Y2] 32)
          generalize hwd : (wr.alloc (.cells #[.int .i64 X, .int .i64 Y] 32)).alloc (.cells #[.int .i64 X2, .int .i64 Y2] 32) = w5 at SA TA PA HC hown ⊢
          clear hwd hX hY hX2 hY2 c0 c1 c2 c3 g1 g2 g3 g4 g5 g6 g7 g8 g9 g10 g11 g12 g13
          generalize wr.heap.size = B15 at SA TA ⊢
          obtain ⟨s0, s1⟩ := SA.c2
          obtain ⟨t0, t1⟩ := TA.c2
          have lPA := PA.lt
          go_wp2_with (at_builtin; refine wpList_append_own _ rfl _ _ 35 rfl (w.heap.size + 1) 46 i0 (.agg #[.int .i64 0, .int .i64 0, .int .i64 0, .int .i64 0, .int .i64 0, .int .i64 0]) 6 48 undS hi hz0 hz1 hz2 rfl (by decide) _ _ _ rfl (hown.alloc _) ⟨w5.heap.size, 0, none⟩ 1 1 (Sh.mk k r X Y X2 Y2).cs rfl rfl ?c1 ?c2 ?c3 ?c4 ?c5 ?_)
          case c1 => intro j u hj; exact news6 (s := Sh.mk k r X Y X2 Y2) hj (by simp [go_sem, Addr.add]) (by simp [go_sem, Addr.add]) (by simp [go_sem, Addr.add]) (by simp [go_sem, Addr.add]) (by simp [go_sem, Addr.add]) (by simp [go_sem, Addr.add])
          case c2 => intro u hu; simp at hu; rcases hu with rfl | rfl | rfl | rfl | rfl | rfl <;> rfl
          case c3 => have := HCN.out; unfold maxLen; omega
          case c4 => have := HCN.out; omega
          case c5 => simp; omega
          intro v' w6 hown' hgrow _
          rw [sc_snoc, ← HS0.out, shL_snoc] at hown'
          obtain ⟨ad', cap', hv'⟩ := own_shape6 hown'
          have PA6 : At w6 w.heap.size (boL a b c d) := (PA.alloc _).grown hgrow (by intro e; have := (hown.lt _ e.symm).1; omega)
          have HC6 : Gr w w6 := Below.grown (HC.alloc _) hgrow (by have := HC.out.size; simp; omega) (fun n hn => by have := (hown.lt n hn).1; omega)
          clear hgrow hown PA HC SA TA s0 s1 t0 t1
          go_wp2
          go_roundw
          case rel => exact ⟨k + 1, ad', cap', by omega, hv', rfl, hown', PA6, HC6⟩
          case measure => simp [intOf]; omega
        · have hkk' : ¬ (k : Int) < (cols : Int) := by omega
          have HE : Hid (r * cols + k = (r + 1) * cols) := by
            show _ = _
            rw [Nat.add_mul]
            omega
          have hrb : r < 4001 := by
            obtain ⟨_, _, h1⟩ := BB.out
            have h2 := HM2.out
            have h3 := HRR.out
            have h4 : rows * 1 ≤ rows * cols := Nat.mul_le_mul_left rows h1
            omega
          have g14 : IntKind.i64.wrap ((r : Int) + 1) = ((r + 1 : Nat) : Int) := by rw [wr64 (by omega) (by omega)]; simp
          clear hkk hk hrb
          go_wp2
          go_roundw
          case rel => exact ⟨r + 1, ad, cap, HRR.out, by rw [HE.out], rfl, by rw [← HE.out]; exact hown, PA, HC⟩
          case measure => have := HRR.out; simp [intOf]; omega
    · have hrr' : ¬ (r : Int) < (rows : Int) := by omega
      obtain rfl : r = rows := by omega
      have HRS := hidb (own_rs hown).1
      clear hrr hr hown
      go_wp2
      go_ret2
      exact ⟨_, rfl, HRS.out, HC⟩
end Go.Proofs.YthpbkomchdgneaaDoor
