/-
  fix.Range.beyond, fix.differences.
-/
import Derived.Test.YtehkonddgiakaaaDoorQFxH
import Derived.Test.YtehkonddgiakaaaDoorQFxC
import Derived.Deep.RegionHeldLaw
namespace Go.Proofs.YtehkonddgiakaaaDoor
open Go.RowKit
attribute [local go_sem ↓] Go.wp_at_zero Go.wp_at_succ

/-- By how much the square of how far the middle is from the point is more than the square. -/
def bey (r : Rg) : Int := far r.x r.y 0 0 - r.q
theorem bey_bd {r : Rg} (h : okR r) : -4503599627370496 ≤ bey r ∧ bey r ≤ 2251799813685248 := by
  have := far_bd (x := r.x) (y := r.y) (a := 0) (b := 0) h.1 (by decide)
  have h1 := h.2
  unfold bey
  omega
set_option maxRecDepth 4000 in
set_option maxHeartbeats 4000000 in
theorem beyond_any {r : Rg} (h : okR r) (w : World) : Calls Tryd.prog 45 #[r.v] w fun e w' => e = .returned (.int .i64 (bey r)) ∧ Below w.heap.size w w' ∧ w.heap.size < w'.heap.size := by
  have HA := hidb (fun w => apart_any (x := r.x) (y := r.y) (a := 0) (b := 0) h.1 (by decide) w)
  obtain ⟨b1, b2⟩ := bey_bd h
  have hw : IntKind.i64.wrap (far r.x r.y 0 0 - r.q) = far r.x r.y 0 0 - r.q := wr_in (by unfold bey at b1; omega) (by unfold bey at b2; omega)
  unfold bey
  obtain ⟨bb, hbb⟩ : ∃ bb, bb = far r.x r.y 0 0 - r.q := ⟨_, rfl⟩
  rw [← hbb]
  have hw' : IntKind.i64.wrap (far r.x r.y 0 0 - r.q) = bb := by rw [hbb]; exact hw
  generalize far r.x r.y 0 0 = ff at *
  clear h b1 b2 hw hbb
  obtain ⟨x, y, q⟩ := r
  dsimp only at *
  go_enter Tryd.func45, Tryd.ntmps45
  go_upto_region 1 with fail
  have FA := At.new3 w (.int .i64 x) (.int .i64 y) (.int .i64 q) 61
  have HC := (Gr.refl w).alloc (.cells #[.int .i64 x, .int .i64 y, .int .i64 q] 61)
  generalize w.alloc (.cells #[.int .i64 x, .int .i64 y, .int .i64 q] 61) = w1 at *
  go_region_held (fun w' => w'.cell? ⟨w.heap.size, 0, none⟩ = some (.int .i64 x) ∧ w'.cell? ⟨w.heap.size, 1, none⟩ = some (.int .i64 y) ∧ w'.cell? ⟨w.heap.size, 2, none⟩ = some (.int .i64 q))
    (first | (with_reducible exact FA.c3) | exact FA.c3)
    ((first | (go_at_call 40; refine (HA.out _).mono ?_; rintro e w5 ⟨rfl, hB5, hs5⟩; replace hB5 := hB5.out; (with_reducible first | replace hB5 := undr hB5 | skip); replace FA := At.below hB5 FA; replace HC := Gr.step HC hB5) | fail))
  all_goals
    go_wp2
    go_ret
    exact ⟨rfl, HC, FA.lt⟩
/-- The equation of two ranges. -/
def dif (f o : Rg) : Rg := ⟨2 * (o.x - f.x), 2 * (o.y - f.y), bey o - bey f⟩
theorem own_below3 {W w' : World} {base e : Nat} {v : Value} {n : Nat} {xs : List Value} (hB : Below W.heap.size W w') (h : W.ownsRow base e 3 v n xs) : w'.ownsRow base e 3 v n xs := by
  refine ⟨h.1, ?_⟩
  rcases h.2 with h2 | ⟨g, cap, cur, rfl, h3, h4, h5⟩
  · exact .inl h2
  · refine .inr ⟨g, cap, cur, rfl, h3, ?_, h5⟩
    rw [hB.block g (Array.getElem?_eq_some_iff.1 h4).1]; exact h4
theorem dif_words {f r : Rg} (hf : okR f) (hr : okR r) : ∃ X Y Z dx dy : Int, dif f r = ⟨X, Y, Z⟩ ∧ IntKind.i64.wrap (r.x - f.x) = dx ∧ IntKind.i64.wrap (2 * dx) = X ∧ IntKind.i64.wrap (r.y - f.y) = dy ∧ IntKind.i64.wrap (2 * dy) = Y ∧ IntKind.i64.wrap (bey r - bey f) = Z := by
  have b1 := bey_bd hf
  have b2 := bey_bd hr
  obtain ⟨⟨⟨h1, h2⟩, h3, h4⟩, _⟩ := hf
  obtain ⟨⟨⟨k1, k2⟩, k3, k4⟩, _⟩ := hr
  exact ⟨_, _, _, r.x - f.x, r.y - f.y, rfl, wr_in (by omega) (by omega), wr_in (by omega) (by omega), wr_in (by omega) (by omega), wr_in (by omega) (by omega), wr_in (by omega) (by omega)⟩
theorem At.grown3 {W w' : World} {B : Nat} {l : List Value} {row : Option Nat} (h : At W B l) (hg : W.grownBy w' row) (hne : some B ≠ row) : At w' B l := by
  have hb := hg.block B h.2 hne
  exact ⟨fun i hi => ⟨(World.cell?_of_block (w := W) (a := ⟨B, i, none⟩) hb).trans (h.1 i hi).1, (World.frozen?_of_block (w := W) (a := ⟨B, i, none⟩) hb).trans (h.1 i hi).2⟩, Nat.lt_of_lt_of_le h.2 hg.size⟩
/-- The row is in a block below. -/
structure Own3 (W : World) (base e : Nat) (v : Value) (n : Nat) (xs : List Value) (top : Nat) : Prop where
  row : W.ownsRow base e 3 v n xs
  lt : ∀ k, v.ownBlock = some k → k < top
theorem Own3.of {W : World} {base e : Nat} {v : Value} {n : Nat} {xs : List Value} (h : W.ownsRow base e 3 v n xs) : Own3 W base e v n xs W.heap.size := ⟨h, fun k hk => (h.lt k hk).2⟩
theorem Own3.below {W w' : World} {base e : Nat} {v : Value} {n : Nat} {xs : List Value} {top : Nat} (hB : Below W.heap.size W w') (h : Own3 W base e v n xs top) : Own3 w' base e v n xs top := ⟨own_below3 hB h.row, h.lt⟩
theorem Own3.alloc {W : World} {base e : Nat} {v : Value} {n : Nat} {xs : List Value} {top : Nat} (h : Own3 W base e v n xs top) (o : Obj) : Own3 (W.alloc o) base e v n xs top := h.below ((Below.refl _ _).alloc (Nat.le_refl _) o)
theorem Own3.drew {W : World} {base e : Nat} {v : Value} {n : Nat} {xs : List Value} {top : Nat} (h : Own3 W base e v n xs top) : Own3 W.drew base e v n xs top := ⟨h.row, h.lt⟩
theorem Own3.set {W : World} {base e : Nat} {v : Value} {n : Nat} {xs : List Value} {top c : Nat} (h : Own3 W base e v n xs top) (hc : top ≤ c) (o : Nat) (u : Value) : Own3 (W.setCell ⟨c, o, none⟩ u) base e v n xs top := by
  refine ⟨⟨h.row.1, ?_⟩, h.lt⟩
  rcases h.row.2 with h2 | ⟨g, cap, cur, rfl, h3, h4, h5⟩
  · exact .inl h2
  · have := h.lt g rfl
    refine .inr ⟨g, cap, cur, rfl, h3, ?_, h5⟩
    rw [Below.heap_setCell W ⟨c, o, none⟩ u g (by show g ≠ c; omega)]; exact h4
set_option maxRecDepth 4000 in
set_option maxHeartbeats 8000000 in
theorem differences_any (ad : Option Addr) (b cap : Nat) (f : Rg) (l : List Rg) (w : World) (h : RSl 30 w ad b cap (f :: l)) (ll : l.length ≤ 70) (hok : ∀ r ∈ f :: l, okR r) : Calls Tryd.prog 23 #[.slice ad (l.length + 1) cap] w fun e w' => ∃ v, e = .returned v ∧ w'.ownsRow w.heap.size 96 3 v l.length (rc (l.map (dif f))) ∧ Gr w w' := by
  have HR := hidb h
  have HO := hidb hok
  clear h hok
  have hll : Hid ((f :: l).length = l.length + 1) := by show _ = _; simp
  go_enter Tryd.func23, Tryd.ntmps23
  go_wp2
  go_loopw [3, 4] (fun v t wr => ∃ (k : Nat), k ≤ l.length ∧ t = .int .i64 ((k : Int) + 1) ∧ wr.ownsRow w.heap.size 96 3 v k (rc ((l.take k).map (dif f))) ∧ Hid (Gr w wr)) (fun _ t _ => l.length + 1 - (intOf t).toNat)
  case atStart => exact ⟨0, Nat.zero_le _, rfl, by simpa [rc] using World.ownsRow_nil w w.heap.size 96 3, Gr.refl _⟩
  case round =>
    obtain ⟨k, hk, rfl, hown, HG⟩ := hrel
    by_cases h1 : k < l.length
    · have hk1 : k + 1 < (f :: l).length := by simp; omega
      have hk0 : 0 < (f :: l).length := by simp
      obtain ⟨c0, c1, c2⟩ := (HR.out.below HG.out.out).cell hk1
      obtain ⟨e0, e1, e2⟩ := (HR.out.below HG.out.out).cell hk0
      have ix := HR.out.ix (k + 1) hk1
      have ix0 := HR.out.ix 0 hk0
      rw [hll.out] at ix ix0
      push_cast at ix ix0
      simp only [List.getElem_cons_succ, List.getElem_cons_zero, Nat.zero_mul, Nat.zero_add] at c0 c1 c2 e0 e1 e2 ix0
      have HT : Hid ((l.take (k + 1)).map (dif f) = (l.take k).map (dif f) ++ [dif f l[k]]) := by
        show _ = _
        rw [List.take_succ_eq_append_getElem h1, List.map_append]; rfl
      have hlen : ((l.take k).map (dif f)).length = k := by rw [List.length_map, List.length_take]; omega
      have HOo := hidb (HO.out l[k] (List.mem_cons_of_mem _ (List.getElem_mem h1)))
      have HOf := hidb (HO.out f (List.mem_cons_self ..))
      obtain ⟨r, hr⟩ : ∃ r, r = l[k] := ⟨_, rfl⟩
      rw [← hr] at c0 c1 c2 HT HOo
      clear hr
      obtain ⟨ad1, cap1, rfl⟩ := own_shape3 hown
      have O3 := Own3.of hown
      have hbl : b < wr.heap.size := lt_of_cell (p := ⟨b, 0, none⟩) e0
      obtain ⟨H0, hH0⟩ : ∃ H0, H0 = wr.heap.size := ⟨_, rfl⟩
      have bn1 : ¬ wr.heap.size = b := by omega
      have bn2 : ¬ wr.heap.size + 1 = b := by omega
      rw [← hH0] at O3
      have hHH := hidb hH0
      clear hown hH0
      go_upto_region 5 with fail
      go_cut [5, 6] from 13 to 19 (fun s5 s6 wx => ∃ B C, s5 = .pointer (some ⟨B, 0, none⟩) ∧ s6 = .pointer (some ⟨C, 0, none⟩) ∧ At wx B f.cs ∧ At wx C r.cs ∧ Own3 wx w.heap.size 96 (.slice ad1 k cap1) k (rc ((l.take k).map (dif f))) H0 ∧ Gr w wx ∧ H0 ≤ B ∧ H0 ≤ C)
      case first =>
        have HG1 := HG.out
        have hge := HG.out.out.size
        go_region_law (fail)
        all_goals
          go_wp2_with fail
          go_meet
          refine ⟨_, _, rfl, rfl, ?_, ?_, ?_, ?_, ?_, ?_⟩
        all_goals first
          | ((with_reducible repeat' (first | assumption | exact At.new1 _ _ _ | exact At.new2 _ _ _ _ | exact At.new3 _ _ _ _ _ | exact At.new5 _ _ _ _ _ _ _ | exact At.nx1 _ _ _ | exact At.nx2 _ _ _ _ | exact At.nx3 _ _ _ _ _ | exact At.ny1 _ _ _ _ | exact At.ny2 _ _ _ _ _ | exact At.ny3 _ _ _ _ _ _ | exact At.nz1 _ _ _ _ _ | exact At.nz2 _ _ _ _ _ _ | exact At.nz3 _ _ _ _ _ _ _ | exact Has.new1 _ _ _ | exact Has.new2 _ _ _ _ | exact Has.new3 _ _ _ _ _ | exact Has.nx1 _ _ _ | exact Has.nx2 _ _ _ _ | exact Has.nx3 _ _ _ _ _ | exact Has.ny1 _ _ _ _ | exact Has.ny2 _ _ _ _ _ | exact Has.ny3 _ _ _ _ _ _ | exact Has.nz1 _ _ _ _ _ | exact Has.nz2 _ _ _ _ _ _ | exact Has.nz3 _ _ _ _ _ _ _ | refine At.fill4 ?_ _ _ _ _ | refine At.fill1 ?_ _ | refine At.fill2 ?_ _ _ | refine At.fill3 ?_ _ _ _ | refine At.swap ?_ (by first | omega | (simp; omega)) _ _ | refine At.alloc ?_ _ | refine At.drew ?_ | refine At.drewN ?_ _ | refine At.skip ?_ (by first | omega | (simp; omega)) _ _ | refine At.below (by assumption) ?_ | exact At.has (by assumption) rfl | refine Has.alloc ?_ _ | refine Has.drew ?_ | refine Has.drewN ?_ _ | refine Has.set ?_ _ _ _ | refine Has.below (by assumption) ?_)); done)
          | ((with_reducible repeat' (first | assumption | refine Gr.drew ?_ | refine Gr.alloc ?_ _ | refine Gr.set ?_ (by first | omega | (simp; omega)) _ _ | exact Gr.refl _)); done)
          | ((with_reducible repeat' (first | assumption | refine Own3.drew ?_ | refine Own3.alloc ?_ _ | refine Own3.set ?_ (by have := hHH.out; first | omega | (simp; omega)) _ _)); done)
          | (have := hHH.out; omega)
          | (have := hHH.out; simp; omega)
      case rest =>
        clear O3 HG c0 c1 c2 e0 e1 e2 ix ix0
        obtain ⟨B, C, rfl, rfl, FB, FC, O3, HC, hBH, hCH⟩ := hcut
        obtain ⟨X, Y, Z, dx, dy, hdif, hx1, hx2, hy1, hy2, hz1⟩ := dif_words HOf.out HOo.out
        rw [hdif] at HT
        have HBr := hidb (fun w => beyond_any HOo.out w)
        have HBf := hidb (fun w => beyond_any HOf.out w)
        have HLn := hidb hlen
        clear hdif hlen
        have nB : some B ≠ (Value.slice ad1 k cap1).ownBlock := fun e => by have := O3.lt B e.symm; omega
        have nC : some C ≠ (Value.slice ad1 k cap1).ownBlock := fun e => by have := O3.lt C e.symm; omega
        go_upto_region 6 with fail
        go_region_held_law (fun w' => (w'.cell? ⟨B, 0, none⟩ = some (.int .i64 f.x) ∧ w'.cell? ⟨B, 1, none⟩ = some (.int .i64 f.y) ∧ w'.cell? ⟨B, 2, none⟩ = some (.int .i64 f.q)) ∧ w'.cell? ⟨C, 0, none⟩ = some (.int .i64 r.x) ∧ w'.cell? ⟨C, 1, none⟩ = some (.int .i64 r.y) ∧ w'.cell? ⟨C, 2, none⟩ = some (.int .i64 r.q))
          (first | (with_reducible exact ⟨FB.c3, FC.c3⟩) | exact ⟨FB.c3, FC.c3⟩ | exact ⟨(FB.alloc _).c3, (FC.alloc _).c3⟩)
          ((first
            | (refine step_r3 73 96 (.inr ⟨rfl, rfl⟩) _ w.heap.size (.slice ad1 k cap1) ((l.take k).map (dif f)) ⟨X, Y, Z⟩ k _ _ _ rfl rfl rfl rfl HLn.out (by omega) (O3.alloc _).row (At.new3 _ _ _ _ _) (by have := HC.out.size; simp; omega) ?_; intro g cap2 w2 hown2 hgrow2; replace FB := At.grown3 (FB.alloc _) hgrow2 nB; replace FC := At.grown3 (FC.alloc _) hgrow2 nC; replace HC : Gr w w2 := Below.grown (HC.alloc _).out hgrow2 (by have := HC.out.size; simp; omega) (fun kk hkk => (O3.row.lt kk hkk).1))
            | (go_at_call 45; (first | with_reducible refine (HBr.out _).mono ?_ | with_reducible refine (HBf.out _).mono ?_); rintro e w5 ⟨rfl, hB5, hs5⟩; (with_reducible first | replace hB5 := undr hB5 | skip); replace HC := Gr.step HC hB5; replace FB := At.below hB5 FB; replace FC := At.below hB5 FC; replace O3 := O3.below hB5; clear hB5 hs5)))
        all_goals
          have HG2 := hidb HC
          rw [← HT.out] at hown2
          clear hgrow2 HC HT FB FC O3 HBr HBf
          go_wp2
          go_roundw
        all_goals first
          | (case rel => exact ⟨k + 1, by omega, by go_num, hown2, HG2.out⟩)
          | (case measure => simp [intOf]; omega)
    · have hkl : k = l.length := by omega
      rw [hkl, List.take_of_length_le (Nat.le_refl _)] at hown
      obtain ⟨ad1, cap1, rfl⟩ := own_shape3 hown
      have H1 := hidb hown
      clear hown hkl
      go_wp2
      go_ret
      exact ⟨_, rfl, H1.out, HG.out⟩
end Go.Proofs.YtehkonddgiakaaaDoor
