/-
  mercatorref3.InTree.; mercatorref3.IsLoop, of a right loop.
-/
import Derived.Test.YtecmkjefoppbiaaDoorQSvU
namespace Go.Proofs.YtecmkjefoppbiaaDoor
open Go.RowKit
attribute [local go_sem ↓] Go.wp_at_zero Go.wp_at_succ

theorem in_mark {E : List Ed} {M : Nat} {s : BS} (h : SrI E M s) {i : Nat} (hi : inT E s i) : ∃ x, x < M ∧ (wX s x = (i : Int) + 1 ∨ wX s x = -((i : Int) + 1)) := by
  have key : ∀ x, ¬ wX s x = 0 → x < M := fun x hx => Classical.byContradiction fun hn => hx (by
    unfold wX
    rw [List.getD_eq_getElem?_getD, List.getElem?_eq_none (by rw [h.l]; omega)]
    rfl)
  rcases hi with hi | hi
  · exact ⟨_, key _ (by omega), .inl hi⟩
  · exact ⟨_, key _ (by omega), .inr hi⟩
theorem At.wy {W : World} {WB M : Nat} {E : List Ed} {s : BS} (h : At W WB (ir s.wy)) (hs : SrI E M s) {x : Nat} (hx : x < M) : W.cell? ⟨WB, x, none⟩ = some (.int .i64 (wX s x)) := by
  have hl := hs.l
  have := (h.1 x (by simpa [ir, hl] using hx)).1
  simpa [ir, wX, hl, hx] using this
set_option maxRecDepth 4000 in
set_option maxHeartbeats 8000000 in
theorem rinTree_any (w : World) {WB M : Nat} {E : List Ed} {s : BS} (hA : At w WB (ir s.wy)) (hs : SrI E M s) (hM : M ≤ 20) (i : Nat) (hi : i ≤ 100) : Calls Tryd.prog 10 #[.slice (some ⟨WB, 0, none⟩) M M, .int .i64 (i : Int)] w fun e w' => e = .returned (.bool (decide (inT E s i))) ∧ w' = w := by
  have HA := hidb (fun x (hx : x < M) => hA.wy hs hx)
  have HIn := hidb (in_iff (i := i) hs)
  have HMk := hidb (fun q => in_mark (i := i) hs q)
  have HM := hidb hM
  have e1 : IntKind.i64.wrap ((i : Int) + 1) = (i : Int) + 1 := wr_in (by omega) (by omega)
  have e2 : IntKind.i64.wrap (-(i : Int)) = -(i : Int) := wr_in (by omega) (by omega)
  have e3 : IntKind.i64.wrap (-(i : Int) - 1) = -((i : Int) + 1) := by rw [show -(i : Int) - 1 = -((i : Int) + 1) by omega]; exact wr_in (by omega) (by omega)
  generalize hr : decide (inT E s i) = r
  have HT : Hid (inT E s i → r = true) := fun q => by rw [← hr]; exact decide_eq_true q
  have HF : Hid (¬ inT E s i → r = false) := fun q => by rw [← hr]; exact decide_eq_false q
  clear hA hs hM hr
  go_enter Tryd.func10, Tryd.ntmps10
  go_wp2
  go_loopw [5] (fun t wr => ∃ k : Nat, k ≤ M ∧ t = .int .i64 (k : Int) ∧ Hid (∀ x, x < k → ¬ (wX s x = (i : Int) + 1 ∨ wX s x = -((i : Int) + 1))) ∧ wr = w) (fun t _ => M - (intOf t).toNat)
  case atStart => exact ⟨0, Nat.zero_le _, rfl, (fun x hx => by omega), rfl⟩
  case round =>
    obtain ⟨k, hk, rfl, HN, hwr⟩ := hrel
    obtain rfl : w = wr := hwr.symm
    clear hwr
    by_cases h1 : ¬ k < M
    · have h1' : ¬ (k : Int) < (M : Int) := by omega
      obtain rfl : r = false := HF.out (fun q => by
        obtain ⟨x, hx, hw⟩ := HMk.out q
        exact HN.out x (by omega) hw)
      clear h1 hk
      go_wp2
      go_ret
      exact ⟨rfl, rfl⟩
    · have h1' : (k : Int) < (M : Int) := by omega
      have H1 := hidb (show k < M by omega)
      have ix := indexI WB M M k H1.out
      have ck := HA.out k H1.out
      have e9 : IntKind.i64.wrap ((k : Int) + 1) = ((k + 1 : Nat) : Int) := by rw [show (k : Int) + 1 = ((k + 1 : Nat) : Int) by omega]; exact wr_in (by omega) (by have := HM.out; omega)
      by_cases d1 : wX s k = (i : Int) + 1
      · have q1 : (wX s k == (i : Int) + 1) = true := by simpa using d1
        obtain rfl : r = true := HT.out (HIn.out ⟨k, H1.out, .inl d1⟩)
        generalize wX s k = a at *
        clear d1 h1 hk
        go_wp2
        go_ret
        exact ⟨rfl, rfl⟩
      · have q1 : (wX s k == (i : Int) + 1) = false := by simpa using d1
        by_cases d2 : wX s k = -((i : Int) + 1)
        · have q2 : (wX s k == -((i : Int) + 1)) = true := by simpa using d2
          obtain rfl : r = true := HT.out (HIn.out ⟨k, H1.out, .inr d2⟩)
          generalize wX s k = a at *
          clear d1 d2 h1 hk
          go_wp2
          go_ret
          exact ⟨rfl, rfl⟩
        · have q2 : (wX s k == -((i : Int) + 1)) = false := by simpa using d2
          have HN2 : Hid (∀ x, x < k + 1 → ¬ (wX s x = (i : Int) + 1 ∨ wX s x = -((i : Int) + 1))) := fun x hx q => by
            by_cases e : x = k
            · rw [e] at q; exact q.elim d1 d2
            · exact HN.out x (by omega) q
          generalize wX s k = a at *
          clear d1 d2 h1 hk
          go_wp2
          go_roundw
          case rel => exact ⟨k + 1, H1.out, by go_num, HN2.out, by first | exact trivial | rfl⟩
          case measure => have := H1.out; simp [intOf]; omega
end Go.Proofs.YtecmkjefoppbiaaDoor
namespace Go.Proofs.YtecmkjefoppbiaaDoor
open Go.RowKit
attribute [local go_sem ↓] Go.wp_at_zero Go.wp_at_succ

/-- Where one is behind so many ways. -/
def noC (E : List Ed) (a : Nat) (L : List Int) : Nat → Nat
  | 0 => a
  | k + 1 => toW E (L.getD k 0)
theorem ch_at {E : List Ed} : ∀ {L : List Int} {a b : Nat}, chE E a L b → (∀ k, (hk : k < L.length) → ¬ L[k] = 0 ∧ frW E L[k] = noC E a L k) ∧ noC E a L L.length = b
  | [], a, b, h => ⟨fun k hk => by simp at hk, h⟩
  | w :: l, a, b, h => by
    obtain ⟨h1, h2, h3⟩ := h
    obtain ⟨i1, i2⟩ := ch_at h3
    have e : ∀ k, noC E (toW E w) l k = noC E a (w :: l) (k + 1) := fun k => by
      cases k with
      | zero => rfl
      | succ k => rfl
    refine ⟨fun k hk => ?_, ?_⟩
    · cases k with
      | zero => exact ⟨h1, h2⟩
      | succ k =>
        obtain ⟨j1, j2⟩ := i1 k (by simpa using hk)
        exact ⟨j1, j2.trans (e k)⟩
    · rw [List.length_cons, ← e]
      exact i2
/-- What a loop that is right holds at each of its ways. -/
structure LoA (l : List Sn) (s : BS) (i : Nat) (L : List Int) (k : Nat) (z : Int) : Prop where
  z0 : ¬ z = 0
  zl : z.natAbs ≤ l.length
  f : frW (edL l) z = noC (edL l) (eX (edL l) i).1 L k
  t : toW (edL l) z = noC (edL l) (eX (edL l) i).1 L (k + 1)
  i : 0 < k → inT (edL l) s (z.natAbs - 1)
  n : ∀ j, (hj : j < k) → ¬ L.getD j 0 = z ∧ ¬ L.getD j 0 = -z
theorem loop_at {l : List Sn} {s : BS} {i : Nat} {L : List Int} (h : LoopOK l s i L) (hi : i < l.length) {k : Nat} (hk : k < L.length) : LoA l s i L k L[k] := by
  obtain ⟨T, e, h1, h2, h3⟩ := h
  obtain ⟨c1, -⟩ := ch_at h1
  have hz : ¬ L[k] = 0 ∧ L[k].natAbs ≤ l.length := by
    have hm : ∀ x, x ∈ L → x = (i : Int) + 1 ∨ x ∈ T := fun x hx => by rw [e] at hx; exact List.mem_cons.1 hx
    rcases hm _ (List.getElem_mem hk) with q | q
    · rw [q]; omega
    · exact ⟨(h2 _ q).1, (h2 _ q).2.1⟩
  refine ⟨hz.1, hz.2, (c1 k hk).2, ?_, fun h0 => ?_, fun j hj => ?_⟩
  · show _ = toW (edL l) (L.getD k 0)
    simp [hk]
  · obtain ⟨k', rfl⟩ : ∃ k', k = k' + 1 := ⟨k - 1, by omega⟩
    have hk' : k' < T.length := by rw [e] at hk; simpa using hk
    have : L[k' + 1] = T[k'] := by simp [e]
    rw [this]
    exact (h2 _ (List.getElem_mem hk')).2.2
  · have hj' : j < L.length := by omega
    have hne : ¬ L[j].natAbs = L[k].natAbs := by
      have := (List.pairwise_iff_getElem.1 (List.nodup_iff_pairwise_ne.1 h3)) j k (by simpa using hj') (by simpa using hk) hj
      simpa using this
    rw [show L.getD j 0 = L[j] by simp [hj']]
    exact ⟨fun q => hne (by rw [q]), fun q => hne (by rw [q, Int.natAbs_neg])⟩
theorem loop_end {l : List Sn} {s : BS} {i : Nat} {L : List Int} (h : LoopOK l s i L) : noC (edL l) (eX (edL l) i).1 L L.length = (eX (edL l) i).1 ∧ 0 < L.length ∧ L.getD 0 0 = (i : Int) + 1 := by
  obtain ⟨T, e, h1, -, -⟩ := h
  exact ⟨(ch_at h1).2, by rw [e]; simp, by rw [e]; rfl⟩
theorem to_sn {M : Nat} {l : List Sn} (h : FT M l) {w : Int} (h0 : ¬ w = 0) (hw : w.natAbs ≤ l.length) : ((toW (edL l) w : Nat) : Int) = if w < 0 then (snX l (-w - 1).toNat).f else (snX l (w - 1).toNat).t := by
  unfold toW
  by_cases c : 0 < w
  · rw [if_pos c, if_neg (by omega), eX_ed (by omega)]
    have := (h (w - 1).toNat (by omega)).2.1
    unfold mkP at this
    dsimp only
    omega
  · rw [if_neg c, if_pos (by omega), eX_ed (by omega)]
    have := (h (-w - 1).toNat (by omega)).1
    unfold mkP at this
    dsimp only
    omega
section
variable {l : List Sn} {ad : Option Addr} {b o cap pb po : Nat}
set_option maxRecDepth 4000 in
set_option maxHeartbeats 16000000 in
theorem risLoop_any (w : World) {M WB : Nat} {B : Int} (hS : SIn w pb po M B ad b o cap l) (hM : M ≤ 20) (hn : l.length ≤ 80) (hF : FT M l) {s : BS} (hs : SrI (edL l) M s) (hA : At w WB (ir s.wy)) {i : Nat} (hi : i < l.length) {L : List Int} (hL : LoopOK l s i L) {g cp base : Nat} (hO : w.ownsRow base 3 1 (.slice (some ⟨g, 0, none⟩) L.length cp) L.length (ir L)) (hLl : L.length ≤ 100) : Calls Tryd.prog 11 #[.pointer (some ⟨pb, po, none⟩), .slice (some ⟨WB, 0, none⟩) M M, .int .i64 (i : Int), .slice (some ⟨g, 0, none⟩) L.length cp] w fun e w' => e = .returned (.tuple #[.int .i64 (upL l L), .bool true]) ∧ Gr w w' := by
  have HS := hidb hS
  have HIx := hidb hS.sl.ix
  have HF := hidb hF
  have HLo := hidb (fun k hk => loop_at hL hi (k := k) hk)
  have HLe := hidb (loop_end hL)
  have HO := hidb (fun W (hG : Gr w W) j (hj : j < L.length) => own_get (own_kept hO hG.out) hj)
  have HIt := hidb (fun W (hG : Gr w W) j (hj : j ≤ 100) => rinTree_any W (At.below hG.out hA) hs hM j hj)
  have HUb : Hid (∀ k, k ≤ L.length → -(1048576 * (k : Int)) ≤ upL l (L.take k) ∧ upL l (L.take k) ≤ 1048576 * (k : Int)) := fun k hk => by
    have := upL_bd hF (L := L.take k) (fun z hz => by
      obtain ⟨j, hj, rfl⟩ := List.getElem_of_mem (List.mem_of_mem_take hz)
      exact ⟨(loop_at hL hi hj).z0, (loop_at hL hi hj).zl⟩)
    rwa [List.length_take, Nat.min_eq_left hk] at this
  have HPt := hidb (fun W (hG : Gr w W) => (hS.below hG).pt)
  have HEy : Hid (((eX (edL l) i).1 : Int) = (snX l i).f) := by
    have h1 := (hF i hi).1
    unfold mkP at h1
    show _ = _
    rw [eX_ed hi]
    dsimp only
    omega
  obtain ⟨n, hn'⟩ : ∃ n, n = l.length := ⟨_, rfl⟩
  have HNl : Hid (n = l.length ∧ n ≤ 80 ∧ i < n) := ⟨hn', by omega, by omega⟩
  rw [← hn'] at HIx HPt
  obtain ⟨m, hm⟩ : ∃ m, m = L.length := ⟨_, rfl⟩
  have HMl : Hid (m = L.length ∧ m ≤ 100) := ⟨hm, by omega⟩
  rw [← hm] at HO HUb HLe ⊢
  obtain ⟨p0, p1, p2⟩ := HPt.out w (Gr.refl w)
  have c00 := HO.out w (Gr.refl w) 0 HLe.out.2.1
  rw [HLe.out.2.2] at c00
  have ix0 := indexI g m cp 0 HLe.out.2.1
  push_cast at ix0
  have e1 : IntKind.i64.wrap ((i : Int) + 1) = (i : Int) + 1 := wr_in (by omega) (by omega)
  have hm0 : ((m : Int) == 0) = false := by have := HLe.out.2.1; simp; omega
  have ixi := HIx.out i HNl.out.2.2
  obtain ⟨⟨ci, -, -, -⟩, -⟩ := (HS.out.below (Gr.refl w)).sl.row i (by have := HNl.out; omega)
  rw [← HEy.out] at ci
  obtain ⟨y, hy⟩ : ∃ y, y = (eX (edL l) i).1 := ⟨_, rfl⟩
  have HY := hidb hy
  rw [← hy] at HLe ci HEy
  clear hS hM hn hF hs hA hi hL hO hLl hn' hm hy
  go_enter Tryd.func11, Tryd.ntmps11
  go_wp2
  clear p0 p1 p2 c00 ix0 hm0 ci ixi
  go_loopw [10, 11, 12] (fun a v t wr => ∃ k : Nat, k ≤ m ∧ a = .int .i64 ((noC (edL l) y L k : Nat) : Int) ∧ v = .int .i64 (upL l (L.take k)) ∧ t = .int .i64 (k : Int) ∧ Hid (Gr w wr)) (fun _ _ t _ => m - (intOf t).toNat)
  case atStart => exact ⟨0, Nat.zero_le _, rfl, by simp [upL], rfl, hidb (Gr.refl _)⟩
  case round =>
    obtain ⟨k, hk, rfl, rfl, rfl, E⟩ := hrel
    obtain ⟨p0, p1, p2⟩ := HPt.out wr E.out
    by_cases h1 : ¬ k < m
    · have h1' : ¬ (k : Int) < (m : Int) := by omega
      have hkm : k = m := by omega
      have HU : Hid (upL l (L.take k) = upL l L ∧ noC (edL l) y L k = y) := ⟨by rw [List.take_of_length_le (by rw [← HMl.out.1]; omega)], by rw [hkm]; exact HLe.out.1⟩
      have ixi := HIx.out i HNl.out.2.2
      obtain ⟨⟨ci, -, -, -⟩, -⟩ := (HS.out.below E.out).sl.row i (by have := HNl.out; omega)
      rw [← HEy.out] at ci
      rw [HU.out.1, HU.out.2]
      clear h1 hkm
      go_upto_region 34 with fail
      go_region
      go_wp2
      exact bodyPost_ret (v := .tuple #[.int .i64 (upL l L), .bool true]) (by simp [results, Tryd.results11, go_sem]) rfl ⟨rfl, E.out.drew⟩
    · have h1' : (k : Int) < (m : Int) := by omega
      have H1 := hidb (show k < m by omega)
      have hkL : k < L.length := by rw [← HMl.out.1]; exact H1.out
      have HZ := hidb (HLo.out k hkL)
      have ck := HO.out wr E.out k (by omega)
      rw [show L.getD k 0 = L[k] by simp [hkL]] at ck
      have ixk := indexI g m cp k H1.out
      have e9 : IntKind.i64.wrap ((k : Int) + 1) = ((k + 1 : Nat) : Int) := by rw [show (k : Int) + 1 = ((k + 1 : Nat) : Int) by omega]; exact wr_in (by omega) (by have := HMl.out; omega)
      have HUn : Hid (upL l (L.take (k + 1)) = upL l (L.take k) + upW l L[k]) := by show _ = _; rw [List.take_succ_eq_append_getElem hkL, upL_snoc]
      have hb := HUb.out (k + 1) H1.out
      rw [HUn.out] at hb
      push_cast at hb
      have HB := hidb hb
      have HFr := hidb (fr_sn HF.out HZ.out.z0 HZ.out.zl)
      have HTo := hidb (to_sn HF.out HZ.out.z0 HZ.out.zl)
      rw [HZ.out.f, ← HY.out] at HFr
      rw [HZ.out.t, ← HY.out] at HTo
      generalize L[k] = z at *
      have z0 := HZ.out.z0
      have zl : z.natAbs ≤ n := by rw [HNl.out.1]; exact HZ.out.zl
      have q0 : (z == 0) = false := by simpa using z0
      have q1 : ¬ (n : Int) < z := by omega
      have q2 : ¬ z < -(n : Int) := by omega
      have e2 : IntKind.i64.wrap (-(n : Int)) = -(n : Int) := wr_in (by have := HNl.out; omega) (by omega)
      have e3 : IntKind.i64.wrap (-z) = -z := wr_in (by have := HNl.out; omega) (by have := HNl.out; omega)
      have HZl := hidb (And.intro z0 zl)
      have HNj : Hid (∀ j, j < k → ∀ W, Gr w W → ∃ x, W.cell? ⟨g, j, none⟩ = some (.int .i64 x) ∧ (x == z) = false ∧ (x == -z) = false) := fun j hj W hG => ⟨L.getD j 0, HO.out W hG j (by have := H1.out; have := HMl.out; omega), by simpa using (HZ.out.n j hj).1, by simpa using (HZ.out.n j hj).2⟩
      have HIj := hidb (fun h0 => HZ.out.i h0)
      clear z0 zl h1 hkL hb hk HZ
      generalize hp : noC (edL l) y L k = p at *
      go_wp2
      clear p0 p1 p2 ck ixk q0 q1 q2 e2 hp
      go_loopw [14] (fun t wq => ∃ j : Nat, j ≤ k ∧ t = .int .i64 (j : Int) ∧ Hid (Gr w wq)) (fun t _ => k - (intOf t).toNat)
      case atStart => exact ⟨0, Nat.zero_le _, rfl, E⟩
      case round =>
        clear E
        obtain ⟨j, hj, rfl, E⟩ := hrel
        by_cases h2 : ¬ j < k
        · have h2' : ¬ (j : Int) < (k : Int) := by omega
          clear h2 hj HNj
          by_cases c : z < 0
          · skip
            rw [if_pos c] at HFr HTo
            have e4 : IntKind.i64.wrap (-z - 1) = (((-z - 1).toNat : Nat) : Int) := by rw [show (((-z - 1).toNat : Nat) : Int) = -z - 1 by have := HZl.out; omega]; exact wr_in (by have := HNl.out; have := HZl.out; omega) (by have := HNl.out; have := HZl.out; omega)
            have HJ : Hid ((-z - 1).toNat < n ∧ z.natAbs - 1 = (-z - 1).toNat) := by have := HZl.out; show _ ∧ _; omega
            rw [HJ.out.2] at HIj
            have hu : upW l z = -(snX l (-z - 1).toNat).u := by unfold upW; rw [if_pos c]
            rw [hu] at HUn HB
            generalize (-z - 1).toNat = r at *
            have ixr := HIx.out r HJ.out.1
            have hrl : r < l.length := by have := HNl.out; have := HJ.out; omega
            have hub := (HF.out r hrl).2.2.2.2.2
            obtain ⟨⟨c0, c1, c2, c3⟩, -⟩ := (HS.out.below E.out).sl.row r hrl
            rw [← HTo.out] at c0
            rw [← HFr.out] at c1
            generalize (snX l r).u = u at *
            generalize (snX l r).w = gw at *
            have hB1 := HB.out
            have hk100 : (k : Int) + 1 ≤ 100 := by have := HMl.out; have := H1.out; omega
            have e5 : IntKind.i64.wrap (-u) = -u := wr_in (by omega) (by omega)
            have e6 : IntKind.i64.wrap (upL l (L.take k) + -u) = upL l (L.take k) + -u := wr_in (by omega) (by omega)
            have HUk := HUn
            generalize upL l (L.take k) = U at *
            obtain ⟨p0, p1, p2⟩ := HPt.out wr E.out
            have AR := hidb (At.new4 wr (.int .i64 ((noC (edL l) y L (k + 1) : Nat) : Int)) (.int .i64 (p : Int)) (.int .i64 u) (.int .i64 gw) 51)
            generalize hq : noC (edL l) y L (k + 1) = q at *
            have HGn := hidb (E.out.alloc (.cells #[.int .i64 (q : Int), .int .i64 (p : Int), .int .i64 u, .int .i64 gw] 51))
            have HI := hidb (HIt.out wr E.out r (by have := HNl.out; have := HJ.out; omega))
            clear hu hrl hub hB1 hk100 HB HUn HJ HZl
            by_cases k0 : k = 0
            · have k1 : ¬ 0 < k := by omega
              generalize decide (inT (edL l) s r) = bb at HI
              clear k0
              go_wp2_with fail
              refine HI.out.mono ?_
              rintro e w5 ⟨rfl, hw⟩
              obtain rfl : wr = w5 := hw.symm
              clear hw
              go_upto_region 23 with fail
              clear c0 c1 c2 c3 ixr p0 p1 p2
              obtain ⟨NB, hNB⟩ : ∃ z, z = wr.heap.size := ⟨_, rfl⟩
              rw [← hNB] at AR ⊢
              generalize wr.alloc (.cells #[.int .i64 (q : Int), .int .i64 (p : Int), .int .i64 u, .int .i64 gw] 51) = W3 at *
              clear hNB e3 e4 h2' h1' k1
              obtain ⟨c0, c1, c2, c3⟩ := AR.out.c4
              have HQq := hidb hq
              clear hq
              go_wp2
              go_roundw
              case rel => exact ⟨k + 1, H1.out, by rw [HQq.out], by rw [HUk.out], by go_num, HGn⟩
              case measure => have := H1.out; simp [intOf]; omega
            · have k1 : 0 < k := by omega
              rw [decide_eq_true (HIj.out k1)] at HI
              clear k0
              go_wp2_with fail
              refine HI.out.mono ?_
              rintro e w5 ⟨rfl, hw⟩
              obtain rfl : wr = w5 := hw.symm
              clear hw
              go_upto_region 23 with fail
              clear c0 c1 c2 c3 ixr p0 p1 p2
              obtain ⟨NB, hNB⟩ : ∃ z, z = wr.heap.size := ⟨_, rfl⟩
              rw [← hNB] at AR ⊢
              generalize wr.alloc (.cells #[.int .i64 (q : Int), .int .i64 (p : Int), .int .i64 u, .int .i64 gw] 51) = W3 at *
              clear hNB e3 e4 h2' h1' k1
              obtain ⟨c0, c1, c2, c3⟩ := AR.out.c4
              have HQq := hidb hq
              clear hq
              go_wp2
              go_roundw
              case rel => exact ⟨k + 1, H1.out, by rw [HQq.out], by rw [HUk.out], by go_num, HGn⟩
              case measure => have := H1.out; simp [intOf]; omega
          · skip
            rw [if_neg c] at HFr HTo
            have e4 : IntKind.i64.wrap (z - 1) = (((z - 1).toNat : Nat) : Int) := by rw [show (((z - 1).toNat : Nat) : Int) = z - 1 by have := HZl.out; omega]; exact wr_in (by have := HNl.out; have := HZl.out; omega) (by have := HNl.out; have := HZl.out; omega)
            have HJ : Hid ((z - 1).toNat < n ∧ z.natAbs - 1 = (z - 1).toNat) := by have := HZl.out; show _ ∧ _; omega
            rw [HJ.out.2] at HIj
            have hu : upW l z = (snX l (z - 1).toNat).u := by unfold upW; rw [if_neg c]
            rw [hu] at HUn HB
            generalize (z - 1).toNat = r at *
            have ixr := HIx.out r HJ.out.1
            have hrl : r < l.length := by have := HNl.out; have := HJ.out; omega
            have hub := (HF.out r hrl).2.2.2.2.2
            obtain ⟨⟨c0, c1, c2, c3⟩, -⟩ := (HS.out.below E.out).sl.row r hrl
            rw [← HFr.out] at c0
            rw [← HTo.out] at c1
            generalize (snX l r).u = u at *
            generalize (snX l r).w = gw at *
            have hB1 := HB.out
            have hk100 : (k : Int) + 1 ≤ 100 := by have := HMl.out; have := H1.out; omega
            have e6 : IntKind.i64.wrap (upL l (L.take k) + u) = upL l (L.take k) + u := wr_in (by omega) (by omega)
            have HUk := HUn
            generalize upL l (L.take k) = U at *
            obtain ⟨p0, p1, p2⟩ := HPt.out wr E.out
            have AR := hidb (At.new4 wr (.int .i64 (p : Int)) (.int .i64 ((noC (edL l) y L (k + 1) : Nat) : Int)) (.int .i64 u) (.int .i64 gw) 51)
            generalize hq : noC (edL l) y L (k + 1) = q at *
            have HGn := hidb (E.out.alloc (.cells #[.int .i64 (p : Int), .int .i64 (q : Int), .int .i64 u, .int .i64 gw] 51))
            have HI := hidb (HIt.out wr E.out r (by have := HNl.out; have := HJ.out; omega))
            clear hu hrl hub hB1 hk100 HB HUn HJ HZl
            by_cases k0 : k = 0
            · have k1 : ¬ 0 < k := by omega
              generalize decide (inT (edL l) s r) = bb at HI
              clear k0
              go_wp2_with fail
              refine HI.out.mono ?_
              rintro e w5 ⟨rfl, hw⟩
              obtain rfl : wr = w5 := hw.symm
              clear hw
              go_upto_region 23 with fail
              clear c0 c1 c2 c3 ixr p0 p1 p2
              obtain ⟨NB, hNB⟩ : ∃ z, z = wr.heap.size := ⟨_, rfl⟩
              rw [← hNB] at AR ⊢
              generalize wr.alloc (.cells #[.int .i64 (p : Int), .int .i64 (q : Int), .int .i64 u, .int .i64 gw] 51) = W3 at *
              clear hNB e3 e4 h2' h1' k1
              obtain ⟨c0, c1, c2, c3⟩ := AR.out.c4
              have HQq := hidb hq
              clear hq
              go_wp2
              go_roundw
              case rel => exact ⟨k + 1, H1.out, by rw [HQq.out], by rw [HUk.out], by go_num, HGn⟩
              case measure => have := H1.out; simp [intOf]; omega
            · have k1 : 0 < k := by omega
              rw [decide_eq_true (HIj.out k1)] at HI
              clear k0
              go_wp2_with fail
              refine HI.out.mono ?_
              rintro e w5 ⟨rfl, hw⟩
              obtain rfl : wr = w5 := hw.symm
              clear hw
              go_upto_region 23 with fail
              clear c0 c1 c2 c3 ixr p0 p1 p2
              obtain ⟨NB, hNB⟩ : ∃ z, z = wr.heap.size := ⟨_, rfl⟩
              rw [← hNB] at AR ⊢
              generalize wr.alloc (.cells #[.int .i64 (p : Int), .int .i64 (q : Int), .int .i64 u, .int .i64 gw] 51) = W3 at *
              clear hNB e3 e4 h2' h1' k1
              obtain ⟨c0, c1, c2, c3⟩ := AR.out.c4
              have HQq := hidb hq
              clear hq
              go_wp2
              go_roundw
              case rel => exact ⟨k + 1, H1.out, by rw [HQq.out], by rw [HUk.out], by go_num, HGn⟩
              case measure => have := H1.out; simp [intOf]; omega
        · have h2' : (j : Int) < (k : Int) := by omega
          have H2 := hidb (show j < k by omega)
          obtain ⟨x, cx, x1, x2⟩ := HNj.out j H2.out wr E.out
          have ixj := indexI g m cp j (by have := H1.out; have := H2.out; omega)
          have e8 : IntKind.i64.wrap ((j : Int) + 1) = ((j + 1 : Nat) : Int) := by rw [show (j : Int) + 1 = ((j + 1 : Nat) : Int) by omega]; exact wr_in (by omega) (by have := HMl.out; have := H1.out; omega)
          clear h2 hj
          go_wp2
          go_roundw
          case rel => exact ⟨j + 1, H2.out, by go_num, E⟩
          case measure => have := H2.out; simp [intOf]; omega
end
end Go.Proofs.YtecmkjefoppbiaaDoor
