/-
  mercatorref5.apart.
-/
import Derived.Test.YtnadgoomkaldkaaDoorQTk
import Derived.Test.YtnadgoomkaldkaaDoorQSfG
import Derived.Test.YtnadgoomkaldkaaDoorQSfE
import Derived.Deep.RegionHeld3
import Derived.BigQuiet
namespace Go.Proofs.YtnadgoomkaldkaaDoor
open Go.RowKit
attribute [local go_sem ↓] Go.wp_at_zero Go.wp_at_succ

/-- Four points in memory. -/
def C8 (W : World) (bA u1 u2 bB v1 v2 : Nat) (p q r s : Sp) : Prop :=
  (W.cell? ⟨bA, u1, none⟩ = some (.int .i64 p.1) ∧ W.cell? ⟨bA, u1 + 1, none⟩ = some (.int .i64 p.2)) ∧ (W.cell? ⟨bA, u2, none⟩ = some (.int .i64 q.1) ∧ W.cell? ⟨bA, u2 + 1, none⟩ = some (.int .i64 q.2)) ∧ (W.cell? ⟨bB, v1, none⟩ = some (.int .i64 r.1) ∧ W.cell? ⟨bB, v1 + 1, none⟩ = some (.int .i64 r.2)) ∧ W.cell? ⟨bB, v2, none⟩ = some (.int .i64 s.1) ∧ W.cell? ⟨bB, v2 + 1, none⟩ = some (.int .i64 s.2)
/-- Is one pair ahead of another one, as they are looked at? -/
def bef (i' k' j' n' i k j n : Nat) : Prop := i' < i ∨ (i' = i ∧ (k' < k ∨ (k' = k ∧ (j' < j ∨ (j' = j ∧ n' < n)))))
/-- All the pairs that were looked at are as they should be. -/
def apU (Ls : List (List Sp)) (i k j n : Nat) : Prop := ∀ i', i' < Ls.length → ∀ k', k' + 1 < (lx Ls i').length → ∀ j', j' < Ls.length → ∀ n', n' + 1 < (lx Ls j').length → ahd j' n' i' k' → bef i' k' j' n' i k j n → prOK i' j' (lx Ls i') (lx Ls j') k' n'
theorem apU.zero (Ls : List (List Sp)) : apU Ls 0 0 0 0 := fun i' _ k' _ j' _ n' _ _ hb => by unfold bef at hb; omega
theorem apU.all {Ls : List (List Sp)} (h : apU Ls Ls.length 0 0 0) : apP Ls := fun i' h1 k' h2 j' h3 n' h4 h5 => h i' h1 k' h2 j' h3 n' h4 h5 (by unfold bef; omega)
theorem apU.up1 {Ls : List (List Sp)} {i k : Nat} (h : apU Ls i k 0 0) (hk : ¬ k + 1 < (lx Ls i).length) : apU Ls (i + 1) 0 0 0 := fun i' h1 k' h2 j' h3 n' h4 h5 h6 => h i' h1 k' h2 j' h3 n' h4 h5 (by
  unfold bef at h6 ⊢
  by_cases e : i' = i
  · subst e; omega
  · omega)
theorem apU.up2 {Ls : List (List Sp)} {i k j : Nat} (h : apU Ls i k j 0) (hj : ¬ j ≤ i) : apU Ls i (k + 1) 0 0 := fun i' h1 k' h2 j' h3 n' h4 h5 h6 => h i' h1 k' h2 j' h3 n' h4 h5 (by
  unfold bef at h6 ⊢
  unfold ahd at h5
  omega)
theorem apU.up3 {Ls : List (List Sp)} {i k j n : Nat} (h : apU Ls i k j n) (hn : ¬ n + 1 < (lx Ls j).length) : apU Ls i k (j + 1) 0 := fun i' h1 k' h2 j' h3 n' h4 h5 h6 => h i' h1 k' h2 j' h3 n' h4 h5 (by
  unfold bef at h6 ⊢
  by_cases e : j' = j
  · subst e; omega
  · omega)
theorem apU.brk {Ls : List (List Sp)} {i k j n : Nat} (h : apU Ls i k j n) (hj : j = i) (hn : k ≤ n) : apU Ls i k (j + 1) 0 := fun i' h1 k' h2 j' h3 n' h4 h5 h6 => h i' h1 k' h2 j' h3 n' h4 h5 (by
  unfold bef at h6 ⊢
  unfold ahd at h5
  omega)
theorem apU.step {Ls : List (List Sp)} {i k j n : Nat} (h : apU Ls i k j n) (hp : prOK i j (lx Ls i) (lx Ls j) k n) : apU Ls i k j (n + 1) := fun i' h1 k' h2 j' h3 n' h4 h5 h6 => by
  by_cases e : i' = i ∧ k' = k ∧ j' = j ∧ n' = n
  · obtain ⟨rfl, rfl, rfl, rfl⟩ := e; exact hp
  · exact h i' h1 k' h2 j' h3 n' h4 h5 (by unfold bef at h6 ⊢; omega)
noncomputable def apB (Ls : List (List Sp)) : Bool := @decide (apP Ls) (Classical.propDecidable _)
theorem apB_t {Ls : List (List Sp)} (h : apP Ls) : apB Ls = true := by unfold apB; exact @decide_eq_true _ (Classical.propDecidable _) h
theorem apB_f {Ls : List (List Sp)} (h : ¬ apP Ls) : apB Ls = false := by unfold apB; exact @decide_eq_false _ (Classical.propDecidable _) h
theorem cmN_3 (p q r s : Sp) : cmN p q r s = 0 ∨ cmN p q r s = 1 ∨ cmN p q r s = 2 := by unfold cmN; split; exact .inr (.inr rfl); split; exact .inr (.inl rfl); split; exact .inr (.inr rfl); exact .inl rfl
set_option maxRecDepth 20000 in
set_option maxHeartbeats 32000000 in
theorem apart_any {pb po : Nat} {ad : Option Addr} {b o cap : Nat} {Ls : List (List Sp)} (hN : Ls.length ≤ 60) (hl5 : ∀ i, i < Ls.length → (lx Ls i).length ≤ 5000) (hok : okL Ls) (w : World) (hp : w.cell? ⟨pb, po, none⟩ = some (.slice ad Ls.length cap) ∧ pb < w.heap.size) (h : LLs w ad b o cap Ls) : Calls Tryd.prog 22 #[.pointer (some ⟨pb, po, none⟩)] w fun e w' => e = .returned (.bool (apB Ls)) ∧ Gr w w' := by
  have HR := hidb h
  have HX := hidb h.ix
  have HL5 := hidb hl5
  have HOk := hidb hok
  have HP : Hid (∀ W, Gr w W → W.cell? ⟨pb, po, none⟩ = some (.slice ad Ls.length cap)) := fun W hG => (hG.out.cell (p := ⟨pb, po, none⟩) hp.2).trans hp.1
  obtain ⟨N, hNn⟩ : ∃ N, N = Ls.length := ⟨_, rfl⟩
  have HN := hidb hNn
  rw [← hNn] at HX HP hN
  have HNb := hidb hN
  have E0 := hidb (show apU Ls 0 0 0 0 ∧ Gr w w from ⟨apU.zero Ls, Gr.refl w⟩)
  clear h hl5 hok hN hNn hp
  go_enter Tryd.func22, Tryd.ntmps22
  go_upto_region 2 with fail
  go_loopw [3] (fun t wr => ∃ i : Nat, i ≤ N ∧ t = .int .i64 (i : Int) ∧ Hid (apU Ls i 0 0 0 ∧ Gr w wr)) (fun t _ => N - (intOf t).toNat)
  case atStart => exact ⟨0, Nat.zero_le _, rfl, E0⟩
  case round =>
    clear E0
    obtain ⟨i, hi, rfl, E⟩ := hrel
    have cP := HP.out _ E.out.2
    by_cases h1 : ¬ i < N
    · have h1' : ¬ (i : Int) < (N : Int) := by omega
      have HZ : Hid (apB Ls = true) := apB_t (apU.all (by have := E.out.1; rw [show i = Ls.length by have := HN.out; omega] at this; exact this))
      have HG := hidb E.out.2
      clear h1 E
      go_wp2
      go_ret
      exact ⟨by rw [HZ.out]; rfl, HG.out⟩
    · have h1' : (i : Int) < (N : Int) := by omega
      have hiN : i < N := by omega
      have hiL : i < Ls.length := by rw [← HN.out]; exact hiN
      have H1 := hidb (show i < N ∧ i < Ls.length from ⟨hiN, hiL⟩)
      have HE1 : Hid (IntKind.i64.wrap ((i : Int) + 1) = ((i + 1 : Nat) : Int)) := by show _ = _; rw [show (i : Int) + 1 = ((i + 1 : Nat) : Int) by omega]; exact wr_in (by omega) (by have := HNb.out; omega)
      obtain ⟨⟨adA, bA, oA, capA, c0w, hSA⟩, cb⟩ := HR.out.row i hiL
      have c0 := (E.out.2.out.cell (p := ⟨b, o + i, none⟩) cb).trans c0w
      have ix := HX.out i hiN
      have HSA := hidb hSA
      have HlA := hidb (HL5.out i hiL)
      have HOA := hidb (HOk.out i hiL)
      obtain ⟨a, ha⟩ : ∃ z, z = lx Ls i := ⟨_, rfl⟩
      have HAa := hidb ha
      rw [← ha] at HSA HlA HOA c0
      obtain ⟨la, hla⟩ : ∃ z, z = a.length := ⟨_, rfl⟩
      have HLa := hidb hla
      rw [← hla] at HlA HOA c0
      have HIA := hidb (fun k (hk : k < la) => HSA.out.ix k (by rw [← hla]; exact hk))
      rw [← hla] at HIA
      clear h1 hiN hiL c0w cb hSA ha hla
      go_upto_region 6 with fail
      clear c0 ix cP h1'
      go_loopw [5] (fun t wr => ∃ k : Nat, k ≤ la ∧ t = .int .i64 (k : Int) ∧ Hid (apU Ls i k 0 0 ∧ Gr w wr)) (fun t _ => la - (intOf t).toNat)
      case atStart => exact ⟨0, Nat.zero_le _, rfl, E⟩
      case round =>
        clear E
        obtain ⟨k, hk, rfl, E⟩ := hrel
        have e1 : IntKind.i64.wrap ((k : Int) + 1) = ((k + 1 : Nat) : Int) := by rw [show (k : Int) + 1 = ((k + 1 : Nat) : Int) by omega]; exact wr_in (by omega) (by have := HlA.out; omega)
        have HEk := hidb e1
        by_cases h2 : ¬ k + 1 < la
        · have h2' : ¬ ((k + 1 : Nat) : Int) < (la : Int) := by omega
          have E2 := hidb (show apU Ls (i + 1) 0 0 0 ∧ Gr w wr from ⟨E.out.1.up1 (by rw [← HAa.out, ← HLa.out]; exact h2), E.out.2⟩)
          have e3 := HE1.out
          clear h2 E
          go_wp2
          go_roundw
          case rel => exact ⟨i + 1, H1.out.1, by go_num, E2⟩
          case measure => have := H1.out; simp [intOf]; omega
        · have h2' : ((k + 1 : Nat) : Int) < (la : Int) := by omega
          have hkl : k + 1 < la := by omega
          have H2 := hidb hkl
          clear h2 hkl
          go_upto_region 9 with fail
          rw [show decide ((k : Int) + 1 < (la : Int)) = true from decide_eq_true (by have := H2.out; omega)]
          clear e1 h2'
          go_loopw [6] (fun t wr => ∃ j : Nat, j ≤ i + 1 ∧ t = .int .i64 (j : Int) ∧ Hid (apU Ls i k j 0 ∧ Gr w wr)) (fun t _ => i + 1 - (intOf t).toNat)
          case atStart => exact ⟨0, Nat.zero_le _, rfl, E⟩
          case round =>
            clear E
            obtain ⟨j, hj, rfl, E⟩ := hrel
            by_cases h3 : ¬ j ≤ i
            · have h3' : ¬ (j : Int) ≤ (i : Int) := by omega
              have E3 := hidb (show apU Ls i (k + 1) 0 0 ∧ Gr w wr from ⟨E.out.1.up2 h3, E.out.2⟩)
              have e3 := HEk.out
              clear h3 E
              go_wp2
              go_roundw
              case rel => exact ⟨k + 1, by have := H2.out; omega, by go_num, E3⟩
              case measure => have := H2.out; simp [intOf]; omega
            · have h3' : (j : Int) ≤ (i : Int) := by omega
              have hji : j ≤ i := by omega
              have hjL : j < Ls.length := by have := H1.out; omega
              have H3 := hidb (show j ≤ i ∧ j < Ls.length ∧ j < N from ⟨hji, hjL, by have := H1.out; omega⟩)
              have HEj : Hid (IntKind.i64.wrap ((j : Int) + 1) = ((j + 1 : Nat) : Int)) := by show _ = _; rw [show (j : Int) + 1 = ((j + 1 : Nat) : Int) by omega]; exact wr_in (by omega) (by have := HNb.out; have := H1.out; omega)
              have cP := HP.out _ E.out.2
              obtain ⟨⟨adB, bB, oB, capB, c0w, hSB⟩, cb⟩ := HR.out.row j hjL
              have c0 := (E.out.2.out.cell (p := ⟨b, o + j, none⟩) cb).trans c0w
              have ix := HX.out j H3.out.2.2
              have HSB := hidb hSB
              have HlB := hidb (HL5.out j hjL)
              have HOB := hidb (HOk.out j hjL)
              obtain ⟨bb, hbb⟩ : ∃ z, z = lx Ls j := ⟨_, rfl⟩
              have HBb := hidb hbb
              rw [← hbb] at HSB HlB HOB c0
              obtain ⟨lb, hlb⟩ : ∃ z, z = bb.length := ⟨_, rfl⟩
              have HLb := hidb hlb
              rw [← hlb] at HlB HOB c0
              have HIB := hidb (fun k (hk : k < lb) => HSB.out.ix k (by rw [← hlb]; exact hk))
              rw [← hlb] at HIB
              clear h3 hji hjL c0w cb hSB hbb hlb
              go_upto_region 13 with fail
              clear c0 ix cP h3'
              go_loopw [8] (fun t wr => ∃ n : Nat, n ≤ lb ∧ t = .int .i64 (n : Int) ∧ Hid (apU Ls i k j n ∧ Gr w wr)) (fun t _ => lb - (intOf t).toNat)
              case atStart => exact ⟨0, Nat.zero_le _, rfl, E⟩
              case round =>
                clear E
                obtain ⟨n, hn, rfl, E⟩ := hrel
                have e1 : IntKind.i64.wrap ((n : Int) + 1) = ((n + 1 : Nat) : Int) := by rw [show (n : Int) + 1 = ((n + 1 : Nat) : Int) by omega]; exact wr_in (by omega) (by have := HlB.out; omega)
                have HEn := hidb e1
                by_cases h4 : ¬ n + 1 < lb
                · have h4' : ¬ ((n + 1 : Nat) : Int) < (lb : Int) := by omega
                  have E4 := hidb (show apU Ls i k (j + 1) 0 ∧ Gr w wr from ⟨E.out.1.up3 (by rw [← HBb.out, ← HLb.out]; exact h4), E.out.2⟩)
                  have e3 := HEj.out
                  clear h4 E
                  go_wp2
                  go_roundw
                  case rel => exact ⟨j + 1, by have := H3.out; omega, by go_num, E4⟩
                  case measure => have := H3.out; simp [intOf]; omega
                · have h4' : ((n + 1 : Nat) : Int) < (lb : Int) := by omega
                  have hnl : n + 1 < lb := by omega
                  have H4 := hidb hnl
                  by_cases hbr : j = i ∧ k ≤ n
                  · have hq1 : ((j : Int) == (i : Int)) = true := beq_iff_eq.2 (by omega)
                    have hq2 : ((j : Int) = (i : Int)) = True := eq_true (by omega)
                    have hkn : (k : Int) ≤ (n : Int) := by omega
                    have E4 := hidb (show apU Ls i k (j + 1) 0 ∧ Gr w wr from ⟨E.out.1.brk hbr.1 hbr.2, E.out.2⟩)
                    have e3 := HEj.out
                    clear h4 hnl hbr E
                    go_wp2
                    go_roundw
                    case rel => exact ⟨j + 1, by have := H3.out; omega, by go_num, E4⟩
                    case measure => have := H3.out; simp [intOf]; omega
                  · have HAh : Hid (ahd j n i k) := by show j < i ∨ (j = i ∧ n < k); have := H3.out; omega
                    have HSt := hidb (show (prOK i j a bb k n → apU Ls i k j (n + 1)) from fun hp => E.out.1.step (by rw [← HAa.out, ← HBb.out]; exact hp))
                    have HNo : Hid (¬ prOK i j a bb k n → apB Ls = false) := fun hp => apB_f (fun ha => hp (by
                      have := ha i H1.out.2 k (by rw [← HAa.out, ← HLa.out]; exact H2.out) j H3.out.2.1 n (by rw [← HBb.out, ← HLb.out]; exact H4.out) HAh.out
                      rw [HAa.out, HBb.out]; exact this))
                    have ixa1 := HIA.out k (by have := H2.out; omega)
                    have ixa2 := HIA.out (k + 1) H2.out
                    have ixb1 := HIB.out n (by omega)
                    have ixb2 := HIB.out (n + 1) hnl
                    obtain ⟨p, hp⟩ : ∃ z, z = sx a k := ⟨_, rfl⟩
                    obtain ⟨q, hq⟩ : ∃ z, z = sx a (k + 1) := ⟨_, rfl⟩
                    obtain ⟨r, hr⟩ : ∃ z, z = sx bb n := ⟨_, rfl⟩
                    obtain ⟨s, hs⟩ : ∃ z, z = sx bb (n + 1) := ⟨_, rfl⟩
                    obtain ⟨u1, hu1⟩ : ∃ z, z = oA + k * 2 := ⟨_, rfl⟩
                    obtain ⟨u2, hu2⟩ : ∃ z, z = oA + (k + 1) * 2 := ⟨_, rfl⟩
                    obtain ⟨v1, hv1⟩ : ∃ z, z = oB + n * 2 := ⟨_, rfl⟩
                    obtain ⟨v2, hv2⟩ : ∃ z, z = oB + (n + 1) * 2 := ⟨_, rfl⟩
                    have HC8 : Hid (∀ W, Gr w W → C8 W bA u1 u2 bB v1 v2 p q r s) := fun W hG => by
                      have h1 := (HSA.out.gr hG).row k (by rw [← HLa.out]; have := H2.out; omega)
                      have h2 := (HSA.out.gr hG).row (k + 1) (by rw [← HLa.out]; exact H2.out)
                      have h3 := (HSB.out.gr hG).row n (by rw [← HLb.out]; omega)
                      have h4 := (HSB.out.gr hG).row (n + 1) (by rw [← HLb.out]; exact hnl)
                      rw [hu1, hu2, hv1, hv2, hp, hq, hr, hs]
                      exact ⟨h1.1, h2.1, h3.1, h4.1⟩
                    have HOs := hidb (show okS p ∧ okS q ∧ okS r ∧ okS s from ⟨by rw [hp]; exact HOA.out k (by have := H2.out; omega), by rw [hq]; exact HOA.out (k + 1) H2.out, by rw [hr]; exact HOB.out n (by omega), by rw [hs]; exact HOB.out (n + 1) hnl⟩)
                    have HCm := hidb (fun W => common_any HOs.out.1 HOs.out.2.1 HOs.out.2.2.1 HOs.out.2.2.2 W)
                    have HPr : Hid (prOK i j a bb k n ↔ (cmN p q r s = 0 ∨ (cmN p q r s = 1 ∧ ((cmA p q r s = p ∨ cmA p q r s = q) ∧ (cmA p q r s = r ∨ cmA p q r s = s)) ∧ (((j = i ∧ n + 1 = k) ∧ cmA p q r s = p) ∨ (ndP a k (cmA p q r s) ∧ ndP bb n (cmA p q r s)))))) := by rw [hp, hq, hr, hs]; exact Iff.rfl
                    have HN3 := hidb (cmN_3 p q r s)
                    have HnA := hidb (fun x W (hG : Gr w W) => isNode_any (k := k) (x := x) (a := a) (by rw [← HLa.out]; exact HlA.out) (by rw [← HLa.out]; exact H2.out) W (HSA.out.gr hG))
                    have HnB := hidb (fun x W (hG : Gr w W) => isNode_any (k := n) (x := x) (a := bb) (by rw [← HLb.out]; exact HlB.out) (by rw [← HLb.out]; exact hnl) W (HSB.out.gr hG))
                    rw [← HLa.out] at HnA
                    rw [← HLb.out] at HnB
                    rw [← hu1] at ixa1
                    rw [← hu2] at ixa2
                    rw [← hv1] at ixb1
                    rw [← hv2] at ixb2
                    obtain ⟨kI, hkI⟩ : ∃ z : Int, z = ((k + 1 : Nat) : Int) := ⟨_, rfl⟩
                    obtain ⟨nI, hnI⟩ : ∃ z : Int, z = ((n + 1 : Nat) : Int) := ⟨_, rfl⟩
                    have ek := HEk.out
                    rw [← hkI] at ixa2 ek
                    rw [← hnI] at ixb2 e1 h4'
                    have HnI := hidb hnI
                    have HE := hidb E.out.2
                    clear hp hq hr hs hu1 hu2 hv1 hv2 hkI hnI h4 hnl E
                    generalize cmA p q r s = x at *
                    generalize cmN p q r s = many at *
                    have g1 := sp_eq x p
                    have g2 := sp_eq x q
                    have g3 := sp_eq x r
                    have g4 := sp_eq x s
                    go_upto_region 15 with fail
                    go_cut [63] from 56 to 64 (fun t wx => t = .bool false ∧ Hid (Gr w wx))
                    case first =>
                      by_cases hji2 : j = i
                      · have hq1 : ((j : Int) == (i : Int)) = true := beq_iff_eq.2 (by omega)
                        have hq2 : ((j : Int) = (i : Int)) = True := eq_true (by omega)
                        have hkn : ¬ (k : Int) ≤ (n : Int) := by omega
                        clear hji2 hbr
                        go_wp2
                        go_meet
                        exact ⟨rfl, HE⟩
                      · have hq1 : ((j : Int) == (i : Int)) = false := beq_eq_false_iff_ne.2 (by omega)
                        have hq2 : ((j : Int) = (i : Int)) = False := eq_false (by omega)
                        clear hji2 hbr
                        go_wp2
                        go_meet
                        exact ⟨rfl, HE⟩
                    case rest =>
                      obtain ⟨rfl, GE⟩ := hcut
                      clear HE hbr
                      go_upto_region 16 with fail
                      go_cut [9, 10] from 64 to 86 (fun s9 s10 wx => ∃ Z, s10 = .pointer (some ⟨Z, 0, none⟩) ∧ s9 = .int .i64 (many : Int) ∧ Hid (At wx Z [.int .i64 x.1, .int .i64 x.2] ∧ Gr w wx))
                      case first =>
                        refine wp_region_held_drew (S := (fun w' => C8 w' bA u1 u2 bB v1 v2 p q r s)) (by kernel_rfl) ?_ (fun hHeld => ?_)
                        · (try dsimp only); exact HC8.out _ GE.out.drew
                        have GG := hidb GE.out.drew
                        generalize wc.drew = V0 at *
                        refine wt (i := 0) (v := ?vg0x4) rfl ?hg0x4 ?rg0x4
                        case hg0x4 => (intro w hSw; (try dsimp only at hSw); obtain ⟨⟨x1, x2⟩, ⟨x3, x4⟩, ⟨x5, x6⟩, x7, x8⟩ := hSw; go_simp; try with_reducible rfl)
                        (try simp only [Act.put, lq1, lq2, lq4, lq5, lq6])
                        refine wt (i := 1) (v := ?vg1x7) rfl ?hg1x7 ?rg1x7
                        case hg1x7 => (intro w hSw; (try dsimp only at hSw); obtain ⟨⟨x1, x2⟩, ⟨x3, x4⟩, ⟨x5, x6⟩, x7, x8⟩ := hSw; go_simp; try with_reducible rfl)
                        (try simp only [Act.put, lq1, lq2, lq3, lq4, lq5, lq6])
                        refine wt (i := 2) (v := ?vg2x10) rfl ?hg2x10 ?rg2x10
                        case hg2x10 => (intro w hSw; (try dsimp only at hSw); obtain ⟨⟨x1, x2⟩, ⟨x3, x4⟩, ⟨x5, x6⟩, x7, x8⟩ := hSw; go_simp; try with_reducible rfl)
                        (try simp only [Act.put, lq1, lq2, lq3, lq4, lq5, lq6])
                        refine wt (i := 3) (v := ?vg3x13) rfl ?hg3x13 ?rg3x13
                        case hg3x13 => (intro w hSw; (try dsimp only at hSw); obtain ⟨⟨x1, x2⟩, ⟨x3, x4⟩, ⟨x5, x6⟩, x7, x8⟩ := hSw; go_simp; try with_reducible rfl)
                        (try simp only [Act.put, lq1, lq2, lq3, lq4, lq5, lq6])
                        refine wt (i := 4) (v := ?vg4x16) rfl ?hg4x16 ?rg4x16
                        case hg4x16 => (intro w hSw; (try dsimp only at hSw); obtain ⟨⟨x1, x2⟩, ⟨x3, x4⟩, ⟨x5, x6⟩, x7, x8⟩ := hSw; go_simp; try with_reducible rfl)
                        (try simp only [Act.put, lq1, lq2, lq3, lq4, lq5, lq6])
                        refine wt (i := 5) (v := ?vg5x19) rfl ?hg5x19 ?rg5x19
                        case hg5x19 => (intro w hSw; (try dsimp only at hSw); obtain ⟨⟨x1, x2⟩, ⟨x3, x4⟩, ⟨x5, x6⟩, x7, x8⟩ := hSw; go_simp; try with_reducible rfl)
                        (try simp only [Act.put, lq1, lq2, lq3, lq4, lq5, lq6])
                        refine wt (i := 6) (v := ?vg6x22) rfl ?hg6x22 ?rg6x22
                        case hg6x22 => (intro w hSw; (try dsimp only at hSw); obtain ⟨⟨x1, x2⟩, ⟨x3, x4⟩, ⟨x5, x6⟩, x7, x8⟩ := hSw; go_simp; try with_reducible rfl)
                        (try simp only [Act.put, lq1, lq2, lq3, lq4, lq5, lq6])
                        refine wt (i := 7) (v := ?vg7x25) rfl ?hg7x25 ?rg7x25
                        case hg7x25 => (intro w hSw; (try dsimp only at hSw); obtain ⟨⟨x1, x2⟩, ⟨x3, x4⟩, ⟨x5, x6⟩, x7, x8⟩ := hSw; go_simp; try with_reducible rfl)
                        (try simp only [Act.put, lq1, lq2, lq3, lq4, lq5, lq6])
                        refine wt (i := 8) (v := ?vg8x28) rfl ?hg8x28 ?rg8x28
                        case hg8x28 => (intro w hSw; (try dsimp only at hSw); obtain ⟨⟨x1, x2⟩, ⟨x3, x4⟩, ⟨x5, x6⟩, x7, x8⟩ := hSw; go_simp; try with_reducible rfl)
                        (try simp only [Act.put, lq1, lq2, lq3, lq4, lq5, lq6])
                        refine wt (i := 9) (v := ?vg9x31) rfl ?hg9x31 ?rg9x31
                        case hg9x31 => (intro w hSw; (try dsimp only at hSw); obtain ⟨⟨x1, x2⟩, ⟨x3, x4⟩, ⟨x5, x6⟩, x7, x8⟩ := hSw; go_simp; try with_reducible rfl)
                        (try simp only [Act.put, lq1, lq2, lq3, lq4, lq5, lq6])
                        refine wt (i := 10) (v := ?vg10x34) rfl ?hg10x34 ?rg10x34
                        case hg10x34 => (intro w hSw; (try dsimp only at hSw); obtain ⟨⟨x1, x2⟩, ⟨x3, x4⟩, ⟨x5, x6⟩, x7, x8⟩ := hSw; go_simp; try with_reducible rfl)
                        (try simp only [Act.put, lq1, lq2, lq3, lq4, lq5, lq6])
                        refine wt (i := 11) (v := ?vg11x37) rfl ?hg11x37 ?rg11x37
                        case hg11x37 => (intro w hSw; (try dsimp only at hSw); obtain ⟨⟨x1, x2⟩, ⟨x3, x4⟩, ⟨x5, x6⟩, x7, x8⟩ := hSw; go_simp; try with_reducible rfl)
                        (try simp only [Act.put, lq1, lq2, lq3, lq4, lq5, lq6])
                        refine wt (i := 12) (v := ?vg12x40) rfl ?hg12x40 ?rg12x40
                        case hg12x40 => (intro w hSw; (try dsimp only at hSw); obtain ⟨⟨x1, x2⟩, ⟨x3, x4⟩, ⟨x5, x6⟩, x7, x8⟩ := hSw; go_simp; try with_reducible rfl)
                        (try simp only [Act.put, lq1, lq2, lq3, lq4, lq5, lq6])
                        refine wt (i := 13) (v := ?vg13x43) rfl ?hg13x43 ?rg13x43
                        case hg13x43 => (intro w hSw; (try dsimp only at hSw); obtain ⟨⟨x1, x2⟩, ⟨x3, x4⟩, ⟨x5, x6⟩, x7, x8⟩ := hSw; go_simp; try with_reducible rfl)
                        (try simp only [Act.put, lq1, lq2, lq3, lq4, lq5, lq6])
                        refine wt (i := 14) (v := ?vg14x46) rfl ?hg14x46 ?rg14x46
                        case hg14x46 => (intro w hSw; (try dsimp only at hSw); obtain ⟨⟨x1, x2⟩, ⟨x3, x4⟩, ⟨x5, x6⟩, x7, x8⟩ := hSw; go_simp; try with_reducible rfl)
                        (try simp only [Act.put, lq1, lq2, lq3, lq4, lq5, lq6])
                        refine wt (i := 15) (v := ?vg15x49) rfl ?hg15x49 ?rg15x49
                        case hg15x49 => (intro w hSw; (try dsimp only at hSw); obtain ⟨⟨x1, x2⟩, ⟨x3, x4⟩, ⟨x5, x6⟩, x7, x8⟩ := hSw; go_simp; try with_reducible rfl)
                        (try simp only [Act.put, lq1, lq2, lq3, lq4, lq5, lq6])
                        refine wt (i := 16) (v := ?vg16x52) rfl ?hg16x52 ?rg16x52
                        case hg16x52 => (intro w hSw; (try dsimp only at hSw); obtain ⟨⟨x1, x2⟩, ⟨x3, x4⟩, ⟨x5, x6⟩, x7, x8⟩ := hSw; go_simp; try with_reducible rfl)
                        (try simp only [Act.put, lq1, lq2, lq3, lq4, lq5, lq6])
                        refine wt (i := 17) (v := ?vg17x55) rfl ?hg17x55 ?rg17x55
                        case hg17x55 => (intro w hSw; (try dsimp only at hSw); obtain ⟨⟨x1, x2⟩, ⟨x3, x4⟩, ⟨x5, x6⟩, x7, x8⟩ := hSw; go_simp; try with_reducible rfl)
                        (try simp only [Act.put, lq1, lq2, lq3, lq4, lq5, lq6])
                        refine wpAnyH_ready (rs := [18, 22]) (by kernel_rfl) (by simp) ?_
                        refine AllReadyH.cons rfl (fun K hK => ?_) (AllReadyH.cons rfl (fun K hK => ?_) AllReadyH.nil)
                        · skip
                          go_simp
                          go_wp2_with (go_at_call 38; refine (HCm.out _).mono ?_; rintro e V1 ⟨rfl, hBc⟩)
                          refine hK.out _ _ ?_ (fun hHeld => ?_)
                          · (try dsimp only); exact HC8.out _ (Gr.step GG.out hBc.out)
                          clear hK K
                          replace GG := hidb (Gr.step GG.out hBc.out)
                          clear hBc
                          refine wt (i := 19) (v := ?vg19x68) rfl ?hg19x68 ?rg19x68
                          case hg19x68 => (intro w hSw; (try dsimp only at hSw); obtain ⟨⟨x1, x2⟩, ⟨x3, x4⟩, ⟨x5, x6⟩, x7, x8⟩ := hSw; go_simp; try with_reducible rfl)
                          (try simp only [Act.put, lq1, lq2, lq3, lq4, lq5, lq6])
                          refine wt (i := 20) (v := ?vg20x71) rfl ?hg20x71 ?rg20x71
                          case hg20x71 => (intro w hSw; (try dsimp only at hSw); obtain ⟨⟨x1, x2⟩, ⟨x3, x4⟩, ⟨x5, x6⟩, x7, x8⟩ := hSw; go_simp; try with_reducible rfl)
                          (try simp only [Act.put, lq1, lq2, lq3, lq4, lq5, lq6])
                          refine wt (i := 21) (v := ?vg21x74) rfl ?hg21x74 ?rg21x74
                          case hg21x74 => (intro w hSw; (try dsimp only at hSw); obtain ⟨⟨x1, x2⟩, ⟨x3, x4⟩, ⟨x5, x6⟩, x7, x8⟩ := hSw; go_simp; try with_reducible rfl)
                          (try simp only [Act.put, lq1, lq2, lq3, lq4, lq5, lq6])
                          refine wpAnyH_ready (rs := [22]) (by kernel_rfl) (by simp) ?_
                          refine AllReadyH.cons rfl (fun K hK => ?_) AllReadyH.nil
                          go_simp
                          refine hK.out _ _ ?_ (fun hHeld => ?_)
                          · (try dsimp only); exact HC8.out _ (GG.out.alloc _)
                          clear hK K
                          have AZ := hidb (At.new2 V1 (.int .i64 0) (.int .i64 0) 52)
                          obtain ⟨Z, hZ⟩ : ∃ z, z = V1.heap.size := ⟨_, rfl⟩
                          have HZs := hidb (show w.heap.size ≤ Z by rw [hZ]; exact GG.out.out.size)
                          rw [← hZ] at AZ ⊢
                          clear hZ
                          replace GG := hidb (GG.out.alloc (.cells #[.int .i64 0, .int .i64 0] 52))
                          generalize V1.alloc (.cells #[.int .i64 0, .int .i64 0] 52) = V2 at *
                          refine wt (i := 23) (v := ?vg23x90) rfl ?hg23x90 ?rg23x90
                          case hg23x90 => (intro w hSw; (try dsimp only at hSw); obtain ⟨⟨x1, x2⟩, ⟨x3, x4⟩, ⟨x5, x6⟩, x7, x8⟩ := hSw; go_simp; try with_reducible rfl)
                          (try simp only [Act.put, lq1, lq2, lq3, lq4, lq5, lq6])
                          refine wpAnyH_ready (rs := [24]) (by kernel_rfl) (by simp) ?_
                          refine AllReadyH.cons rfl (fun K hK => ?_) AllReadyH.nil
                          obtain ⟨z0, z1⟩ := AZ.out.c2
                          obtain ⟨y0, y1⟩ := AZ.out.f2
                          go_simp
                          refine hK.out _ _ ?_ (fun hHeld => ?_)
                          · (try dsimp only); exact HC8.out _ ((GG.out.set HZs.out _ _).set HZs.out _ _)
                          clear hK K
                          clear z0 z1 y0 y1
                          refine wpAnyH_done (by kernel_rfl) ?_ _
                          go_wp2_with fail
                          go_meet
                          exact ⟨Z, rfl, rfl, hidb ⟨At.fill2 (AZ.out.has rfl) _ _, (GG.out.set HZs.out _ _).set HZs.out _ _⟩⟩
                        · skip
                          go_simp
                          refine hK.out _ _ ?_ (fun hHeld => ?_)
                          · (try dsimp only); exact HC8.out _ (GG.out.alloc _)
                          clear hK K
                          have AZ := hidb (At.new2 V0 (.int .i64 0) (.int .i64 0) 52)
                          obtain ⟨Z, hZ⟩ : ∃ z, z = V0.heap.size := ⟨_, rfl⟩
                          have HZs := hidb (show w.heap.size ≤ Z by rw [hZ]; exact GG.out.out.size)
                          rw [← hZ] at AZ ⊢
                          clear hZ
                          replace GG := hidb (GG.out.alloc (.cells #[.int .i64 0, .int .i64 0] 52))
                          generalize V0.alloc (.cells #[.int .i64 0, .int .i64 0] 52) = V3 at *
                          refine wpAnyH_ready (rs := [18]) (by kernel_rfl) (by simp) ?_
                          refine AllReadyH.cons rfl (fun K hK => ?_) AllReadyH.nil
                          go_simp
                          go_wp2_with (go_at_call 38; refine (HCm.out _).mono ?_; rintro e V4 ⟨rfl, hBc⟩)
                          refine hK.out _ _ ?_ (fun hHeld => ?_)
                          · (try dsimp only); exact HC8.out _ (Gr.step GG.out hBc.out)
                          clear hK K
                          have AZ2 := hidb (At.below hBc.out AZ.out)
                          replace AZ := AZ2
                          clear AZ2
                          replace GG := hidb (Gr.step GG.out hBc.out)
                          clear hBc
                          refine wt (i := 19) (v := ?vg19x130) rfl ?hg19x130 ?rg19x130
                          case hg19x130 => (intro w hSw; (try dsimp only at hSw); obtain ⟨⟨x1, x2⟩, ⟨x3, x4⟩, ⟨x5, x6⟩, x7, x8⟩ := hSw; go_simp; try with_reducible rfl)
                          (try simp only [Act.put, lq1, lq2, lq3, lq4, lq5, lq6])
                          refine wt (i := 20) (v := ?vg20x133) rfl ?hg20x133 ?rg20x133
                          case hg20x133 => (intro w hSw; (try dsimp only at hSw); obtain ⟨⟨x1, x2⟩, ⟨x3, x4⟩, ⟨x5, x6⟩, x7, x8⟩ := hSw; go_simp; try with_reducible rfl)
                          (try simp only [Act.put, lq1, lq2, lq3, lq4, lq5, lq6])
                          refine wt (i := 21) (v := ?vg21x136) rfl ?hg21x136 ?rg21x136
                          case hg21x136 => (intro w hSw; (try dsimp only at hSw); obtain ⟨⟨x1, x2⟩, ⟨x3, x4⟩, ⟨x5, x6⟩, x7, x8⟩ := hSw; go_simp; try with_reducible rfl)
                          (try simp only [Act.put, lq1, lq2, lq3, lq4, lq5, lq6])
                          refine wt (i := 23) (v := ?vg23x139) rfl ?hg23x139 ?rg23x139
                          case hg23x139 => (intro w hSw; (try dsimp only at hSw); obtain ⟨⟨x1, x2⟩, ⟨x3, x4⟩, ⟨x5, x6⟩, x7, x8⟩ := hSw; go_simp; try with_reducible rfl)
                          (try simp only [Act.put, lq1, lq2, lq3, lq4, lq5, lq6])
                          refine wpAnyH_ready (rs := [24]) (by kernel_rfl) (by simp) ?_
                          refine AllReadyH.cons rfl (fun K hK => ?_) AllReadyH.nil
                          obtain ⟨z0, z1⟩ := AZ.out.c2
                          obtain ⟨y0, y1⟩ := AZ.out.f2
                          go_simp
                          refine hK.out _ _ ?_ (fun hHeld => ?_)
                          · (try dsimp only); exact HC8.out _ ((GG.out.set HZs.out _ _).set HZs.out _ _)
                          clear hK K
                          clear z0 z1 y0 y1
                          refine wpAnyH_done (by kernel_rfl) ?_ _
                          go_wp2_with fail
                          go_meet
                          exact ⟨Z, rfl, rfl, hidb ⟨At.fill2 (AZ.out.has rfl) _ _, (GG.out.set HZs.out _ _).set HZs.out _ _⟩⟩
                      case rest =>
                        obtain ⟨Z, rfl, rfl, E16⟩ := hcut
                        clear GE
                        have AZ := hidb E16.out.1
                        have GE := hidb E16.out.2
                        clear E16 HCm HOs
                        rcases HN3.out with h0 | h0
                        · have HOK := hidb (HSt.out (HPr.out.2 (.inl h0)))
                          have hm : ((many : Int) == 0) = true := beq_iff_eq.2 (by omega)
                          have hm2 : ((many : Int) = 0) = True := eq_true (by omega)
                          clear h0
                          go_wp2
                          go_roundw
                          case rel => exact ⟨n + 1, by have := H4.out; omega, by rw [HnI.out], hidb ⟨HOK.out, GE.out⟩⟩
                          case measure => have := H4.out; have := HnI.out; simp [intOf]; omega
                        · have hm : ((many : Int) == 0) = false := beq_eq_false_iff_ne.2 (by omega)
                          have hm2 : ((many : Int) = 0) = False := eq_false (by omega)
                          have H12 := hidb h0
                          clear h0
                          go_upto_region 18 with fail
                          clear hm hm2
                          go_cut [11] from 88 to 120 (fun s11 wx => s11 = .bool (decide ((x = p ∨ x = q) ∧ (x = r ∨ x = s))) ∧ Hid (At wx Z [.int .i64 x.1, .int .i64 x.2] ∧ Gr w wx))
                          case first =>
                           as_aux_lemma =>
                            by_cases a1 : x = p
                            · rw [decide_eq_true a1] at g1
                              have HA1 := hidb (show x = p ∨ x = q from .inl a1)
                              clear a1
                              by_cases b1 : x = r
                              · rw [decide_eq_true b1] at g3
                                have hD := hidb (show decide ((x = p ∨ x = q) ∧ (x = r ∨ x = s)) = true from decide_eq_true ⟨HA1.out, .inl b1⟩)
                                clear b1
                                refine wp_region_held_drew (S := (fun w' => C8 w' bA u1 u2 bB v1 v2 p q r s ∧ (w'.cell? ⟨Z, 0, none⟩ = some (.int .i64 x.1) ∧ w'.cell? ⟨Z, 1, none⟩ = some (.int .i64 x.2)))) (by kernel_rfl) ?_ (fun hHeld => ?_)
                                · (try dsimp only); exact ⟨HC8.out _ GE.out.drew, AZ.out.drew.c2⟩
                                skip
                                refine wt (i := 0) (v := ?ve1q0x3) rfl ?he1q0x3 ?re1q0x3
                                case he1q0x3 => (intro w hSw; (try dsimp only at hSw); obtain ⟨⟨⟨x1, x2⟩, ⟨x3, x4⟩, ⟨x5, x6⟩, x7, x8⟩, x9, x10⟩ := hSw; go_simp; try with_reducible rfl)
                                (try simp only [Act.put, lq1, lq2, lq4, lq5, lq6])
                                refine wt (i := 1) (v := ?ve1q1x6) rfl ?he1q1x6 ?re1q1x6
                                case he1q1x6 => (intro w hSw; (try dsimp only at hSw); obtain ⟨⟨⟨x1, x2⟩, ⟨x3, x4⟩, ⟨x5, x6⟩, x7, x8⟩, x9, x10⟩ := hSw; go_simp; try with_reducible rfl)
                                (try simp only [Act.put, lq1, lq2, lq3, lq4, lq5, lq6])
                                refine wt (i := 2) (v := ?ve1q2x9) rfl ?he1q2x9 ?re1q2x9
                                case he1q2x9 => (intro w hSw; (try dsimp only at hSw); obtain ⟨⟨⟨x1, x2⟩, ⟨x3, x4⟩, ⟨x5, x6⟩, x7, x8⟩, x9, x10⟩ := hSw; go_simp; try with_reducible rfl)
                                (try simp only [Act.put, lq1, lq2, lq3, lq4, lq5, lq6])
                                refine wt (i := 3) (v := ?ve1q3x12) rfl ?he1q3x12 ?re1q3x12
                                case he1q3x12 => (intro w hSw; (try dsimp only at hSw); obtain ⟨⟨⟨x1, x2⟩, ⟨x3, x4⟩, ⟨x5, x6⟩, x7, x8⟩, x9, x10⟩ := hSw; go_simp; try with_reducible rfl)
                                (try simp only [Act.put, lq1, lq2, lq3, lq4, lq5, lq6])
                                refine wt (i := 4) (v := ?ve1q4x15) rfl ?he1q4x15 ?re1q4x15
                                case he1q4x15 => (intro w hSw; (try dsimp only at hSw); obtain ⟨⟨⟨x1, x2⟩, ⟨x3, x4⟩, ⟨x5, x6⟩, x7, x8⟩, x9, x10⟩ := hSw; go_simp; try with_reducible rfl)
                                (try simp only [Act.put, lq1, lq2, lq3, lq4, lq5, lq6])
                                refine wt (i := 5) (v := ?ve1q5x18) rfl ?he1q5x18 ?re1q5x18
                                case he1q5x18 => (intro w hSw; (try dsimp only at hSw); obtain ⟨⟨⟨x1, x2⟩, ⟨x3, x4⟩, ⟨x5, x6⟩, x7, x8⟩, x9, x10⟩ := hSw; go_simp; try with_reducible rfl)
                                (try simp only [Act.put, lq1, lq2, lq3, lq4, lq5, lq6])
                                refine wt (i := 6) (v := ?ve1q6x21) rfl ?he1q6x21 ?re1q6x21
                                case he1q6x21 => (intro w hSw; (try dsimp only at hSw); obtain ⟨⟨⟨x1, x2⟩, ⟨x3, x4⟩, ⟨x5, x6⟩, x7, x8⟩, x9, x10⟩ := hSw; go_simp; try with_reducible rfl)
                                (try simp only [Act.put, lq1, lq2, lq3, lq4, lq5, lq6])
                                refine wu (i := 7) rfl ?_
                                (try simp only [Act.put, lq1, lq2, lq3, lq4, lq5, lq6])
                                refine wu (i := 8) rfl ?_
                                (try simp only [Act.put, lq1, lq2, lq3, lq4, lq5, lq6])
                                refine wu (i := 9) rfl ?_
                                (try simp only [Act.put, lq1, lq2, lq3, lq4, lq5, lq6])
                                refine wu (i := 10) rfl ?_
                                (try simp only [Act.put, lq1, lq2, lq3, lq4, lq5, lq6])
                                refine wu (i := 11) rfl ?_
                                (try simp only [Act.put, lq1, lq2, lq3, lq4, lq5, lq6])
                                refine wu (i := 12) rfl ?_
                                (try simp only [Act.put, lq1, lq2, lq3, lq4, lq5, lq6])
                                refine wu (i := 13) rfl ?_
                                (try simp only [Act.put, lq1, lq2, lq3, lq4, lq5, lq6])
                                refine wt (i := 14) (v := ?ve1q14x38) rfl ?he1q14x38 ?re1q14x38
                                case he1q14x38 => (intro w hSw; (try dsimp only at hSw); obtain ⟨⟨⟨x1, x2⟩, ⟨x3, x4⟩, ⟨x5, x6⟩, x7, x8⟩, x9, x10⟩ := hSw; go_simp; try with_reducible rfl)
                                (try simp only [Act.put, lq1, lq2, lq3, lq4, lq5, lq6])
                                refine wt (i := 15) (v := ?ve1q15x41) rfl ?he1q15x41 ?re1q15x41
                                case he1q15x41 => (intro w hSw; (try dsimp only at hSw); obtain ⟨⟨⟨x1, x2⟩, ⟨x3, x4⟩, ⟨x5, x6⟩, x7, x8⟩, x9, x10⟩ := hSw; go_simp; try with_reducible rfl)
                                (try simp only [Act.put, lq1, lq2, lq3, lq4, lq5, lq6])
                                refine wt (i := 16) (v := ?ve1q16x44) rfl ?he1q16x44 ?re1q16x44
                                case he1q16x44 => (intro w hSw; (try dsimp only at hSw); obtain ⟨⟨⟨x1, x2⟩, ⟨x3, x4⟩, ⟨x5, x6⟩, x7, x8⟩, x9, x10⟩ := hSw; go_simp; try with_reducible rfl)
                                (try simp only [Act.put, lq1, lq2, lq3, lq4, lq5, lq6])
                                refine wt (i := 17) (v := ?ve1q17x47) rfl ?he1q17x47 ?re1q17x47
                                case he1q17x47 => (intro w hSw; (try dsimp only at hSw); obtain ⟨⟨⟨x1, x2⟩, ⟨x3, x4⟩, ⟨x5, x6⟩, x7, x8⟩, x9, x10⟩ := hSw; go_simp; try with_reducible rfl)
                                (try simp only [Act.put, lq1, lq2, lq3, lq4, lq5, lq6])
                                refine wt (i := 18) (v := ?ve1q18x50) rfl ?he1q18x50 ?re1q18x50
                                case he1q18x50 => (intro w hSw; (try dsimp only at hSw); obtain ⟨⟨⟨x1, x2⟩, ⟨x3, x4⟩, ⟨x5, x6⟩, x7, x8⟩, x9, x10⟩ := hSw; go_simp; try with_reducible rfl)
                                (try simp only [Act.put, lq1, lq2, lq3, lq4, lq5, lq6])
                                refine wt (i := 19) (v := ?ve1q19x53) rfl ?he1q19x53 ?re1q19x53
                                case he1q19x53 => (intro w hSw; (try dsimp only at hSw); obtain ⟨⟨⟨x1, x2⟩, ⟨x3, x4⟩, ⟨x5, x6⟩, x7, x8⟩, x9, x10⟩ := hSw; go_simp; try with_reducible rfl)
                                (try simp only [Act.put, lq1, lq2, lq3, lq4, lq5, lq6])
                                refine wt (i := 20) (v := ?ve1q20x56) rfl ?he1q20x56 ?re1q20x56
                                case he1q20x56 => (intro w hSw; (try dsimp only at hSw); obtain ⟨⟨⟨x1, x2⟩, ⟨x3, x4⟩, ⟨x5, x6⟩, x7, x8⟩, x9, x10⟩ := hSw; go_simp; try with_reducible rfl)
                                (try simp only [Act.put, lq1, lq2, lq3, lq4, lq5, lq6])
                                refine wt (i := 21) (v := ?ve1q21x59) rfl ?he1q21x59 ?re1q21x59
                                case he1q21x59 => (intro w hSw; (try dsimp only at hSw); obtain ⟨⟨⟨x1, x2⟩, ⟨x3, x4⟩, ⟨x5, x6⟩, x7, x8⟩, x9, x10⟩ := hSw; go_simp; try with_reducible rfl)
                                (try simp only [Act.put, lq1, lq2, lq3, lq4, lq5, lq6])
                                refine wt (i := 22) (v := ?ve1q22x62) rfl ?he1q22x62 ?re1q22x62
                                case he1q22x62 => (intro w hSw; (try dsimp only at hSw); obtain ⟨⟨⟨x1, x2⟩, ⟨x3, x4⟩, ⟨x5, x6⟩, x7, x8⟩, x9, x10⟩ := hSw; go_simp; try with_reducible rfl)
                                (try simp only [Act.put, lq1, lq2, lq3, lq4, lq5, lq6])
                                refine wu (i := 23) rfl ?_
                                (try simp only [Act.put, lq1, lq2, lq3, lq4, lq5, lq6])
                                refine wu (i := 24) rfl ?_
                                (try simp only [Act.put, lq1, lq2, lq3, lq4, lq5, lq6])
                                refine wu (i := 25) rfl ?_
                                (try simp only [Act.put, lq1, lq2, lq3, lq4, lq5, lq6])
                                refine wu (i := 26) rfl ?_
                                (try simp only [Act.put, lq1, lq2, lq3, lq4, lq5, lq6])
                                refine wu (i := 27) rfl ?_
                                (try simp only [Act.put, lq1, lq2, lq3, lq4, lq5, lq6])
                                refine wu (i := 28) rfl ?_
                                (try simp only [Act.put, lq1, lq2, lq3, lq4, lq5, lq6])
                                refine wu (i := 29) rfl ?_
                                (try simp only [Act.put, lq1, lq2, lq3, lq4, lq5, lq6])
                                refine wt (i := 30) (v := ?ve1q30x79) rfl ?he1q30x79 ?re1q30x79
                                case he1q30x79 => (intro w hSw; (try dsimp only at hSw); obtain ⟨⟨⟨x1, x2⟩, ⟨x3, x4⟩, ⟨x5, x6⟩, x7, x8⟩, x9, x10⟩ := hSw; go_simp; try with_reducible rfl)
                                (try simp only [Act.put, lq1, lq2, lq3, lq4, lq5, lq6])
                                refine wt (i := 31) (v := ?ve1q31x82) rfl ?he1q31x82 ?re1q31x82
                                case he1q31x82 => (intro w hSw; (try dsimp only at hSw); obtain ⟨⟨⟨x1, x2⟩, ⟨x3, x4⟩, ⟨x5, x6⟩, x7, x8⟩, x9, x10⟩ := hSw; go_simp; try with_reducible rfl)
                                (try simp only [Act.put, lq1, lq2, lq3, lq4, lq5, lq6])
                                refine wt (i := 32) (v := ?ve1q32x85) rfl ?he1q32x85 ?re1q32x85
                                case he1q32x85 => (intro w hSw; (try dsimp only at hSw); obtain ⟨⟨⟨x1, x2⟩, ⟨x3, x4⟩, ⟨x5, x6⟩, x7, x8⟩, x9, x10⟩ := hSw; go_simp; try with_reducible rfl)
                                (try simp only [Act.put, lq1, lq2, lq3, lq4, lq5, lq6])
                                refine wpAnyH_done (by kernel_rfl) ?_ _
                                go_wp2_with fail
                                go_meet
                                exact ⟨by rw [hD.out], hidb ⟨AZ.out.drew, GE.out.drew⟩⟩
                              · rw [decide_eq_false b1] at g3
                                by_cases b2 : x = s
                                · rw [decide_eq_true b2] at g4
                                  have hD := hidb (show decide ((x = p ∨ x = q) ∧ (x = r ∨ x = s)) = true from decide_eq_true ⟨HA1.out, .inr b2⟩)
                                  clear b1 b2
                                  refine wp_region_held_drew (S := (fun w' => C8 w' bA u1 u2 bB v1 v2 p q r s ∧ (w'.cell? ⟨Z, 0, none⟩ = some (.int .i64 x.1) ∧ w'.cell? ⟨Z, 1, none⟩ = some (.int .i64 x.2)))) (by kernel_rfl) ?_ (fun hHeld => ?_)
                                  · (try dsimp only); exact ⟨HC8.out _ GE.out.drew, AZ.out.drew.c2⟩
                                  skip
                                  refine wt (i := 0) (v := ?ve2q0x3) rfl ?he2q0x3 ?re2q0x3
                                  case he2q0x3 => (intro w hSw; (try dsimp only at hSw); obtain ⟨⟨⟨x1, x2⟩, ⟨x3, x4⟩, ⟨x5, x6⟩, x7, x8⟩, x9, x10⟩ := hSw; go_simp; try with_reducible rfl)
                                  (try simp only [Act.put, lq1, lq2, lq4, lq5, lq6])
                                  refine wt (i := 1) (v := ?ve2q1x6) rfl ?he2q1x6 ?re2q1x6
                                  case he2q1x6 => (intro w hSw; (try dsimp only at hSw); obtain ⟨⟨⟨x1, x2⟩, ⟨x3, x4⟩, ⟨x5, x6⟩, x7, x8⟩, x9, x10⟩ := hSw; go_simp; try with_reducible rfl)
                                  (try simp only [Act.put, lq1, lq2, lq3, lq4, lq5, lq6])
                                  refine wt (i := 2) (v := ?ve2q2x9) rfl ?he2q2x9 ?re2q2x9
                                  case he2q2x9 => (intro w hSw; (try dsimp only at hSw); obtain ⟨⟨⟨x1, x2⟩, ⟨x3, x4⟩, ⟨x5, x6⟩, x7, x8⟩, x9, x10⟩ := hSw; go_simp; try with_reducible rfl)
                                  (try simp only [Act.put, lq1, lq2, lq3, lq4, lq5, lq6])
                                  refine wt (i := 3) (v := ?ve2q3x12) rfl ?he2q3x12 ?re2q3x12
                                  case he2q3x12 => (intro w hSw; (try dsimp only at hSw); obtain ⟨⟨⟨x1, x2⟩, ⟨x3, x4⟩, ⟨x5, x6⟩, x7, x8⟩, x9, x10⟩ := hSw; go_simp; try with_reducible rfl)
                                  (try simp only [Act.put, lq1, lq2, lq3, lq4, lq5, lq6])
                                  refine wt (i := 4) (v := ?ve2q4x15) rfl ?he2q4x15 ?re2q4x15
                                  case he2q4x15 => (intro w hSw; (try dsimp only at hSw); obtain ⟨⟨⟨x1, x2⟩, ⟨x3, x4⟩, ⟨x5, x6⟩, x7, x8⟩, x9, x10⟩ := hSw; go_simp; try with_reducible rfl)
                                  (try simp only [Act.put, lq1, lq2, lq3, lq4, lq5, lq6])
                                  refine wt (i := 5) (v := ?ve2q5x18) rfl ?he2q5x18 ?re2q5x18
                                  case he2q5x18 => (intro w hSw; (try dsimp only at hSw); obtain ⟨⟨⟨x1, x2⟩, ⟨x3, x4⟩, ⟨x5, x6⟩, x7, x8⟩, x9, x10⟩ := hSw; go_simp; try with_reducible rfl)
                                  (try simp only [Act.put, lq1, lq2, lq3, lq4, lq5, lq6])
                                  refine wt (i := 6) (v := ?ve2q6x21) rfl ?he2q6x21 ?re2q6x21
                                  case he2q6x21 => (intro w hSw; (try dsimp only at hSw); obtain ⟨⟨⟨x1, x2⟩, ⟨x3, x4⟩, ⟨x5, x6⟩, x7, x8⟩, x9, x10⟩ := hSw; go_simp; try with_reducible rfl)
                                  (try simp only [Act.put, lq1, lq2, lq3, lq4, lq5, lq6])
                                  refine wu (i := 7) rfl ?_
                                  (try simp only [Act.put, lq1, lq2, lq3, lq4, lq5, lq6])
                                  refine wu (i := 8) rfl ?_
                                  (try simp only [Act.put, lq1, lq2, lq3, lq4, lq5, lq6])
                                  refine wu (i := 9) rfl ?_
                                  (try simp only [Act.put, lq1, lq2, lq3, lq4, lq5, lq6])
                                  refine wu (i := 10) rfl ?_
                                  (try simp only [Act.put, lq1, lq2, lq3, lq4, lq5, lq6])
                                  refine wu (i := 11) rfl ?_
                                  (try simp only [Act.put, lq1, lq2, lq3, lq4, lq5, lq6])
                                  refine wu (i := 12) rfl ?_
                                  (try simp only [Act.put, lq1, lq2, lq3, lq4, lq5, lq6])
                                  refine wu (i := 13) rfl ?_
                                  (try simp only [Act.put, lq1, lq2, lq3, lq4, lq5, lq6])
                                  refine wt (i := 14) (v := ?ve2q14x38) rfl ?he2q14x38 ?re2q14x38
                                  case he2q14x38 => (intro w hSw; (try dsimp only at hSw); obtain ⟨⟨⟨x1, x2⟩, ⟨x3, x4⟩, ⟨x5, x6⟩, x7, x8⟩, x9, x10⟩ := hSw; go_simp; try with_reducible rfl)
                                  (try simp only [Act.put, lq1, lq2, lq3, lq4, lq5, lq6])
                                  refine wt (i := 15) (v := ?ve2q15x41) rfl ?he2q15x41 ?re2q15x41
                                  case he2q15x41 => (intro w hSw; (try dsimp only at hSw); obtain ⟨⟨⟨x1, x2⟩, ⟨x3, x4⟩, ⟨x5, x6⟩, x7, x8⟩, x9, x10⟩ := hSw; go_simp; try with_reducible rfl)
                                  (try simp only [Act.put, lq1, lq2, lq3, lq4, lq5, lq6])
                                  refine wt (i := 16) (v := ?ve2q16x44) rfl ?he2q16x44 ?re2q16x44
                                  case he2q16x44 => (intro w hSw; (try dsimp only at hSw); obtain ⟨⟨⟨x1, x2⟩, ⟨x3, x4⟩, ⟨x5, x6⟩, x7, x8⟩, x9, x10⟩ := hSw; go_simp; try with_reducible rfl)
                                  (try simp only [Act.put, lq1, lq2, lq3, lq4, lq5, lq6])
                                  refine wt (i := 17) (v := ?ve2q17x47) rfl ?he2q17x47 ?re2q17x47
                                  case he2q17x47 => (intro w hSw; (try dsimp only at hSw); obtain ⟨⟨⟨x1, x2⟩, ⟨x3, x4⟩, ⟨x5, x6⟩, x7, x8⟩, x9, x10⟩ := hSw; go_simp; try with_reducible rfl)
                                  (try simp only [Act.put, lq1, lq2, lq3, lq4, lq5, lq6])
                                  refine wt (i := 18) (v := ?ve2q18x50) rfl ?he2q18x50 ?re2q18x50
                                  case he2q18x50 => (intro w hSw; (try dsimp only at hSw); obtain ⟨⟨⟨x1, x2⟩, ⟨x3, x4⟩, ⟨x5, x6⟩, x7, x8⟩, x9, x10⟩ := hSw; go_simp; try with_reducible rfl)
                                  (try simp only [Act.put, lq1, lq2, lq3, lq4, lq5, lq6])
                                  refine wt (i := 19) (v := ?ve2q19x53) rfl ?he2q19x53 ?re2q19x53
                                  case he2q19x53 => (intro w hSw; (try dsimp only at hSw); obtain ⟨⟨⟨x1, x2⟩, ⟨x3, x4⟩, ⟨x5, x6⟩, x7, x8⟩, x9, x10⟩ := hSw; go_simp; try with_reducible rfl)
                                  (try simp only [Act.put, lq1, lq2, lq3, lq4, lq5, lq6])
                                  refine wt (i := 20) (v := ?ve2q20x56) rfl ?he2q20x56 ?re2q20x56
                                  case he2q20x56 => (intro w hSw; (try dsimp only at hSw); obtain ⟨⟨⟨x1, x2⟩, ⟨x3, x4⟩, ⟨x5, x6⟩, x7, x8⟩, x9, x10⟩ := hSw; go_simp; try with_reducible rfl)
                                  (try simp only [Act.put, lq1, lq2, lq3, lq4, lq5, lq6])
                                  refine wt (i := 21) (v := ?ve2q21x59) rfl ?he2q21x59 ?re2q21x59
                                  case he2q21x59 => (intro w hSw; (try dsimp only at hSw); obtain ⟨⟨⟨x1, x2⟩, ⟨x3, x4⟩, ⟨x5, x6⟩, x7, x8⟩, x9, x10⟩ := hSw; go_simp; try with_reducible rfl)
                                  (try simp only [Act.put, lq1, lq2, lq3, lq4, lq5, lq6])
                                  refine wt (i := 22) (v := ?ve2q22x62) rfl ?he2q22x62 ?re2q22x62
                                  case he2q22x62 => (intro w hSw; (try dsimp only at hSw); obtain ⟨⟨⟨x1, x2⟩, ⟨x3, x4⟩, ⟨x5, x6⟩, x7, x8⟩, x9, x10⟩ := hSw; go_simp; try with_reducible rfl)
                                  (try simp only [Act.put, lq1, lq2, lq3, lq4, lq5, lq6])
                                  refine wt (i := 23) (v := ?ve2q23x65) rfl ?he2q23x65 ?re2q23x65
                                  case he2q23x65 => (intro w hSw; (try dsimp only at hSw); obtain ⟨⟨⟨x1, x2⟩, ⟨x3, x4⟩, ⟨x5, x6⟩, x7, x8⟩, x9, x10⟩ := hSw; go_simp; try with_reducible rfl)
                                  (try simp only [Act.put, lq1, lq2, lq3, lq4, lq5, lq6])
                                  refine wt (i := 24) (v := ?ve2q24x68) rfl ?he2q24x68 ?re2q24x68
                                  case he2q24x68 => (intro w hSw; (try dsimp only at hSw); obtain ⟨⟨⟨x1, x2⟩, ⟨x3, x4⟩, ⟨x5, x6⟩, x7, x8⟩, x9, x10⟩ := hSw; go_simp; try with_reducible rfl)
                                  (try simp only [Act.put, lq1, lq2, lq3, lq4, lq5, lq6])
                                  refine wt (i := 25) (v := ?ve2q25x71) rfl ?he2q25x71 ?re2q25x71
                                  case he2q25x71 => (intro w hSw; (try dsimp only at hSw); obtain ⟨⟨⟨x1, x2⟩, ⟨x3, x4⟩, ⟨x5, x6⟩, x7, x8⟩, x9, x10⟩ := hSw; go_simp; try with_reducible rfl)
                                  (try simp only [Act.put, lq1, lq2, lq3, lq4, lq5, lq6])
                                  refine wt (i := 26) (v := ?ve2q26x74) rfl ?he2q26x74 ?re2q26x74
                                  case he2q26x74 => (intro w hSw; (try dsimp only at hSw); obtain ⟨⟨⟨x1, x2⟩, ⟨x3, x4⟩, ⟨x5, x6⟩, x7, x8⟩, x9, x10⟩ := hSw; go_simp; try with_reducible rfl)
                                  (try simp only [Act.put, lq1, lq2, lq3, lq4, lq5, lq6])
                                  refine wt (i := 27) (v := ?ve2q27x77) rfl ?he2q27x77 ?re2q27x77
                                  case he2q27x77 => (intro w hSw; (try dsimp only at hSw); obtain ⟨⟨⟨x1, x2⟩, ⟨x3, x4⟩, ⟨x5, x6⟩, x7, x8⟩, x9, x10⟩ := hSw; go_simp; try with_reducible rfl)
                                  (try simp only [Act.put, lq1, lq2, lq3, lq4, lq5, lq6])
                                  refine wt (i := 28) (v := ?ve2q28x80) rfl ?he2q28x80 ?re2q28x80
                                  case he2q28x80 => (intro w hSw; (try dsimp only at hSw); obtain ⟨⟨⟨x1, x2⟩, ⟨x3, x4⟩, ⟨x5, x6⟩, x7, x8⟩, x9, x10⟩ := hSw; go_simp; try with_reducible rfl)
                                  (try simp only [Act.put, lq1, lq2, lq3, lq4, lq5, lq6])
                                  refine wt (i := 29) (v := ?ve2q29x83) rfl ?he2q29x83 ?re2q29x83
                                  case he2q29x83 => (intro w hSw; (try dsimp only at hSw); obtain ⟨⟨⟨x1, x2⟩, ⟨x3, x4⟩, ⟨x5, x6⟩, x7, x8⟩, x9, x10⟩ := hSw; go_simp; try with_reducible rfl)
                                  (try simp only [Act.put, lq1, lq2, lq3, lq4, lq5, lq6])
                                  refine wt (i := 30) (v := ?ve2q30x86) rfl ?he2q30x86 ?re2q30x86
                                  case he2q30x86 => (intro w hSw; (try dsimp only at hSw); obtain ⟨⟨⟨x1, x2⟩, ⟨x3, x4⟩, ⟨x5, x6⟩, x7, x8⟩, x9, x10⟩ := hSw; go_simp; try with_reducible rfl)
                                  (try simp only [Act.put, lq1, lq2, lq3, lq4, lq5, lq6])
                                  refine wt (i := 31) (v := ?ve2q31x89) rfl ?he2q31x89 ?re2q31x89
                                  case he2q31x89 => (intro w hSw; (try dsimp only at hSw); obtain ⟨⟨⟨x1, x2⟩, ⟨x3, x4⟩, ⟨x5, x6⟩, x7, x8⟩, x9, x10⟩ := hSw; go_simp; try with_reducible rfl)
                                  (try simp only [Act.put, lq1, lq2, lq3, lq4, lq5, lq6])
                                  refine wt (i := 32) (v := ?ve2q32x92) rfl ?he2q32x92 ?re2q32x92
                                  case he2q32x92 => (intro w hSw; (try dsimp only at hSw); obtain ⟨⟨⟨x1, x2⟩, ⟨x3, x4⟩, ⟨x5, x6⟩, x7, x8⟩, x9, x10⟩ := hSw; go_simp; try with_reducible rfl)
                                  (try simp only [Act.put, lq1, lq2, lq3, lq4, lq5, lq6])
                                  refine wpAnyH_done (by kernel_rfl) ?_ _
                                  go_wp2_with fail
                                  go_meet
                                  exact ⟨by rw [hD.out], hidb ⟨AZ.out.drew, GE.out.drew⟩⟩
                                · rw [decide_eq_false b2] at g4
                                  have hD := hidb (show decide ((x = p ∨ x = q) ∧ (x = r ∨ x = s)) = false from decide_eq_false (fun hh => hh.2.elim b1 b2))
                                  clear b1 b2
                                  refine wp_region_held_drew (S := (fun w' => C8 w' bA u1 u2 bB v1 v2 p q r s ∧ (w'.cell? ⟨Z, 0, none⟩ = some (.int .i64 x.1) ∧ w'.cell? ⟨Z, 1, none⟩ = some (.int .i64 x.2)))) (by kernel_rfl) ?_ (fun hHeld => ?_)
                                  · (try dsimp only); exact ⟨HC8.out _ GE.out.drew, AZ.out.drew.c2⟩
                                  skip
                                  refine wt (i := 0) (v := ?ve3q0x3) rfl ?he3q0x3 ?re3q0x3
                                  case he3q0x3 => (intro w hSw; (try dsimp only at hSw); obtain ⟨⟨⟨x1, x2⟩, ⟨x3, x4⟩, ⟨x5, x6⟩, x7, x8⟩, x9, x10⟩ := hSw; go_simp; try with_reducible rfl)
                                  (try simp only [Act.put, lq1, lq2, lq4, lq5, lq6])
                                  refine wt (i := 1) (v := ?ve3q1x6) rfl ?he3q1x6 ?re3q1x6
                                  case he3q1x6 => (intro w hSw; (try dsimp only at hSw); obtain ⟨⟨⟨x1, x2⟩, ⟨x3, x4⟩, ⟨x5, x6⟩, x7, x8⟩, x9, x10⟩ := hSw; go_simp; try with_reducible rfl)
                                  (try simp only [Act.put, lq1, lq2, lq3, lq4, lq5, lq6])
                                  refine wt (i := 2) (v := ?ve3q2x9) rfl ?he3q2x9 ?re3q2x9
                                  case he3q2x9 => (intro w hSw; (try dsimp only at hSw); obtain ⟨⟨⟨x1, x2⟩, ⟨x3, x4⟩, ⟨x5, x6⟩, x7, x8⟩, x9, x10⟩ := hSw; go_simp; try with_reducible rfl)
                                  (try simp only [Act.put, lq1, lq2, lq3, lq4, lq5, lq6])
                                  refine wt (i := 3) (v := ?ve3q3x12) rfl ?he3q3x12 ?re3q3x12
                                  case he3q3x12 => (intro w hSw; (try dsimp only at hSw); obtain ⟨⟨⟨x1, x2⟩, ⟨x3, x4⟩, ⟨x5, x6⟩, x7, x8⟩, x9, x10⟩ := hSw; go_simp; try with_reducible rfl)
                                  (try simp only [Act.put, lq1, lq2, lq3, lq4, lq5, lq6])
                                  refine wt (i := 4) (v := ?ve3q4x15) rfl ?he3q4x15 ?re3q4x15
                                  case he3q4x15 => (intro w hSw; (try dsimp only at hSw); obtain ⟨⟨⟨x1, x2⟩, ⟨x3, x4⟩, ⟨x5, x6⟩, x7, x8⟩, x9, x10⟩ := hSw; go_simp; try with_reducible rfl)
                                  (try simp only [Act.put, lq1, lq2, lq3, lq4, lq5, lq6])
                                  refine wt (i := 5) (v := ?ve3q5x18) rfl ?he3q5x18 ?re3q5x18
                                  case he3q5x18 => (intro w hSw; (try dsimp only at hSw); obtain ⟨⟨⟨x1, x2⟩, ⟨x3, x4⟩, ⟨x5, x6⟩, x7, x8⟩, x9, x10⟩ := hSw; go_simp; try with_reducible rfl)
                                  (try simp only [Act.put, lq1, lq2, lq3, lq4, lq5, lq6])
                                  refine wt (i := 6) (v := ?ve3q6x21) rfl ?he3q6x21 ?re3q6x21
                                  case he3q6x21 => (intro w hSw; (try dsimp only at hSw); obtain ⟨⟨⟨x1, x2⟩, ⟨x3, x4⟩, ⟨x5, x6⟩, x7, x8⟩, x9, x10⟩ := hSw; go_simp; try with_reducible rfl)
                                  (try simp only [Act.put, lq1, lq2, lq3, lq4, lq5, lq6])
                                  refine wu (i := 7) rfl ?_
                                  (try simp only [Act.put, lq1, lq2, lq3, lq4, lq5, lq6])
                                  refine wu (i := 8) rfl ?_
                                  (try simp only [Act.put, lq1, lq2, lq3, lq4, lq5, lq6])
                                  refine wu (i := 9) rfl ?_
                                  (try simp only [Act.put, lq1, lq2, lq3, lq4, lq5, lq6])
                                  refine wu (i := 10) rfl ?_
                                  (try simp only [Act.put, lq1, lq2, lq3, lq4, lq5, lq6])
                                  refine wu (i := 11) rfl ?_
                                  (try simp only [Act.put, lq1, lq2, lq3, lq4, lq5, lq6])
                                  refine wu (i := 12) rfl ?_
                                  (try simp only [Act.put, lq1, lq2, lq3, lq4, lq5, lq6])
                                  refine wu (i := 13) rfl ?_
                                  (try simp only [Act.put, lq1, lq2, lq3, lq4, lq5, lq6])
                                  refine wt (i := 14) (v := ?ve3q14x38) rfl ?he3q14x38 ?re3q14x38
                                  case he3q14x38 => (intro w hSw; (try dsimp only at hSw); obtain ⟨⟨⟨x1, x2⟩, ⟨x3, x4⟩, ⟨x5, x6⟩, x7, x8⟩, x9, x10⟩ := hSw; go_simp; try with_reducible rfl)
                                  (try simp only [Act.put, lq1, lq2, lq3, lq4, lq5, lq6])
                                  refine wt (i := 15) (v := ?ve3q15x41) rfl ?he3q15x41 ?re3q15x41
                                  case he3q15x41 => (intro w hSw; (try dsimp only at hSw); obtain ⟨⟨⟨x1, x2⟩, ⟨x3, x4⟩, ⟨x5, x6⟩, x7, x8⟩, x9, x10⟩ := hSw; go_simp; try with_reducible rfl)
                                  (try simp only [Act.put, lq1, lq2, lq3, lq4, lq5, lq6])
                                  refine wt (i := 16) (v := ?ve3q16x44) rfl ?he3q16x44 ?re3q16x44
                                  case he3q16x44 => (intro w hSw; (try dsimp only at hSw); obtain ⟨⟨⟨x1, x2⟩, ⟨x3, x4⟩, ⟨x5, x6⟩, x7, x8⟩, x9, x10⟩ := hSw; go_simp; try with_reducible rfl)
                                  (try simp only [Act.put, lq1, lq2, lq3, lq4, lq5, lq6])
                                  refine wt (i := 17) (v := ?ve3q17x47) rfl ?he3q17x47 ?re3q17x47
                                  case he3q17x47 => (intro w hSw; (try dsimp only at hSw); obtain ⟨⟨⟨x1, x2⟩, ⟨x3, x4⟩, ⟨x5, x6⟩, x7, x8⟩, x9, x10⟩ := hSw; go_simp; try with_reducible rfl)
                                  (try simp only [Act.put, lq1, lq2, lq3, lq4, lq5, lq6])
                                  refine wt (i := 18) (v := ?ve3q18x50) rfl ?he3q18x50 ?re3q18x50
                                  case he3q18x50 => (intro w hSw; (try dsimp only at hSw); obtain ⟨⟨⟨x1, x2⟩, ⟨x3, x4⟩, ⟨x5, x6⟩, x7, x8⟩, x9, x10⟩ := hSw; go_simp; try with_reducible rfl)
                                  (try simp only [Act.put, lq1, lq2, lq3, lq4, lq5, lq6])
                                  refine wt (i := 19) (v := ?ve3q19x53) rfl ?he3q19x53 ?re3q19x53
                                  case he3q19x53 => (intro w hSw; (try dsimp only at hSw); obtain ⟨⟨⟨x1, x2⟩, ⟨x3, x4⟩, ⟨x5, x6⟩, x7, x8⟩, x9, x10⟩ := hSw; go_simp; try with_reducible rfl)
                                  (try simp only [Act.put, lq1, lq2, lq3, lq4, lq5, lq6])
                                  refine wt (i := 20) (v := ?ve3q20x56) rfl ?he3q20x56 ?re3q20x56
                                  case he3q20x56 => (intro w hSw; (try dsimp only at hSw); obtain ⟨⟨⟨x1, x2⟩, ⟨x3, x4⟩, ⟨x5, x6⟩, x7, x8⟩, x9, x10⟩ := hSw; go_simp; try with_reducible rfl)
                                  (try simp only [Act.put, lq1, lq2, lq3, lq4, lq5, lq6])
                                  refine wt (i := 21) (v := ?ve3q21x59) rfl ?he3q21x59 ?re3q21x59
                                  case he3q21x59 => (intro w hSw; (try dsimp only at hSw); obtain ⟨⟨⟨x1, x2⟩, ⟨x3, x4⟩, ⟨x5, x6⟩, x7, x8⟩, x9, x10⟩ := hSw; go_simp; try with_reducible rfl)
                                  (try simp only [Act.put, lq1, lq2, lq3, lq4, lq5, lq6])
                                  refine wt (i := 22) (v := ?ve3q22x62) rfl ?he3q22x62 ?re3q22x62
                                  case he3q22x62 => (intro w hSw; (try dsimp only at hSw); obtain ⟨⟨⟨x1, x2⟩, ⟨x3, x4⟩, ⟨x5, x6⟩, x7, x8⟩, x9, x10⟩ := hSw; go_simp; try with_reducible rfl)
                                  (try simp only [Act.put, lq1, lq2, lq3, lq4, lq5, lq6])
                                  refine wt (i := 23) (v := ?ve3q23x65) rfl ?he3q23x65 ?re3q23x65
                                  case he3q23x65 => (intro w hSw; (try dsimp only at hSw); obtain ⟨⟨⟨x1, x2⟩, ⟨x3, x4⟩, ⟨x5, x6⟩, x7, x8⟩, x9, x10⟩ := hSw; go_simp; try with_reducible rfl)
                                  (try simp only [Act.put, lq1, lq2, lq3, lq4, lq5, lq6])
                                  refine wt (i := 24) (v := ?ve3q24x68) rfl ?he3q24x68 ?re3q24x68
                                  case he3q24x68 => (intro w hSw; (try dsimp only at hSw); obtain ⟨⟨⟨x1, x2⟩, ⟨x3, x4⟩, ⟨x5, x6⟩, x7, x8⟩, x9, x10⟩ := hSw; go_simp; try with_reducible rfl)
                                  (try simp only [Act.put, lq1, lq2, lq3, lq4, lq5, lq6])
                                  refine wt (i := 25) (v := ?ve3q25x71) rfl ?he3q25x71 ?re3q25x71
                                  case he3q25x71 => (intro w hSw; (try dsimp only at hSw); obtain ⟨⟨⟨x1, x2⟩, ⟨x3, x4⟩, ⟨x5, x6⟩, x7, x8⟩, x9, x10⟩ := hSw; go_simp; try with_reducible rfl)
                                  (try simp only [Act.put, lq1, lq2, lq3, lq4, lq5, lq6])
                                  refine wt (i := 26) (v := ?ve3q26x74) rfl ?he3q26x74 ?re3q26x74
                                  case he3q26x74 => (intro w hSw; (try dsimp only at hSw); obtain ⟨⟨⟨x1, x2⟩, ⟨x3, x4⟩, ⟨x5, x6⟩, x7, x8⟩, x9, x10⟩ := hSw; go_simp; try with_reducible rfl)
                                  (try simp only [Act.put, lq1, lq2, lq3, lq4, lq5, lq6])
                                  refine wt (i := 27) (v := ?ve3q27x77) rfl ?he3q27x77 ?re3q27x77
                                  case he3q27x77 => (intro w hSw; (try dsimp only at hSw); obtain ⟨⟨⟨x1, x2⟩, ⟨x3, x4⟩, ⟨x5, x6⟩, x7, x8⟩, x9, x10⟩ := hSw; go_simp; try with_reducible rfl)
                                  (try simp only [Act.put, lq1, lq2, lq3, lq4, lq5, lq6])
                                  refine wt (i := 28) (v := ?ve3q28x80) rfl ?he3q28x80 ?re3q28x80
                                  case he3q28x80 => (intro w hSw; (try dsimp only at hSw); obtain ⟨⟨⟨x1, x2⟩, ⟨x3, x4⟩, ⟨x5, x6⟩, x7, x8⟩, x9, x10⟩ := hSw; go_simp; try with_reducible rfl)
                                  (try simp only [Act.put, lq1, lq2, lq3, lq4, lq5, lq6])
                                  refine wt (i := 29) (v := ?ve3q29x83) rfl ?he3q29x83 ?re3q29x83
                                  case he3q29x83 => (intro w hSw; (try dsimp only at hSw); obtain ⟨⟨⟨x1, x2⟩, ⟨x3, x4⟩, ⟨x5, x6⟩, x7, x8⟩, x9, x10⟩ := hSw; go_simp; try with_reducible rfl)
                                  (try simp only [Act.put, lq1, lq2, lq3, lq4, lq5, lq6])
                                  refine wt (i := 30) (v := ?ve3q30x86) rfl ?he3q30x86 ?re3q30x86
                                  case he3q30x86 => (intro w hSw; (try dsimp only at hSw); obtain ⟨⟨⟨x1, x2⟩, ⟨x3, x4⟩, ⟨x5, x6⟩, x7, x8⟩, x9, x10⟩ := hSw; go_simp; try with_reducible rfl)
                                  (try simp only [Act.put, lq1, lq2, lq3, lq4, lq5, lq6])
                                  refine wt (i := 31) (v := ?ve3q31x89) rfl ?he3q31x89 ?re3q31x89
                                  case he3q31x89 => (intro w hSw; (try dsimp only at hSw); obtain ⟨⟨⟨x1, x2⟩, ⟨x3, x4⟩, ⟨x5, x6⟩, x7, x8⟩, x9, x10⟩ := hSw; go_simp; try with_reducible rfl)
                                  (try simp only [Act.put, lq1, lq2, lq3, lq4, lq5, lq6])
                                  refine wt (i := 32) (v := ?ve3q32x92) rfl ?he3q32x92 ?re3q32x92
                                  case he3q32x92 => (intro w hSw; (try dsimp only at hSw); obtain ⟨⟨⟨x1, x2⟩, ⟨x3, x4⟩, ⟨x5, x6⟩, x7, x8⟩, x9, x10⟩ := hSw; go_simp; try with_reducible rfl)
                                  (try simp only [Act.put, lq1, lq2, lq3, lq4, lq5, lq6])
                                  refine wpAnyH_done (by kernel_rfl) ?_ _
                                  go_wp2_with fail
                                  go_meet
                                  exact ⟨by rw [hD.out], hidb ⟨AZ.out.drew, GE.out.drew⟩⟩
                            · rw [decide_eq_false a1] at g1
                              by_cases a2 : x = q
                              · rw [decide_eq_true a2] at g2
                                have HA1 := hidb (show x = p ∨ x = q from .inr a2)
                                clear a1 a2
                                by_cases b1 : x = r
                                · rw [decide_eq_true b1] at g3
                                  have hD := hidb (show decide ((x = p ∨ x = q) ∧ (x = r ∨ x = s)) = true from decide_eq_true ⟨HA1.out, .inl b1⟩)
                                  clear b1
                                  refine wp_region_held_drew (S := (fun w' => C8 w' bA u1 u2 bB v1 v2 p q r s ∧ (w'.cell? ⟨Z, 0, none⟩ = some (.int .i64 x.1) ∧ w'.cell? ⟨Z, 1, none⟩ = some (.int .i64 x.2)))) (by kernel_rfl) ?_ (fun hHeld => ?_)
                                  · (try dsimp only); exact ⟨HC8.out _ GE.out.drew, AZ.out.drew.c2⟩
                                  skip
                                  refine wt (i := 0) (v := ?ve4q0x3) rfl ?he4q0x3 ?re4q0x3
                                  case he4q0x3 => (intro w hSw; (try dsimp only at hSw); obtain ⟨⟨⟨x1, x2⟩, ⟨x3, x4⟩, ⟨x5, x6⟩, x7, x8⟩, x9, x10⟩ := hSw; go_simp; try with_reducible rfl)
                                  (try simp only [Act.put, lq1, lq2, lq4, lq5, lq6])
                                  refine wt (i := 1) (v := ?ve4q1x6) rfl ?he4q1x6 ?re4q1x6
                                  case he4q1x6 => (intro w hSw; (try dsimp only at hSw); obtain ⟨⟨⟨x1, x2⟩, ⟨x3, x4⟩, ⟨x5, x6⟩, x7, x8⟩, x9, x10⟩ := hSw; go_simp; try with_reducible rfl)
                                  (try simp only [Act.put, lq1, lq2, lq3, lq4, lq5, lq6])
                                  refine wt (i := 2) (v := ?ve4q2x9) rfl ?he4q2x9 ?re4q2x9
                                  case he4q2x9 => (intro w hSw; (try dsimp only at hSw); obtain ⟨⟨⟨x1, x2⟩, ⟨x3, x4⟩, ⟨x5, x6⟩, x7, x8⟩, x9, x10⟩ := hSw; go_simp; try with_reducible rfl)
                                  (try simp only [Act.put, lq1, lq2, lq3, lq4, lq5, lq6])
                                  refine wt (i := 3) (v := ?ve4q3x12) rfl ?he4q3x12 ?re4q3x12
                                  case he4q3x12 => (intro w hSw; (try dsimp only at hSw); obtain ⟨⟨⟨x1, x2⟩, ⟨x3, x4⟩, ⟨x5, x6⟩, x7, x8⟩, x9, x10⟩ := hSw; go_simp; try with_reducible rfl)
                                  (try simp only [Act.put, lq1, lq2, lq3, lq4, lq5, lq6])
                                  refine wt (i := 4) (v := ?ve4q4x15) rfl ?he4q4x15 ?re4q4x15
                                  case he4q4x15 => (intro w hSw; (try dsimp only at hSw); obtain ⟨⟨⟨x1, x2⟩, ⟨x3, x4⟩, ⟨x5, x6⟩, x7, x8⟩, x9, x10⟩ := hSw; go_simp; try with_reducible rfl)
                                  (try simp only [Act.put, lq1, lq2, lq3, lq4, lq5, lq6])
                                  refine wt (i := 5) (v := ?ve4q5x18) rfl ?he4q5x18 ?re4q5x18
                                  case he4q5x18 => (intro w hSw; (try dsimp only at hSw); obtain ⟨⟨⟨x1, x2⟩, ⟨x3, x4⟩, ⟨x5, x6⟩, x7, x8⟩, x9, x10⟩ := hSw; go_simp; try with_reducible rfl)
                                  (try simp only [Act.put, lq1, lq2, lq3, lq4, lq5, lq6])
                                  refine wt (i := 6) (v := ?ve4q6x21) rfl ?he4q6x21 ?re4q6x21
                                  case he4q6x21 => (intro w hSw; (try dsimp only at hSw); obtain ⟨⟨⟨x1, x2⟩, ⟨x3, x4⟩, ⟨x5, x6⟩, x7, x8⟩, x9, x10⟩ := hSw; go_simp; try with_reducible rfl)
                                  (try simp only [Act.put, lq1, lq2, lq3, lq4, lq5, lq6])
                                  refine wt (i := 7) (v := ?ve4q7x24) rfl ?he4q7x24 ?re4q7x24
                                  case he4q7x24 => (intro w hSw; (try dsimp only at hSw); obtain ⟨⟨⟨x1, x2⟩, ⟨x3, x4⟩, ⟨x5, x6⟩, x7, x8⟩, x9, x10⟩ := hSw; go_simp; try with_reducible rfl)
                                  (try simp only [Act.put, lq1, lq2, lq3, lq4, lq5, lq6])
                                  refine wt (i := 8) (v := ?ve4q8x27) rfl ?he4q8x27 ?re4q8x27
                                  case he4q8x27 => (intro w hSw; (try dsimp only at hSw); obtain ⟨⟨⟨x1, x2⟩, ⟨x3, x4⟩, ⟨x5, x6⟩, x7, x8⟩, x9, x10⟩ := hSw; go_simp; try with_reducible rfl)
                                  (try simp only [Act.put, lq1, lq2, lq3, lq4, lq5, lq6])
                                  refine wt (i := 9) (v := ?ve4q9x30) rfl ?he4q9x30 ?re4q9x30
                                  case he4q9x30 => (intro w hSw; (try dsimp only at hSw); obtain ⟨⟨⟨x1, x2⟩, ⟨x3, x4⟩, ⟨x5, x6⟩, x7, x8⟩, x9, x10⟩ := hSw; go_simp; try with_reducible rfl)
                                  (try simp only [Act.put, lq1, lq2, lq3, lq4, lq5, lq6])
                                  refine wt (i := 10) (v := ?ve4q10x33) rfl ?he4q10x33 ?re4q10x33
                                  case he4q10x33 => (intro w hSw; (try dsimp only at hSw); obtain ⟨⟨⟨x1, x2⟩, ⟨x3, x4⟩, ⟨x5, x6⟩, x7, x8⟩, x9, x10⟩ := hSw; go_simp; try with_reducible rfl)
                                  (try simp only [Act.put, lq1, lq2, lq3, lq4, lq5, lq6])
                                  refine wt (i := 11) (v := ?ve4q11x36) rfl ?he4q11x36 ?re4q11x36
                                  case he4q11x36 => (intro w hSw; (try dsimp only at hSw); obtain ⟨⟨⟨x1, x2⟩, ⟨x3, x4⟩, ⟨x5, x6⟩, x7, x8⟩, x9, x10⟩ := hSw; go_simp; try with_reducible rfl)
                                  (try simp only [Act.put, lq1, lq2, lq3, lq4, lq5, lq6])
                                  refine wt (i := 12) (v := ?ve4q12x39) rfl ?he4q12x39 ?re4q12x39
                                  case he4q12x39 => (intro w hSw; (try dsimp only at hSw); obtain ⟨⟨⟨x1, x2⟩, ⟨x3, x4⟩, ⟨x5, x6⟩, x7, x8⟩, x9, x10⟩ := hSw; go_simp; try with_reducible rfl)
                                  (try simp only [Act.put, lq1, lq2, lq3, lq4, lq5, lq6])
                                  refine wt (i := 13) (v := ?ve4q13x42) rfl ?he4q13x42 ?re4q13x42
                                  case he4q13x42 => (intro w hSw; (try dsimp only at hSw); obtain ⟨⟨⟨x1, x2⟩, ⟨x3, x4⟩, ⟨x5, x6⟩, x7, x8⟩, x9, x10⟩ := hSw; go_simp; try with_reducible rfl)
                                  (try simp only [Act.put, lq1, lq2, lq3, lq4, lq5, lq6])
                                  refine wt (i := 14) (v := ?ve4q14x45) rfl ?he4q14x45 ?re4q14x45
                                  case he4q14x45 => (intro w hSw; (try dsimp only at hSw); obtain ⟨⟨⟨x1, x2⟩, ⟨x3, x4⟩, ⟨x5, x6⟩, x7, x8⟩, x9, x10⟩ := hSw; go_simp; try with_reducible rfl)
                                  (try simp only [Act.put, lq1, lq2, lq3, lq4, lq5, lq6])
                                  refine wt (i := 15) (v := ?ve4q15x48) rfl ?he4q15x48 ?re4q15x48
                                  case he4q15x48 => (intro w hSw; (try dsimp only at hSw); obtain ⟨⟨⟨x1, x2⟩, ⟨x3, x4⟩, ⟨x5, x6⟩, x7, x8⟩, x9, x10⟩ := hSw; go_simp; try with_reducible rfl)
                                  (try simp only [Act.put, lq1, lq2, lq3, lq4, lq5, lq6])
                                  refine wt (i := 16) (v := ?ve4q16x51) rfl ?he4q16x51 ?re4q16x51
                                  case he4q16x51 => (intro w hSw; (try dsimp only at hSw); obtain ⟨⟨⟨x1, x2⟩, ⟨x3, x4⟩, ⟨x5, x6⟩, x7, x8⟩, x9, x10⟩ := hSw; go_simp; try with_reducible rfl)
                                  (try simp only [Act.put, lq1, lq2, lq3, lq4, lq5, lq6])
                                  refine wt (i := 17) (v := ?ve4q17x54) rfl ?he4q17x54 ?re4q17x54
                                  case he4q17x54 => (intro w hSw; (try dsimp only at hSw); obtain ⟨⟨⟨x1, x2⟩, ⟨x3, x4⟩, ⟨x5, x6⟩, x7, x8⟩, x9, x10⟩ := hSw; go_simp; try with_reducible rfl)
                                  (try simp only [Act.put, lq1, lq2, lq3, lq4, lq5, lq6])
                                  refine wt (i := 18) (v := ?ve4q18x57) rfl ?he4q18x57 ?re4q18x57
                                  case he4q18x57 => (intro w hSw; (try dsimp only at hSw); obtain ⟨⟨⟨x1, x2⟩, ⟨x3, x4⟩, ⟨x5, x6⟩, x7, x8⟩, x9, x10⟩ := hSw; go_simp; try with_reducible rfl)
                                  (try simp only [Act.put, lq1, lq2, lq3, lq4, lq5, lq6])
                                  refine wt (i := 19) (v := ?ve4q19x60) rfl ?he4q19x60 ?re4q19x60
                                  case he4q19x60 => (intro w hSw; (try dsimp only at hSw); obtain ⟨⟨⟨x1, x2⟩, ⟨x3, x4⟩, ⟨x5, x6⟩, x7, x8⟩, x9, x10⟩ := hSw; go_simp; try with_reducible rfl)
                                  (try simp only [Act.put, lq1, lq2, lq3, lq4, lq5, lq6])
                                  refine wt (i := 20) (v := ?ve4q20x63) rfl ?he4q20x63 ?re4q20x63
                                  case he4q20x63 => (intro w hSw; (try dsimp only at hSw); obtain ⟨⟨⟨x1, x2⟩, ⟨x3, x4⟩, ⟨x5, x6⟩, x7, x8⟩, x9, x10⟩ := hSw; go_simp; try with_reducible rfl)
                                  (try simp only [Act.put, lq1, lq2, lq3, lq4, lq5, lq6])
                                  refine wt (i := 21) (v := ?ve4q21x66) rfl ?he4q21x66 ?re4q21x66
                                  case he4q21x66 => (intro w hSw; (try dsimp only at hSw); obtain ⟨⟨⟨x1, x2⟩, ⟨x3, x4⟩, ⟨x5, x6⟩, x7, x8⟩, x9, x10⟩ := hSw; go_simp; try with_reducible rfl)
                                  (try simp only [Act.put, lq1, lq2, lq3, lq4, lq5, lq6])
                                  refine wt (i := 22) (v := ?ve4q22x69) rfl ?he4q22x69 ?re4q22x69
                                  case he4q22x69 => (intro w hSw; (try dsimp only at hSw); obtain ⟨⟨⟨x1, x2⟩, ⟨x3, x4⟩, ⟨x5, x6⟩, x7, x8⟩, x9, x10⟩ := hSw; go_simp; try with_reducible rfl)
                                  (try simp only [Act.put, lq1, lq2, lq3, lq4, lq5, lq6])
                                  refine wu (i := 23) rfl ?_
                                  (try simp only [Act.put, lq1, lq2, lq3, lq4, lq5, lq6])
                                  refine wu (i := 24) rfl ?_
                                  (try simp only [Act.put, lq1, lq2, lq3, lq4, lq5, lq6])
                                  refine wu (i := 25) rfl ?_
                                  (try simp only [Act.put, lq1, lq2, lq3, lq4, lq5, lq6])
                                  refine wu (i := 26) rfl ?_
                                  (try simp only [Act.put, lq1, lq2, lq3, lq4, lq5, lq6])
                                  refine wu (i := 27) rfl ?_
                                  (try simp only [Act.put, lq1, lq2, lq3, lq4, lq5, lq6])
                                  refine wu (i := 28) rfl ?_
                                  (try simp only [Act.put, lq1, lq2, lq3, lq4, lq5, lq6])
                                  refine wu (i := 29) rfl ?_
                                  (try simp only [Act.put, lq1, lq2, lq3, lq4, lq5, lq6])
                                  refine wt (i := 30) (v := ?ve4q30x86) rfl ?he4q30x86 ?re4q30x86
                                  case he4q30x86 => (intro w hSw; (try dsimp only at hSw); obtain ⟨⟨⟨x1, x2⟩, ⟨x3, x4⟩, ⟨x5, x6⟩, x7, x8⟩, x9, x10⟩ := hSw; go_simp; try with_reducible rfl)
                                  (try simp only [Act.put, lq1, lq2, lq3, lq4, lq5, lq6])
                                  refine wt (i := 31) (v := ?ve4q31x89) rfl ?he4q31x89 ?re4q31x89
                                  case he4q31x89 => (intro w hSw; (try dsimp only at hSw); obtain ⟨⟨⟨x1, x2⟩, ⟨x3, x4⟩, ⟨x5, x6⟩, x7, x8⟩, x9, x10⟩ := hSw; go_simp; try with_reducible rfl)
                                  (try simp only [Act.put, lq1, lq2, lq3, lq4, lq5, lq6])
                                  refine wt (i := 32) (v := ?ve4q32x92) rfl ?he4q32x92 ?re4q32x92
                                  case he4q32x92 => (intro w hSw; (try dsimp only at hSw); obtain ⟨⟨⟨x1, x2⟩, ⟨x3, x4⟩, ⟨x5, x6⟩, x7, x8⟩, x9, x10⟩ := hSw; go_simp; try with_reducible rfl)
                                  (try simp only [Act.put, lq1, lq2, lq3, lq4, lq5, lq6])
                                  refine wpAnyH_done (by kernel_rfl) ?_ _
                                  go_wp2_with fail
                                  go_meet
                                  exact ⟨by rw [hD.out], hidb ⟨AZ.out.drew, GE.out.drew⟩⟩
                                · rw [decide_eq_false b1] at g3
                                  by_cases b2 : x = s
                                  · rw [decide_eq_true b2] at g4
                                    have hD := hidb (show decide ((x = p ∨ x = q) ∧ (x = r ∨ x = s)) = true from decide_eq_true ⟨HA1.out, .inr b2⟩)
                                    clear b1 b2
                                    refine wp_region_held_drew (S := (fun w' => C8 w' bA u1 u2 bB v1 v2 p q r s ∧ (w'.cell? ⟨Z, 0, none⟩ = some (.int .i64 x.1) ∧ w'.cell? ⟨Z, 1, none⟩ = some (.int .i64 x.2)))) (by kernel_rfl) ?_ (fun hHeld => ?_)
                                    · (try dsimp only); exact ⟨HC8.out _ GE.out.drew, AZ.out.drew.c2⟩
                                    skip
                                    refine wt (i := 0) (v := ?ve5q0x3) rfl ?he5q0x3 ?re5q0x3
                                    case he5q0x3 => (intro w hSw; (try dsimp only at hSw); obtain ⟨⟨⟨x1, x2⟩, ⟨x3, x4⟩, ⟨x5, x6⟩, x7, x8⟩, x9, x10⟩ := hSw; go_simp; try with_reducible rfl)
                                    (try simp only [Act.put, lq1, lq2, lq4, lq5, lq6])
                                    refine wt (i := 1) (v := ?ve5q1x6) rfl ?he5q1x6 ?re5q1x6
                                    case he5q1x6 => (intro w hSw; (try dsimp only at hSw); obtain ⟨⟨⟨x1, x2⟩, ⟨x3, x4⟩, ⟨x5, x6⟩, x7, x8⟩, x9, x10⟩ := hSw; go_simp; try with_reducible rfl)
                                    (try simp only [Act.put, lq1, lq2, lq3, lq4, lq5, lq6])
                                    refine wt (i := 2) (v := ?ve5q2x9) rfl ?he5q2x9 ?re5q2x9
                                    case he5q2x9 => (intro w hSw; (try dsimp only at hSw); obtain ⟨⟨⟨x1, x2⟩, ⟨x3, x4⟩, ⟨x5, x6⟩, x7, x8⟩, x9, x10⟩ := hSw; go_simp; try with_reducible rfl)
                                    (try simp only [Act.put, lq1, lq2, lq3, lq4, lq5, lq6])
                                    refine wt (i := 3) (v := ?ve5q3x12) rfl ?he5q3x12 ?re5q3x12
                                    case he5q3x12 => (intro w hSw; (try dsimp only at hSw); obtain ⟨⟨⟨x1, x2⟩, ⟨x3, x4⟩, ⟨x5, x6⟩, x7, x8⟩, x9, x10⟩ := hSw; go_simp; try with_reducible rfl)
                                    (try simp only [Act.put, lq1, lq2, lq3, lq4, lq5, lq6])
                                    refine wt (i := 4) (v := ?ve5q4x15) rfl ?he5q4x15 ?re5q4x15
                                    case he5q4x15 => (intro w hSw; (try dsimp only at hSw); obtain ⟨⟨⟨x1, x2⟩, ⟨x3, x4⟩, ⟨x5, x6⟩, x7, x8⟩, x9, x10⟩ := hSw; go_simp; try with_reducible rfl)
                                    (try simp only [Act.put, lq1, lq2, lq3, lq4, lq5, lq6])
                                    refine wt (i := 5) (v := ?ve5q5x18) rfl ?he5q5x18 ?re5q5x18
                                    case he5q5x18 => (intro w hSw; (try dsimp only at hSw); obtain ⟨⟨⟨x1, x2⟩, ⟨x3, x4⟩, ⟨x5, x6⟩, x7, x8⟩, x9, x10⟩ := hSw; go_simp; try with_reducible rfl)
                                    (try simp only [Act.put, lq1, lq2, lq3, lq4, lq5, lq6])
                                    refine wt (i := 6) (v := ?ve5q6x21) rfl ?he5q6x21 ?re5q6x21
                                    case he5q6x21 => (intro w hSw; (try dsimp only at hSw); obtain ⟨⟨⟨x1, x2⟩, ⟨x3, x4⟩, ⟨x5, x6⟩, x7, x8⟩, x9, x10⟩ := hSw; go_simp; try with_reducible rfl)
                                    (try simp only [Act.put, lq1, lq2, lq3, lq4, lq5, lq6])
                                    refine wt (i := 7) (v := ?ve5q7x24) rfl ?he5q7x24 ?re5q7x24
                                    case he5q7x24 => (intro w hSw; (try dsimp only at hSw); obtain ⟨⟨⟨x1, x2⟩, ⟨x3, x4⟩, ⟨x5, x6⟩, x7, x8⟩, x9, x10⟩ := hSw; go_simp; try with_reducible rfl)
                                    (try simp only [Act.put, lq1, lq2, lq3, lq4, lq5, lq6])
                                    refine wt (i := 8) (v := ?ve5q8x27) rfl ?he5q8x27 ?re5q8x27
                                    case he5q8x27 => (intro w hSw; (try dsimp only at hSw); obtain ⟨⟨⟨x1, x2⟩, ⟨x3, x4⟩, ⟨x5, x6⟩, x7, x8⟩, x9, x10⟩ := hSw; go_simp; try with_reducible rfl)
                                    (try simp only [Act.put, lq1, lq2, lq3, lq4, lq5, lq6])
                                    refine wt (i := 9) (v := ?ve5q9x30) rfl ?he5q9x30 ?re5q9x30
                                    case he5q9x30 => (intro w hSw; (try dsimp only at hSw); obtain ⟨⟨⟨x1, x2⟩, ⟨x3, x4⟩, ⟨x5, x6⟩, x7, x8⟩, x9, x10⟩ := hSw; go_simp; try with_reducible rfl)
                                    (try simp only [Act.put, lq1, lq2, lq3, lq4, lq5, lq6])
                                    refine wt (i := 10) (v := ?ve5q10x33) rfl ?he5q10x33 ?re5q10x33
                                    case he5q10x33 => (intro w hSw; (try dsimp only at hSw); obtain ⟨⟨⟨x1, x2⟩, ⟨x3, x4⟩, ⟨x5, x6⟩, x7, x8⟩, x9, x10⟩ := hSw; go_simp; try with_reducible rfl)
                                    (try simp only [Act.put, lq1, lq2, lq3, lq4, lq5, lq6])
                                    refine wt (i := 11) (v := ?ve5q11x36) rfl ?he5q11x36 ?re5q11x36
                                    case he5q11x36 => (intro w hSw; (try dsimp only at hSw); obtain ⟨⟨⟨x1, x2⟩, ⟨x3, x4⟩, ⟨x5, x6⟩, x7, x8⟩, x9, x10⟩ := hSw; go_simp; try with_reducible rfl)
                                    (try simp only [Act.put, lq1, lq2, lq3, lq4, lq5, lq6])
                                    refine wt (i := 12) (v := ?ve5q12x39) rfl ?he5q12x39 ?re5q12x39
                                    case he5q12x39 => (intro w hSw; (try dsimp only at hSw); obtain ⟨⟨⟨x1, x2⟩, ⟨x3, x4⟩, ⟨x5, x6⟩, x7, x8⟩, x9, x10⟩ := hSw; go_simp; try with_reducible rfl)
                                    (try simp only [Act.put, lq1, lq2, lq3, lq4, lq5, lq6])
                                    refine wt (i := 13) (v := ?ve5q13x42) rfl ?he5q13x42 ?re5q13x42
                                    case he5q13x42 => (intro w hSw; (try dsimp only at hSw); obtain ⟨⟨⟨x1, x2⟩, ⟨x3, x4⟩, ⟨x5, x6⟩, x7, x8⟩, x9, x10⟩ := hSw; go_simp; try with_reducible rfl)
                                    (try simp only [Act.put, lq1, lq2, lq3, lq4, lq5, lq6])
                                    refine wt (i := 14) (v := ?ve5q14x45) rfl ?he5q14x45 ?re5q14x45
                                    case he5q14x45 => (intro w hSw; (try dsimp only at hSw); obtain ⟨⟨⟨x1, x2⟩, ⟨x3, x4⟩, ⟨x5, x6⟩, x7, x8⟩, x9, x10⟩ := hSw; go_simp; try with_reducible rfl)
                                    (try simp only [Act.put, lq1, lq2, lq3, lq4, lq5, lq6])
                                    refine wt (i := 15) (v := ?ve5q15x48) rfl ?he5q15x48 ?re5q15x48
                                    case he5q15x48 => (intro w hSw; (try dsimp only at hSw); obtain ⟨⟨⟨x1, x2⟩, ⟨x3, x4⟩, ⟨x5, x6⟩, x7, x8⟩, x9, x10⟩ := hSw; go_simp; try with_reducible rfl)
                                    (try simp only [Act.put, lq1, lq2, lq3, lq4, lq5, lq6])
                                    refine wt (i := 16) (v := ?ve5q16x51) rfl ?he5q16x51 ?re5q16x51
                                    case he5q16x51 => (intro w hSw; (try dsimp only at hSw); obtain ⟨⟨⟨x1, x2⟩, ⟨x3, x4⟩, ⟨x5, x6⟩, x7, x8⟩, x9, x10⟩ := hSw; go_simp; try with_reducible rfl)
                                    (try simp only [Act.put, lq1, lq2, lq3, lq4, lq5, lq6])
                                    refine wt (i := 17) (v := ?ve5q17x54) rfl ?he5q17x54 ?re5q17x54
                                    case he5q17x54 => (intro w hSw; (try dsimp only at hSw); obtain ⟨⟨⟨x1, x2⟩, ⟨x3, x4⟩, ⟨x5, x6⟩, x7, x8⟩, x9, x10⟩ := hSw; go_simp; try with_reducible rfl)
                                    (try simp only [Act.put, lq1, lq2, lq3, lq4, lq5, lq6])
                                    refine wt (i := 18) (v := ?ve5q18x57) rfl ?he5q18x57 ?re5q18x57
                                    case he5q18x57 => (intro w hSw; (try dsimp only at hSw); obtain ⟨⟨⟨x1, x2⟩, ⟨x3, x4⟩, ⟨x5, x6⟩, x7, x8⟩, x9, x10⟩ := hSw; go_simp; try with_reducible rfl)
                                    (try simp only [Act.put, lq1, lq2, lq3, lq4, lq5, lq6])
                                    refine wt (i := 19) (v := ?ve5q19x60) rfl ?he5q19x60 ?re5q19x60
                                    case he5q19x60 => (intro w hSw; (try dsimp only at hSw); obtain ⟨⟨⟨x1, x2⟩, ⟨x3, x4⟩, ⟨x5, x6⟩, x7, x8⟩, x9, x10⟩ := hSw; go_simp; try with_reducible rfl)
                                    (try simp only [Act.put, lq1, lq2, lq3, lq4, lq5, lq6])
                                    refine wt (i := 20) (v := ?ve5q20x63) rfl ?he5q20x63 ?re5q20x63
                                    case he5q20x63 => (intro w hSw; (try dsimp only at hSw); obtain ⟨⟨⟨x1, x2⟩, ⟨x3, x4⟩, ⟨x5, x6⟩, x7, x8⟩, x9, x10⟩ := hSw; go_simp; try with_reducible rfl)
                                    (try simp only [Act.put, lq1, lq2, lq3, lq4, lq5, lq6])
                                    refine wt (i := 21) (v := ?ve5q21x66) rfl ?he5q21x66 ?re5q21x66
                                    case he5q21x66 => (intro w hSw; (try dsimp only at hSw); obtain ⟨⟨⟨x1, x2⟩, ⟨x3, x4⟩, ⟨x5, x6⟩, x7, x8⟩, x9, x10⟩ := hSw; go_simp; try with_reducible rfl)
                                    (try simp only [Act.put, lq1, lq2, lq3, lq4, lq5, lq6])
                                    refine wt (i := 22) (v := ?ve5q22x69) rfl ?he5q22x69 ?re5q22x69
                                    case he5q22x69 => (intro w hSw; (try dsimp only at hSw); obtain ⟨⟨⟨x1, x2⟩, ⟨x3, x4⟩, ⟨x5, x6⟩, x7, x8⟩, x9, x10⟩ := hSw; go_simp; try with_reducible rfl)
                                    (try simp only [Act.put, lq1, lq2, lq3, lq4, lq5, lq6])
                                    refine wt (i := 23) (v := ?ve5q23x72) rfl ?he5q23x72 ?re5q23x72
                                    case he5q23x72 => (intro w hSw; (try dsimp only at hSw); obtain ⟨⟨⟨x1, x2⟩, ⟨x3, x4⟩, ⟨x5, x6⟩, x7, x8⟩, x9, x10⟩ := hSw; go_simp; try with_reducible rfl)
                                    (try simp only [Act.put, lq1, lq2, lq3, lq4, lq5, lq6])
                                    refine wt (i := 24) (v := ?ve5q24x75) rfl ?he5q24x75 ?re5q24x75
                                    case he5q24x75 => (intro w hSw; (try dsimp only at hSw); obtain ⟨⟨⟨x1, x2⟩, ⟨x3, x4⟩, ⟨x5, x6⟩, x7, x8⟩, x9, x10⟩ := hSw; go_simp; try with_reducible rfl)
                                    (try simp only [Act.put, lq1, lq2, lq3, lq4, lq5, lq6])
                                    refine wt (i := 25) (v := ?ve5q25x78) rfl ?he5q25x78 ?re5q25x78
                                    case he5q25x78 => (intro w hSw; (try dsimp only at hSw); obtain ⟨⟨⟨x1, x2⟩, ⟨x3, x4⟩, ⟨x5, x6⟩, x7, x8⟩, x9, x10⟩ := hSw; go_simp; try with_reducible rfl)
                                    (try simp only [Act.put, lq1, lq2, lq3, lq4, lq5, lq6])
                                    refine wt (i := 26) (v := ?ve5q26x81) rfl ?he5q26x81 ?re5q26x81
                                    case he5q26x81 => (intro w hSw; (try dsimp only at hSw); obtain ⟨⟨⟨x1, x2⟩, ⟨x3, x4⟩, ⟨x5, x6⟩, x7, x8⟩, x9, x10⟩ := hSw; go_simp; try with_reducible rfl)
                                    (try simp only [Act.put, lq1, lq2, lq3, lq4, lq5, lq6])
                                    refine wt (i := 27) (v := ?ve5q27x84) rfl ?he5q27x84 ?re5q27x84
                                    case he5q27x84 => (intro w hSw; (try dsimp only at hSw); obtain ⟨⟨⟨x1, x2⟩, ⟨x3, x4⟩, ⟨x5, x6⟩, x7, x8⟩, x9, x10⟩ := hSw; go_simp; try with_reducible rfl)
                                    (try simp only [Act.put, lq1, lq2, lq3, lq4, lq5, lq6])
                                    refine wt (i := 28) (v := ?ve5q28x87) rfl ?he5q28x87 ?re5q28x87
                                    case he5q28x87 => (intro w hSw; (try dsimp only at hSw); obtain ⟨⟨⟨x1, x2⟩, ⟨x3, x4⟩, ⟨x5, x6⟩, x7, x8⟩, x9, x10⟩ := hSw; go_simp; try with_reducible rfl)
                                    (try simp only [Act.put, lq1, lq2, lq3, lq4, lq5, lq6])
                                    refine wt (i := 29) (v := ?ve5q29x90) rfl ?he5q29x90 ?re5q29x90
                                    case he5q29x90 => (intro w hSw; (try dsimp only at hSw); obtain ⟨⟨⟨x1, x2⟩, ⟨x3, x4⟩, ⟨x5, x6⟩, x7, x8⟩, x9, x10⟩ := hSw; go_simp; try with_reducible rfl)
                                    (try simp only [Act.put, lq1, lq2, lq3, lq4, lq5, lq6])
                                    refine wt (i := 30) (v := ?ve5q30x93) rfl ?he5q30x93 ?re5q30x93
                                    case he5q30x93 => (intro w hSw; (try dsimp only at hSw); obtain ⟨⟨⟨x1, x2⟩, ⟨x3, x4⟩, ⟨x5, x6⟩, x7, x8⟩, x9, x10⟩ := hSw; go_simp; try with_reducible rfl)
                                    (try simp only [Act.put, lq1, lq2, lq3, lq4, lq5, lq6])
                                    refine wt (i := 31) (v := ?ve5q31x96) rfl ?he5q31x96 ?re5q31x96
                                    case he5q31x96 => (intro w hSw; (try dsimp only at hSw); obtain ⟨⟨⟨x1, x2⟩, ⟨x3, x4⟩, ⟨x5, x6⟩, x7, x8⟩, x9, x10⟩ := hSw; go_simp; try with_reducible rfl)
                                    (try simp only [Act.put, lq1, lq2, lq3, lq4, lq5, lq6])
                                    refine wt (i := 32) (v := ?ve5q32x99) rfl ?he5q32x99 ?re5q32x99
                                    case he5q32x99 => (intro w hSw; (try dsimp only at hSw); obtain ⟨⟨⟨x1, x2⟩, ⟨x3, x4⟩, ⟨x5, x6⟩, x7, x8⟩, x9, x10⟩ := hSw; go_simp; try with_reducible rfl)
                                    (try simp only [Act.put, lq1, lq2, lq3, lq4, lq5, lq6])
                                    refine wpAnyH_done (by kernel_rfl) ?_ _
                                    go_wp2_with fail
                                    go_meet
                                    exact ⟨by rw [hD.out], hidb ⟨AZ.out.drew, GE.out.drew⟩⟩
                                  · rw [decide_eq_false b2] at g4
                                    have hD := hidb (show decide ((x = p ∨ x = q) ∧ (x = r ∨ x = s)) = false from decide_eq_false (fun hh => hh.2.elim b1 b2))
                                    clear b1 b2
                                    refine wp_region_held_drew (S := (fun w' => C8 w' bA u1 u2 bB v1 v2 p q r s ∧ (w'.cell? ⟨Z, 0, none⟩ = some (.int .i64 x.1) ∧ w'.cell? ⟨Z, 1, none⟩ = some (.int .i64 x.2)))) (by kernel_rfl) ?_ (fun hHeld => ?_)
                                    · (try dsimp only); exact ⟨HC8.out _ GE.out.drew, AZ.out.drew.c2⟩
                                    skip
                                    refine wt (i := 0) (v := ?ve6q0x3) rfl ?he6q0x3 ?re6q0x3
                                    case he6q0x3 => (intro w hSw; (try dsimp only at hSw); obtain ⟨⟨⟨x1, x2⟩, ⟨x3, x4⟩, ⟨x5, x6⟩, x7, x8⟩, x9, x10⟩ := hSw; go_simp; try with_reducible rfl)
                                    (try simp only [Act.put, lq1, lq2, lq4, lq5, lq6])
                                    refine wt (i := 1) (v := ?ve6q1x6) rfl ?he6q1x6 ?re6q1x6
                                    case he6q1x6 => (intro w hSw; (try dsimp only at hSw); obtain ⟨⟨⟨x1, x2⟩, ⟨x3, x4⟩, ⟨x5, x6⟩, x7, x8⟩, x9, x10⟩ := hSw; go_simp; try with_reducible rfl)
                                    (try simp only [Act.put, lq1, lq2, lq3, lq4, lq5, lq6])
                                    refine wt (i := 2) (v := ?ve6q2x9) rfl ?he6q2x9 ?re6q2x9
                                    case he6q2x9 => (intro w hSw; (try dsimp only at hSw); obtain ⟨⟨⟨x1, x2⟩, ⟨x3, x4⟩, ⟨x5, x6⟩, x7, x8⟩, x9, x10⟩ := hSw; go_simp; try with_reducible rfl)
                                    (try simp only [Act.put, lq1, lq2, lq3, lq4, lq5, lq6])
                                    refine wt (i := 3) (v := ?ve6q3x12) rfl ?he6q3x12 ?re6q3x12
                                    case he6q3x12 => (intro w hSw; (try dsimp only at hSw); obtain ⟨⟨⟨x1, x2⟩, ⟨x3, x4⟩, ⟨x5, x6⟩, x7, x8⟩, x9, x10⟩ := hSw; go_simp; try with_reducible rfl)
                                    (try simp only [Act.put, lq1, lq2, lq3, lq4, lq5, lq6])
                                    refine wt (i := 4) (v := ?ve6q4x15) rfl ?he6q4x15 ?re6q4x15
                                    case he6q4x15 => (intro w hSw; (try dsimp only at hSw); obtain ⟨⟨⟨x1, x2⟩, ⟨x3, x4⟩, ⟨x5, x6⟩, x7, x8⟩, x9, x10⟩ := hSw; go_simp; try with_reducible rfl)
                                    (try simp only [Act.put, lq1, lq2, lq3, lq4, lq5, lq6])
                                    refine wt (i := 5) (v := ?ve6q5x18) rfl ?he6q5x18 ?re6q5x18
                                    case he6q5x18 => (intro w hSw; (try dsimp only at hSw); obtain ⟨⟨⟨x1, x2⟩, ⟨x3, x4⟩, ⟨x5, x6⟩, x7, x8⟩, x9, x10⟩ := hSw; go_simp; try with_reducible rfl)
                                    (try simp only [Act.put, lq1, lq2, lq3, lq4, lq5, lq6])
                                    refine wt (i := 6) (v := ?ve6q6x21) rfl ?he6q6x21 ?re6q6x21
                                    case he6q6x21 => (intro w hSw; (try dsimp only at hSw); obtain ⟨⟨⟨x1, x2⟩, ⟨x3, x4⟩, ⟨x5, x6⟩, x7, x8⟩, x9, x10⟩ := hSw; go_simp; try with_reducible rfl)
                                    (try simp only [Act.put, lq1, lq2, lq3, lq4, lq5, lq6])
                                    refine wt (i := 7) (v := ?ve6q7x24) rfl ?he6q7x24 ?re6q7x24
                                    case he6q7x24 => (intro w hSw; (try dsimp only at hSw); obtain ⟨⟨⟨x1, x2⟩, ⟨x3, x4⟩, ⟨x5, x6⟩, x7, x8⟩, x9, x10⟩ := hSw; go_simp; try with_reducible rfl)
                                    (try simp only [Act.put, lq1, lq2, lq3, lq4, lq5, lq6])
                                    refine wt (i := 8) (v := ?ve6q8x27) rfl ?he6q8x27 ?re6q8x27
                                    case he6q8x27 => (intro w hSw; (try dsimp only at hSw); obtain ⟨⟨⟨x1, x2⟩, ⟨x3, x4⟩, ⟨x5, x6⟩, x7, x8⟩, x9, x10⟩ := hSw; go_simp; try with_reducible rfl)
                                    (try simp only [Act.put, lq1, lq2, lq3, lq4, lq5, lq6])
                                    refine wt (i := 9) (v := ?ve6q9x30) rfl ?he6q9x30 ?re6q9x30
                                    case he6q9x30 => (intro w hSw; (try dsimp only at hSw); obtain ⟨⟨⟨x1, x2⟩, ⟨x3, x4⟩, ⟨x5, x6⟩, x7, x8⟩, x9, x10⟩ := hSw; go_simp; try with_reducible rfl)
                                    (try simp only [Act.put, lq1, lq2, lq3, lq4, lq5, lq6])
                                    refine wt (i := 10) (v := ?ve6q10x33) rfl ?he6q10x33 ?re6q10x33
                                    case he6q10x33 => (intro w hSw; (try dsimp only at hSw); obtain ⟨⟨⟨x1, x2⟩, ⟨x3, x4⟩, ⟨x5, x6⟩, x7, x8⟩, x9, x10⟩ := hSw; go_simp; try with_reducible rfl)
                                    (try simp only [Act.put, lq1, lq2, lq3, lq4, lq5, lq6])
                                    refine wt (i := 11) (v := ?ve6q11x36) rfl ?he6q11x36 ?re6q11x36
                                    case he6q11x36 => (intro w hSw; (try dsimp only at hSw); obtain ⟨⟨⟨x1, x2⟩, ⟨x3, x4⟩, ⟨x5, x6⟩, x7, x8⟩, x9, x10⟩ := hSw; go_simp; try with_reducible rfl)
                                    (try simp only [Act.put, lq1, lq2, lq3, lq4, lq5, lq6])
                                    refine wt (i := 12) (v := ?ve6q12x39) rfl ?he6q12x39 ?re6q12x39
                                    case he6q12x39 => (intro w hSw; (try dsimp only at hSw); obtain ⟨⟨⟨x1, x2⟩, ⟨x3, x4⟩, ⟨x5, x6⟩, x7, x8⟩, x9, x10⟩ := hSw; go_simp; try with_reducible rfl)
                                    (try simp only [Act.put, lq1, lq2, lq3, lq4, lq5, lq6])
                                    refine wt (i := 13) (v := ?ve6q13x42) rfl ?he6q13x42 ?re6q13x42
                                    case he6q13x42 => (intro w hSw; (try dsimp only at hSw); obtain ⟨⟨⟨x1, x2⟩, ⟨x3, x4⟩, ⟨x5, x6⟩, x7, x8⟩, x9, x10⟩ := hSw; go_simp; try with_reducible rfl)
                                    (try simp only [Act.put, lq1, lq2, lq3, lq4, lq5, lq6])
                                    refine wt (i := 14) (v := ?ve6q14x45) rfl ?he6q14x45 ?re6q14x45
                                    case he6q14x45 => (intro w hSw; (try dsimp only at hSw); obtain ⟨⟨⟨x1, x2⟩, ⟨x3, x4⟩, ⟨x5, x6⟩, x7, x8⟩, x9, x10⟩ := hSw; go_simp; try with_reducible rfl)
                                    (try simp only [Act.put, lq1, lq2, lq3, lq4, lq5, lq6])
                                    refine wt (i := 15) (v := ?ve6q15x48) rfl ?he6q15x48 ?re6q15x48
                                    case he6q15x48 => (intro w hSw; (try dsimp only at hSw); obtain ⟨⟨⟨x1, x2⟩, ⟨x3, x4⟩, ⟨x5, x6⟩, x7, x8⟩, x9, x10⟩ := hSw; go_simp; try with_reducible rfl)
                                    (try simp only [Act.put, lq1, lq2, lq3, lq4, lq5, lq6])
                                    refine wt (i := 16) (v := ?ve6q16x51) rfl ?he6q16x51 ?re6q16x51
                                    case he6q16x51 => (intro w hSw; (try dsimp only at hSw); obtain ⟨⟨⟨x1, x2⟩, ⟨x3, x4⟩, ⟨x5, x6⟩, x7, x8⟩, x9, x10⟩ := hSw; go_simp; try with_reducible rfl)
                                    (try simp only [Act.put, lq1, lq2, lq3, lq4, lq5, lq6])
                                    refine wt (i := 17) (v := ?ve6q17x54) rfl ?he6q17x54 ?re6q17x54
                                    case he6q17x54 => (intro w hSw; (try dsimp only at hSw); obtain ⟨⟨⟨x1, x2⟩, ⟨x3, x4⟩, ⟨x5, x6⟩, x7, x8⟩, x9, x10⟩ := hSw; go_simp; try with_reducible rfl)
                                    (try simp only [Act.put, lq1, lq2, lq3, lq4, lq5, lq6])
                                    refine wt (i := 18) (v := ?ve6q18x57) rfl ?he6q18x57 ?re6q18x57
                                    case he6q18x57 => (intro w hSw; (try dsimp only at hSw); obtain ⟨⟨⟨x1, x2⟩, ⟨x3, x4⟩, ⟨x5, x6⟩, x7, x8⟩, x9, x10⟩ := hSw; go_simp; try with_reducible rfl)
                                    (try simp only [Act.put, lq1, lq2, lq3, lq4, lq5, lq6])
                                    refine wt (i := 19) (v := ?ve6q19x60) rfl ?he6q19x60 ?re6q19x60
                                    case he6q19x60 => (intro w hSw; (try dsimp only at hSw); obtain ⟨⟨⟨x1, x2⟩, ⟨x3, x4⟩, ⟨x5, x6⟩, x7, x8⟩, x9, x10⟩ := hSw; go_simp; try with_reducible rfl)
                                    (try simp only [Act.put, lq1, lq2, lq3, lq4, lq5, lq6])
                                    refine wt (i := 20) (v := ?ve6q20x63) rfl ?he6q20x63 ?re6q20x63
                                    case he6q20x63 => (intro w hSw; (try dsimp only at hSw); obtain ⟨⟨⟨x1, x2⟩, ⟨x3, x4⟩, ⟨x5, x6⟩, x7, x8⟩, x9, x10⟩ := hSw; go_simp; try with_reducible rfl)
                                    (try simp only [Act.put, lq1, lq2, lq3, lq4, lq5, lq6])
                                    refine wt (i := 21) (v := ?ve6q21x66) rfl ?he6q21x66 ?re6q21x66
                                    case he6q21x66 => (intro w hSw; (try dsimp only at hSw); obtain ⟨⟨⟨x1, x2⟩, ⟨x3, x4⟩, ⟨x5, x6⟩, x7, x8⟩, x9, x10⟩ := hSw; go_simp; try with_reducible rfl)
                                    (try simp only [Act.put, lq1, lq2, lq3, lq4, lq5, lq6])
                                    refine wt (i := 22) (v := ?ve6q22x69) rfl ?he6q22x69 ?re6q22x69
                                    case he6q22x69 => (intro w hSw; (try dsimp only at hSw); obtain ⟨⟨⟨x1, x2⟩, ⟨x3, x4⟩, ⟨x5, x6⟩, x7, x8⟩, x9, x10⟩ := hSw; go_simp; try with_reducible rfl)
                                    (try simp only [Act.put, lq1, lq2, lq3, lq4, lq5, lq6])
                                    refine wt (i := 23) (v := ?ve6q23x72) rfl ?he6q23x72 ?re6q23x72
                                    case he6q23x72 => (intro w hSw; (try dsimp only at hSw); obtain ⟨⟨⟨x1, x2⟩, ⟨x3, x4⟩, ⟨x5, x6⟩, x7, x8⟩, x9, x10⟩ := hSw; go_simp; try with_reducible rfl)
                                    (try simp only [Act.put, lq1, lq2, lq3, lq4, lq5, lq6])
                                    refine wt (i := 24) (v := ?ve6q24x75) rfl ?he6q24x75 ?re6q24x75
                                    case he6q24x75 => (intro w hSw; (try dsimp only at hSw); obtain ⟨⟨⟨x1, x2⟩, ⟨x3, x4⟩, ⟨x5, x6⟩, x7, x8⟩, x9, x10⟩ := hSw; go_simp; try with_reducible rfl)
                                    (try simp only [Act.put, lq1, lq2, lq3, lq4, lq5, lq6])
                                    refine wt (i := 25) (v := ?ve6q25x78) rfl ?he6q25x78 ?re6q25x78
                                    case he6q25x78 => (intro w hSw; (try dsimp only at hSw); obtain ⟨⟨⟨x1, x2⟩, ⟨x3, x4⟩, ⟨x5, x6⟩, x7, x8⟩, x9, x10⟩ := hSw; go_simp; try with_reducible rfl)
                                    (try simp only [Act.put, lq1, lq2, lq3, lq4, lq5, lq6])
                                    refine wt (i := 26) (v := ?ve6q26x81) rfl ?he6q26x81 ?re6q26x81
                                    case he6q26x81 => (intro w hSw; (try dsimp only at hSw); obtain ⟨⟨⟨x1, x2⟩, ⟨x3, x4⟩, ⟨x5, x6⟩, x7, x8⟩, x9, x10⟩ := hSw; go_simp; try with_reducible rfl)
                                    (try simp only [Act.put, lq1, lq2, lq3, lq4, lq5, lq6])
                                    refine wt (i := 27) (v := ?ve6q27x84) rfl ?he6q27x84 ?re6q27x84
                                    case he6q27x84 => (intro w hSw; (try dsimp only at hSw); obtain ⟨⟨⟨x1, x2⟩, ⟨x3, x4⟩, ⟨x5, x6⟩, x7, x8⟩, x9, x10⟩ := hSw; go_simp; try with_reducible rfl)
                                    (try simp only [Act.put, lq1, lq2, lq3, lq4, lq5, lq6])
                                    refine wt (i := 28) (v := ?ve6q28x87) rfl ?he6q28x87 ?re6q28x87
                                    case he6q28x87 => (intro w hSw; (try dsimp only at hSw); obtain ⟨⟨⟨x1, x2⟩, ⟨x3, x4⟩, ⟨x5, x6⟩, x7, x8⟩, x9, x10⟩ := hSw; go_simp; try with_reducible rfl)
                                    (try simp only [Act.put, lq1, lq2, lq3, lq4, lq5, lq6])
                                    refine wt (i := 29) (v := ?ve6q29x90) rfl ?he6q29x90 ?re6q29x90
                                    case he6q29x90 => (intro w hSw; (try dsimp only at hSw); obtain ⟨⟨⟨x1, x2⟩, ⟨x3, x4⟩, ⟨x5, x6⟩, x7, x8⟩, x9, x10⟩ := hSw; go_simp; try with_reducible rfl)
                                    (try simp only [Act.put, lq1, lq2, lq3, lq4, lq5, lq6])
                                    refine wt (i := 30) (v := ?ve6q30x93) rfl ?he6q30x93 ?re6q30x93
                                    case he6q30x93 => (intro w hSw; (try dsimp only at hSw); obtain ⟨⟨⟨x1, x2⟩, ⟨x3, x4⟩, ⟨x5, x6⟩, x7, x8⟩, x9, x10⟩ := hSw; go_simp; try with_reducible rfl)
                                    (try simp only [Act.put, lq1, lq2, lq3, lq4, lq5, lq6])
                                    refine wt (i := 31) (v := ?ve6q31x96) rfl ?he6q31x96 ?re6q31x96
                                    case he6q31x96 => (intro w hSw; (try dsimp only at hSw); obtain ⟨⟨⟨x1, x2⟩, ⟨x3, x4⟩, ⟨x5, x6⟩, x7, x8⟩, x9, x10⟩ := hSw; go_simp; try with_reducible rfl)
                                    (try simp only [Act.put, lq1, lq2, lq3, lq4, lq5, lq6])
                                    refine wt (i := 32) (v := ?ve6q32x99) rfl ?he6q32x99 ?re6q32x99
                                    case he6q32x99 => (intro w hSw; (try dsimp only at hSw); obtain ⟨⟨⟨x1, x2⟩, ⟨x3, x4⟩, ⟨x5, x6⟩, x7, x8⟩, x9, x10⟩ := hSw; go_simp; try with_reducible rfl)
                                    (try simp only [Act.put, lq1, lq2, lq3, lq4, lq5, lq6])
                                    refine wpAnyH_done (by kernel_rfl) ?_ _
                                    go_wp2_with fail
                                    go_meet
                                    exact ⟨by rw [hD.out], hidb ⟨AZ.out.drew, GE.out.drew⟩⟩
                              · rw [decide_eq_false a2] at g2
                                have hD := hidb (show decide ((x = p ∨ x = q) ∧ (x = r ∨ x = s)) = false from decide_eq_false (fun hh => hh.1.elim a1 a2))
                                clear a1 a2
                                refine wp_region_held_drew (S := (fun w' => C8 w' bA u1 u2 bB v1 v2 p q r s ∧ (w'.cell? ⟨Z, 0, none⟩ = some (.int .i64 x.1) ∧ w'.cell? ⟨Z, 1, none⟩ = some (.int .i64 x.2)))) (by kernel_rfl) ?_ (fun hHeld => ?_)
                                · (try dsimp only); exact ⟨HC8.out _ GE.out.drew, AZ.out.drew.c2⟩
                                skip
                                refine wt (i := 0) (v := ?ve7q0x3) rfl ?he7q0x3 ?re7q0x3
                                case he7q0x3 => (intro w hSw; (try dsimp only at hSw); obtain ⟨⟨⟨x1, x2⟩, ⟨x3, x4⟩, ⟨x5, x6⟩, x7, x8⟩, x9, x10⟩ := hSw; go_simp; try with_reducible rfl)
                                (try simp only [Act.put, lq1, lq2, lq4, lq5, lq6])
                                refine wt (i := 1) (v := ?ve7q1x6) rfl ?he7q1x6 ?re7q1x6
                                case he7q1x6 => (intro w hSw; (try dsimp only at hSw); obtain ⟨⟨⟨x1, x2⟩, ⟨x3, x4⟩, ⟨x5, x6⟩, x7, x8⟩, x9, x10⟩ := hSw; go_simp; try with_reducible rfl)
                                (try simp only [Act.put, lq1, lq2, lq3, lq4, lq5, lq6])
                                refine wt (i := 2) (v := ?ve7q2x9) rfl ?he7q2x9 ?re7q2x9
                                case he7q2x9 => (intro w hSw; (try dsimp only at hSw); obtain ⟨⟨⟨x1, x2⟩, ⟨x3, x4⟩, ⟨x5, x6⟩, x7, x8⟩, x9, x10⟩ := hSw; go_simp; try with_reducible rfl)
                                (try simp only [Act.put, lq1, lq2, lq3, lq4, lq5, lq6])
                                refine wt (i := 3) (v := ?ve7q3x12) rfl ?he7q3x12 ?re7q3x12
                                case he7q3x12 => (intro w hSw; (try dsimp only at hSw); obtain ⟨⟨⟨x1, x2⟩, ⟨x3, x4⟩, ⟨x5, x6⟩, x7, x8⟩, x9, x10⟩ := hSw; go_simp; try with_reducible rfl)
                                (try simp only [Act.put, lq1, lq2, lq3, lq4, lq5, lq6])
                                refine wt (i := 4) (v := ?ve7q4x15) rfl ?he7q4x15 ?re7q4x15
                                case he7q4x15 => (intro w hSw; (try dsimp only at hSw); obtain ⟨⟨⟨x1, x2⟩, ⟨x3, x4⟩, ⟨x5, x6⟩, x7, x8⟩, x9, x10⟩ := hSw; go_simp; try with_reducible rfl)
                                (try simp only [Act.put, lq1, lq2, lq3, lq4, lq5, lq6])
                                refine wt (i := 5) (v := ?ve7q5x18) rfl ?he7q5x18 ?re7q5x18
                                case he7q5x18 => (intro w hSw; (try dsimp only at hSw); obtain ⟨⟨⟨x1, x2⟩, ⟨x3, x4⟩, ⟨x5, x6⟩, x7, x8⟩, x9, x10⟩ := hSw; go_simp; try with_reducible rfl)
                                (try simp only [Act.put, lq1, lq2, lq3, lq4, lq5, lq6])
                                refine wt (i := 6) (v := ?ve7q6x21) rfl ?he7q6x21 ?re7q6x21
                                case he7q6x21 => (intro w hSw; (try dsimp only at hSw); obtain ⟨⟨⟨x1, x2⟩, ⟨x3, x4⟩, ⟨x5, x6⟩, x7, x8⟩, x9, x10⟩ := hSw; go_simp; try with_reducible rfl)
                                (try simp only [Act.put, lq1, lq2, lq3, lq4, lq5, lq6])
                                refine wt (i := 7) (v := ?ve7q7x24) rfl ?he7q7x24 ?re7q7x24
                                case he7q7x24 => (intro w hSw; (try dsimp only at hSw); obtain ⟨⟨⟨x1, x2⟩, ⟨x3, x4⟩, ⟨x5, x6⟩, x7, x8⟩, x9, x10⟩ := hSw; go_simp; try with_reducible rfl)
                                (try simp only [Act.put, lq1, lq2, lq3, lq4, lq5, lq6])
                                refine wt (i := 8) (v := ?ve7q8x27) rfl ?he7q8x27 ?re7q8x27
                                case he7q8x27 => (intro w hSw; (try dsimp only at hSw); obtain ⟨⟨⟨x1, x2⟩, ⟨x3, x4⟩, ⟨x5, x6⟩, x7, x8⟩, x9, x10⟩ := hSw; go_simp; try with_reducible rfl)
                                (try simp only [Act.put, lq1, lq2, lq3, lq4, lq5, lq6])
                                refine wt (i := 9) (v := ?ve7q9x30) rfl ?he7q9x30 ?re7q9x30
                                case he7q9x30 => (intro w hSw; (try dsimp only at hSw); obtain ⟨⟨⟨x1, x2⟩, ⟨x3, x4⟩, ⟨x5, x6⟩, x7, x8⟩, x9, x10⟩ := hSw; go_simp; try with_reducible rfl)
                                (try simp only [Act.put, lq1, lq2, lq3, lq4, lq5, lq6])
                                refine wt (i := 10) (v := ?ve7q10x33) rfl ?he7q10x33 ?re7q10x33
                                case he7q10x33 => (intro w hSw; (try dsimp only at hSw); obtain ⟨⟨⟨x1, x2⟩, ⟨x3, x4⟩, ⟨x5, x6⟩, x7, x8⟩, x9, x10⟩ := hSw; go_simp; try with_reducible rfl)
                                (try simp only [Act.put, lq1, lq2, lq3, lq4, lq5, lq6])
                                refine wt (i := 11) (v := ?ve7q11x36) rfl ?he7q11x36 ?re7q11x36
                                case he7q11x36 => (intro w hSw; (try dsimp only at hSw); obtain ⟨⟨⟨x1, x2⟩, ⟨x3, x4⟩, ⟨x5, x6⟩, x7, x8⟩, x9, x10⟩ := hSw; go_simp; try with_reducible rfl)
                                (try simp only [Act.put, lq1, lq2, lq3, lq4, lq5, lq6])
                                refine wt (i := 12) (v := ?ve7q12x39) rfl ?he7q12x39 ?re7q12x39
                                case he7q12x39 => (intro w hSw; (try dsimp only at hSw); obtain ⟨⟨⟨x1, x2⟩, ⟨x3, x4⟩, ⟨x5, x6⟩, x7, x8⟩, x9, x10⟩ := hSw; go_simp; try with_reducible rfl)
                                (try simp only [Act.put, lq1, lq2, lq3, lq4, lq5, lq6])
                                refine wt (i := 13) (v := ?ve7q13x42) rfl ?he7q13x42 ?re7q13x42
                                case he7q13x42 => (intro w hSw; (try dsimp only at hSw); obtain ⟨⟨⟨x1, x2⟩, ⟨x3, x4⟩, ⟨x5, x6⟩, x7, x8⟩, x9, x10⟩ := hSw; go_simp; try with_reducible rfl)
                                (try simp only [Act.put, lq1, lq2, lq3, lq4, lq5, lq6])
                                refine wt (i := 14) (v := ?ve7q14x45) rfl ?he7q14x45 ?re7q14x45
                                case he7q14x45 => (intro w hSw; (try dsimp only at hSw); obtain ⟨⟨⟨x1, x2⟩, ⟨x3, x4⟩, ⟨x5, x6⟩, x7, x8⟩, x9, x10⟩ := hSw; go_simp; try with_reducible rfl)
                                (try simp only [Act.put, lq1, lq2, lq3, lq4, lq5, lq6])
                                refine wt (i := 15) (v := ?ve7q15x48) rfl ?he7q15x48 ?re7q15x48
                                case he7q15x48 => (intro w hSw; (try dsimp only at hSw); obtain ⟨⟨⟨x1, x2⟩, ⟨x3, x4⟩, ⟨x5, x6⟩, x7, x8⟩, x9, x10⟩ := hSw; go_simp; try with_reducible rfl)
                                (try simp only [Act.put, lq1, lq2, lq3, lq4, lq5, lq6])
                                refine wu (i := 16) rfl ?_
                                (try simp only [Act.put, lq1, lq2, lq3, lq4, lq5, lq6])
                                refine wu (i := 17) rfl ?_
                                (try simp only [Act.put, lq1, lq2, lq3, lq4, lq5, lq6])
                                refine wu (i := 18) rfl ?_
                                (try simp only [Act.put, lq1, lq2, lq3, lq4, lq5, lq6])
                                refine wu (i := 19) rfl ?_
                                (try simp only [Act.put, lq1, lq2, lq3, lq4, lq5, lq6])
                                refine wu (i := 20) rfl ?_
                                (try simp only [Act.put, lq1, lq2, lq3, lq4, lq5, lq6])
                                refine wu (i := 21) rfl ?_
                                (try simp only [Act.put, lq1, lq2, lq3, lq4, lq5, lq6])
                                refine wu (i := 22) rfl ?_
                                (try simp only [Act.put, lq1, lq2, lq3, lq4, lq5, lq6])
                                refine wu (i := 23) rfl ?_
                                (try simp only [Act.put, lq1, lq2, lq3, lq4, lq5, lq6])
                                refine wu (i := 24) rfl ?_
                                (try simp only [Act.put, lq1, lq2, lq3, lq4, lq5, lq6])
                                refine wu (i := 25) rfl ?_
                                (try simp only [Act.put, lq1, lq2, lq3, lq4, lq5, lq6])
                                refine wu (i := 26) rfl ?_
                                (try simp only [Act.put, lq1, lq2, lq3, lq4, lq5, lq6])
                                refine wu (i := 27) rfl ?_
                                (try simp only [Act.put, lq1, lq2, lq3, lq4, lq5, lq6])
                                refine wu (i := 28) rfl ?_
                                (try simp only [Act.put, lq1, lq2, lq3, lq4, lq5, lq6])
                                refine wu (i := 29) rfl ?_
                                (try simp only [Act.put, lq1, lq2, lq3, lq4, lq5, lq6])
                                refine wu (i := 30) rfl ?_
                                (try simp only [Act.put, lq1, lq2, lq3, lq4, lq5, lq6])
                                refine wt (i := 31) (v := ?ve7q31x81) rfl ?he7q31x81 ?re7q31x81
                                case he7q31x81 => (intro w hSw; (try dsimp only at hSw); obtain ⟨⟨⟨x1, x2⟩, ⟨x3, x4⟩, ⟨x5, x6⟩, x7, x8⟩, x9, x10⟩ := hSw; go_simp; try with_reducible rfl)
                                (try simp only [Act.put, lq1, lq2, lq3, lq4, lq5, lq6])
                                refine wt (i := 32) (v := ?ve7q32x84) rfl ?he7q32x84 ?re7q32x84
                                case he7q32x84 => (intro w hSw; (try dsimp only at hSw); obtain ⟨⟨⟨x1, x2⟩, ⟨x3, x4⟩, ⟨x5, x6⟩, x7, x8⟩, x9, x10⟩ := hSw; go_simp; try with_reducible rfl)
                                (try simp only [Act.put, lq1, lq2, lq3, lq4, lq5, lq6])
                                refine wpAnyH_done (by kernel_rfl) ?_ _
                                go_wp2_with fail
                                go_meet
                                exact ⟨by rw [hD.out], hidb ⟨AZ.out.drew, GE.out.drew⟩⟩
                          case rest =>
                            obtain ⟨rfl, E18⟩ := hcut
                            clear AZ GE
                            have AZ := hidb E18.out.1
                            have GE := hidb E18.out.2
                            clear E18
                            rcases H12.out with h1m | h2m
                            · have hm : ((many : Int) == 2) = false := beq_eq_false_iff_ne.2 (by omega)
                              have hm2 : ((many : Int) = 2) = False := eq_false (by omega)
                              have H1m := hidb h1m
                              clear h1m
                              by_cases hE : (x = p ∨ x = q) ∧ (x = r ∨ x = s)
                              · rw [decide_eq_true hE]
                                have HEE := hidb hE
                                clear hE
                                go_upto_region 21 with fail
                                clear hm hm2
                                go_cut [12] from 126 to 143 (fun s12 wx => s12 = .bool (decide ((j = i ∧ n + 1 = k) ∧ x = p)) ∧ Hid (At wx Z [.int .i64 x.1, .int .i64 x.2] ∧ Gr w wx))
                                case first =>
                                 as_aux_lemma =>
                                  by_cases c1 : j = i
                                  · have hq1 : ((j : Int) == (i : Int)) = true := beq_iff_eq.2 (by omega)
                                    have hq2 : ((j : Int) = (i : Int)) = True := eq_true (by omega)
                                    by_cases c2 : n + 1 = k
                                    · have hk1 : ((nI : Int) == (k : Int)) = true := beq_iff_eq.2 (by have := HnI.out; omega)
                                      have hk2 : ((nI : Int) = (k : Int)) = True := eq_true (by have := HnI.out; omega)
                                      by_cases c3 : x = p
                                      · rw [decide_eq_true c3] at g1
                                        have hD := hidb (show decide ((j = i ∧ n + 1 = k) ∧ x = p) = true from decide_eq_true ⟨⟨c1, c2⟩, c3⟩)
                                        clear c1 c2 c3
                                        refine wp_region_held_drew (S := (fun w' => C8 w' bA u1 u2 bB v1 v2 p q r s ∧ (w'.cell? ⟨Z, 0, none⟩ = some (.int .i64 x.1) ∧ w'.cell? ⟨Z, 1, none⟩ = some (.int .i64 x.2)))) (by kernel_rfl) ?_ (fun hHeld => ?_)
                                        · (try dsimp only); exact ⟨HC8.out _ GE.out.drew, AZ.out.drew.c2⟩
                                        skip
                                        refine wt (i := 0) (v := ?vf8q0x3) rfl ?hf8q0x3 ?rf8q0x3
                                        case hf8q0x3 => (intro w hSw; (try dsimp only at hSw); obtain ⟨⟨⟨x1, x2⟩, ⟨x3, x4⟩, ⟨x5, x6⟩, x7, x8⟩, x9, x10⟩ := hSw; go_simp; try with_reducible rfl)
                                        (try simp only [Act.put, lq1, lq2, lq4, lq5, lq6])
                                        refine wt (i := 1) (v := ?vf8q1x6) rfl ?hf8q1x6 ?rf8q1x6
                                        case hf8q1x6 => (intro w hSw; (try dsimp only at hSw); obtain ⟨⟨⟨x1, x2⟩, ⟨x3, x4⟩, ⟨x5, x6⟩, x7, x8⟩, x9, x10⟩ := hSw; go_simp; try with_reducible rfl)
                                        (try simp only [Act.put, lq1, lq2, lq3, lq4, lq5, lq6])
                                        refine wt (i := 2) (v := ?vf8q2x9) rfl ?hf8q2x9 ?rf8q2x9
                                        case hf8q2x9 => (intro w hSw; (try dsimp only at hSw); obtain ⟨⟨⟨x1, x2⟩, ⟨x3, x4⟩, ⟨x5, x6⟩, x7, x8⟩, x9, x10⟩ := hSw; go_simp; try with_reducible rfl)
                                        (try simp only [Act.put, lq1, lq2, lq3, lq4, lq5, lq6])
                                        refine wt (i := 3) (v := ?vf8q3x12) rfl ?hf8q3x12 ?rf8q3x12
                                        case hf8q3x12 => (intro w hSw; (try dsimp only at hSw); obtain ⟨⟨⟨x1, x2⟩, ⟨x3, x4⟩, ⟨x5, x6⟩, x7, x8⟩, x9, x10⟩ := hSw; go_simp; try with_reducible rfl)
                                        (try simp only [Act.put, lq1, lq2, lq3, lq4, lq5, lq6])
                                        refine wt (i := 4) (v := ?vf8q4x15) rfl ?hf8q4x15 ?rf8q4x15
                                        case hf8q4x15 => (intro w hSw; (try dsimp only at hSw); obtain ⟨⟨⟨x1, x2⟩, ⟨x3, x4⟩, ⟨x5, x6⟩, x7, x8⟩, x9, x10⟩ := hSw; go_simp; try with_reducible rfl)
                                        (try simp only [Act.put, lq1, lq2, lq3, lq4, lq5, lq6])
                                        refine wt (i := 5) (v := ?vf8q5x18) rfl ?hf8q5x18 ?rf8q5x18
                                        case hf8q5x18 => (intro w hSw; (try dsimp only at hSw); obtain ⟨⟨⟨x1, x2⟩, ⟨x3, x4⟩, ⟨x5, x6⟩, x7, x8⟩, x9, x10⟩ := hSw; go_simp; try with_reducible rfl)
                                        (try simp only [Act.put, lq1, lq2, lq3, lq4, lq5, lq6])
                                        refine wt (i := 6) (v := ?vf8q6x21) rfl ?hf8q6x21 ?rf8q6x21
                                        case hf8q6x21 => (intro w hSw; (try dsimp only at hSw); obtain ⟨⟨⟨x1, x2⟩, ⟨x3, x4⟩, ⟨x5, x6⟩, x7, x8⟩, x9, x10⟩ := hSw; go_simp; try with_reducible rfl)
                                        (try simp only [Act.put, lq1, lq2, lq3, lq4, lq5, lq6])
                                        refine wt (i := 7) (v := ?vf8q7x24) rfl ?hf8q7x24 ?rf8q7x24
                                        case hf8q7x24 => (intro w hSw; (try dsimp only at hSw); obtain ⟨⟨⟨x1, x2⟩, ⟨x3, x4⟩, ⟨x5, x6⟩, x7, x8⟩, x9, x10⟩ := hSw; go_simp; try with_reducible rfl)
                                        (try simp only [Act.put, lq1, lq2, lq3, lq4, lq5, lq6])
                                        refine wt (i := 8) (v := ?vf8q8x27) rfl ?hf8q8x27 ?rf8q8x27
                                        case hf8q8x27 => (intro w hSw; (try dsimp only at hSw); obtain ⟨⟨⟨x1, x2⟩, ⟨x3, x4⟩, ⟨x5, x6⟩, x7, x8⟩, x9, x10⟩ := hSw; go_simp; try with_reducible rfl)
                                        (try simp only [Act.put, lq1, lq2, lq3, lq4, lq5, lq6])
                                        refine wt (i := 9) (v := ?vf8q9x30) rfl ?hf8q9x30 ?rf8q9x30
                                        case hf8q9x30 => (intro w hSw; (try dsimp only at hSw); obtain ⟨⟨⟨x1, x2⟩, ⟨x3, x4⟩, ⟨x5, x6⟩, x7, x8⟩, x9, x10⟩ := hSw; go_simp; try with_reducible rfl)
                                        (try simp only [Act.put, lq1, lq2, lq3, lq4, lq5, lq6])
                                        refine wt (i := 10) (v := ?vf8q10x33) rfl ?hf8q10x33 ?rf8q10x33
                                        case hf8q10x33 => (intro w hSw; (try dsimp only at hSw); obtain ⟨⟨⟨x1, x2⟩, ⟨x3, x4⟩, ⟨x5, x6⟩, x7, x8⟩, x9, x10⟩ := hSw; go_simp; try with_reducible rfl)
                                        (try simp only [Act.put, lq1, lq2, lq3, lq4, lq5, lq6])
                                        refine wt (i := 11) (v := ?vf8q11x36) rfl ?hf8q11x36 ?rf8q11x36
                                        case hf8q11x36 => (intro w hSw; (try dsimp only at hSw); obtain ⟨⟨⟨x1, x2⟩, ⟨x3, x4⟩, ⟨x5, x6⟩, x7, x8⟩, x9, x10⟩ := hSw; go_simp; try with_reducible rfl)
                                        (try simp only [Act.put, lq1, lq2, lq3, lq4, lq5, lq6])
                                        refine wt (i := 12) (v := ?vf8q12x39) rfl ?hf8q12x39 ?rf8q12x39
                                        case hf8q12x39 => (intro w hSw; (try dsimp only at hSw); obtain ⟨⟨⟨x1, x2⟩, ⟨x3, x4⟩, ⟨x5, x6⟩, x7, x8⟩, x9, x10⟩ := hSw; go_simp; try with_reducible rfl)
                                        (try simp only [Act.put, lq1, lq2, lq3, lq4, lq5, lq6])
                                        refine wt (i := 13) (v := ?vf8q13x42) rfl ?hf8q13x42 ?rf8q13x42
                                        case hf8q13x42 => (intro w hSw; (try dsimp only at hSw); obtain ⟨⟨⟨x1, x2⟩, ⟨x3, x4⟩, ⟨x5, x6⟩, x7, x8⟩, x9, x10⟩ := hSw; go_simp; try with_reducible rfl)
                                        (try simp only [Act.put, lq1, lq2, lq3, lq4, lq5, lq6])
                                        refine wt (i := 14) (v := ?vf8q14x45) rfl ?hf8q14x45 ?rf8q14x45
                                        case hf8q14x45 => (intro w hSw; (try dsimp only at hSw); obtain ⟨⟨⟨x1, x2⟩, ⟨x3, x4⟩, ⟨x5, x6⟩, x7, x8⟩, x9, x10⟩ := hSw; go_simp; try with_reducible rfl)
                                        (try simp only [Act.put, lq1, lq2, lq3, lq4, lq5, lq6])
                                        refine wt (i := 15) (v := ?vf8q15x48) rfl ?hf8q15x48 ?rf8q15x48
                                        case hf8q15x48 => (intro w hSw; (try dsimp only at hSw); obtain ⟨⟨⟨x1, x2⟩, ⟨x3, x4⟩, ⟨x5, x6⟩, x7, x8⟩, x9, x10⟩ := hSw; go_simp; try with_reducible rfl)
                                        (try simp only [Act.put, lq1, lq2, lq3, lq4, lq5, lq6])
                                        refine wt (i := 16) (v := ?vf8q16x51) rfl ?hf8q16x51 ?rf8q16x51
                                        case hf8q16x51 => (intro w hSw; (try dsimp only at hSw); obtain ⟨⟨⟨x1, x2⟩, ⟨x3, x4⟩, ⟨x5, x6⟩, x7, x8⟩, x9, x10⟩ := hSw; go_simp; try with_reducible rfl)
                                        (try simp only [Act.put, lq1, lq2, lq3, lq4, lq5, lq6])
                                        refine wt (i := 17) (v := ?vf8q17x54) rfl ?hf8q17x54 ?rf8q17x54
                                        case hf8q17x54 => (intro w hSw; (try dsimp only at hSw); obtain ⟨⟨⟨x1, x2⟩, ⟨x3, x4⟩, ⟨x5, x6⟩, x7, x8⟩, x9, x10⟩ := hSw; go_simp; try with_reducible rfl)
                                        (try simp only [Act.put, lq1, lq2, lq3, lq4, lq5, lq6])
                                        refine wpAnyH_done (by kernel_rfl) ?_ _
                                        go_wp2_with fail
                                        go_meet
                                        exact ⟨by rw [hD.out], hidb ⟨AZ.out.drew, GE.out.drew⟩⟩
                                      · rw [decide_eq_false c3] at g1
                                        have hD := hidb (show decide ((j = i ∧ n + 1 = k) ∧ x = p) = false from decide_eq_false (fun hh => c3 hh.2))
                                        clear c1 c2 c3
                                        refine wp_region_held_drew (S := (fun w' => C8 w' bA u1 u2 bB v1 v2 p q r s ∧ (w'.cell? ⟨Z, 0, none⟩ = some (.int .i64 x.1) ∧ w'.cell? ⟨Z, 1, none⟩ = some (.int .i64 x.2)))) (by kernel_rfl) ?_ (fun hHeld => ?_)
                                        · (try dsimp only); exact ⟨HC8.out _ GE.out.drew, AZ.out.drew.c2⟩
                                        skip
                                        refine wt (i := 0) (v := ?vf9q0x3) rfl ?hf9q0x3 ?rf9q0x3
                                        case hf9q0x3 => (intro w hSw; (try dsimp only at hSw); obtain ⟨⟨⟨x1, x2⟩, ⟨x3, x4⟩, ⟨x5, x6⟩, x7, x8⟩, x9, x10⟩ := hSw; go_simp; try with_reducible rfl)
                                        (try simp only [Act.put, lq1, lq2, lq4, lq5, lq6])
                                        refine wt (i := 1) (v := ?vf9q1x6) rfl ?hf9q1x6 ?rf9q1x6
                                        case hf9q1x6 => (intro w hSw; (try dsimp only at hSw); obtain ⟨⟨⟨x1, x2⟩, ⟨x3, x4⟩, ⟨x5, x6⟩, x7, x8⟩, x9, x10⟩ := hSw; go_simp; try with_reducible rfl)
                                        (try simp only [Act.put, lq1, lq2, lq3, lq4, lq5, lq6])
                                        refine wt (i := 2) (v := ?vf9q2x9) rfl ?hf9q2x9 ?rf9q2x9
                                        case hf9q2x9 => (intro w hSw; (try dsimp only at hSw); obtain ⟨⟨⟨x1, x2⟩, ⟨x3, x4⟩, ⟨x5, x6⟩, x7, x8⟩, x9, x10⟩ := hSw; go_simp; try with_reducible rfl)
                                        (try simp only [Act.put, lq1, lq2, lq3, lq4, lq5, lq6])
                                        refine wt (i := 3) (v := ?vf9q3x12) rfl ?hf9q3x12 ?rf9q3x12
                                        case hf9q3x12 => (intro w hSw; (try dsimp only at hSw); obtain ⟨⟨⟨x1, x2⟩, ⟨x3, x4⟩, ⟨x5, x6⟩, x7, x8⟩, x9, x10⟩ := hSw; go_simp; try with_reducible rfl)
                                        (try simp only [Act.put, lq1, lq2, lq3, lq4, lq5, lq6])
                                        refine wt (i := 4) (v := ?vf9q4x15) rfl ?hf9q4x15 ?rf9q4x15
                                        case hf9q4x15 => (intro w hSw; (try dsimp only at hSw); obtain ⟨⟨⟨x1, x2⟩, ⟨x3, x4⟩, ⟨x5, x6⟩, x7, x8⟩, x9, x10⟩ := hSw; go_simp; try with_reducible rfl)
                                        (try simp only [Act.put, lq1, lq2, lq3, lq4, lq5, lq6])
                                        refine wt (i := 5) (v := ?vf9q5x18) rfl ?hf9q5x18 ?rf9q5x18
                                        case hf9q5x18 => (intro w hSw; (try dsimp only at hSw); obtain ⟨⟨⟨x1, x2⟩, ⟨x3, x4⟩, ⟨x5, x6⟩, x7, x8⟩, x9, x10⟩ := hSw; go_simp; try with_reducible rfl)
                                        (try simp only [Act.put, lq1, lq2, lq3, lq4, lq5, lq6])
                                        refine wt (i := 6) (v := ?vf9q6x21) rfl ?hf9q6x21 ?rf9q6x21
                                        case hf9q6x21 => (intro w hSw; (try dsimp only at hSw); obtain ⟨⟨⟨x1, x2⟩, ⟨x3, x4⟩, ⟨x5, x6⟩, x7, x8⟩, x9, x10⟩ := hSw; go_simp; try with_reducible rfl)
                                        (try simp only [Act.put, lq1, lq2, lq3, lq4, lq5, lq6])
                                        refine wt (i := 7) (v := ?vf9q7x24) rfl ?hf9q7x24 ?rf9q7x24
                                        case hf9q7x24 => (intro w hSw; (try dsimp only at hSw); obtain ⟨⟨⟨x1, x2⟩, ⟨x3, x4⟩, ⟨x5, x6⟩, x7, x8⟩, x9, x10⟩ := hSw; go_simp; try with_reducible rfl)
                                        (try simp only [Act.put, lq1, lq2, lq3, lq4, lq5, lq6])
                                        refine wt (i := 8) (v := ?vf9q8x27) rfl ?hf9q8x27 ?rf9q8x27
                                        case hf9q8x27 => (intro w hSw; (try dsimp only at hSw); obtain ⟨⟨⟨x1, x2⟩, ⟨x3, x4⟩, ⟨x5, x6⟩, x7, x8⟩, x9, x10⟩ := hSw; go_simp; try with_reducible rfl)
                                        (try simp only [Act.put, lq1, lq2, lq3, lq4, lq5, lq6])
                                        refine wt (i := 9) (v := ?vf9q9x30) rfl ?hf9q9x30 ?rf9q9x30
                                        case hf9q9x30 => (intro w hSw; (try dsimp only at hSw); obtain ⟨⟨⟨x1, x2⟩, ⟨x3, x4⟩, ⟨x5, x6⟩, x7, x8⟩, x9, x10⟩ := hSw; go_simp; try with_reducible rfl)
                                        (try simp only [Act.put, lq1, lq2, lq3, lq4, lq5, lq6])
                                        refine wt (i := 10) (v := ?vf9q10x33) rfl ?hf9q10x33 ?rf9q10x33
                                        case hf9q10x33 => (intro w hSw; (try dsimp only at hSw); obtain ⟨⟨⟨x1, x2⟩, ⟨x3, x4⟩, ⟨x5, x6⟩, x7, x8⟩, x9, x10⟩ := hSw; go_simp; try with_reducible rfl)
                                        (try simp only [Act.put, lq1, lq2, lq3, lq4, lq5, lq6])
                                        refine wt (i := 11) (v := ?vf9q11x36) rfl ?hf9q11x36 ?rf9q11x36
                                        case hf9q11x36 => (intro w hSw; (try dsimp only at hSw); obtain ⟨⟨⟨x1, x2⟩, ⟨x3, x4⟩, ⟨x5, x6⟩, x7, x8⟩, x9, x10⟩ := hSw; go_simp; try with_reducible rfl)
                                        (try simp only [Act.put, lq1, lq2, lq3, lq4, lq5, lq6])
                                        refine wt (i := 12) (v := ?vf9q12x39) rfl ?hf9q12x39 ?rf9q12x39
                                        case hf9q12x39 => (intro w hSw; (try dsimp only at hSw); obtain ⟨⟨⟨x1, x2⟩, ⟨x3, x4⟩, ⟨x5, x6⟩, x7, x8⟩, x9, x10⟩ := hSw; go_simp; try with_reducible rfl)
                                        (try simp only [Act.put, lq1, lq2, lq3, lq4, lq5, lq6])
                                        refine wt (i := 13) (v := ?vf9q13x42) rfl ?hf9q13x42 ?rf9q13x42
                                        case hf9q13x42 => (intro w hSw; (try dsimp only at hSw); obtain ⟨⟨⟨x1, x2⟩, ⟨x3, x4⟩, ⟨x5, x6⟩, x7, x8⟩, x9, x10⟩ := hSw; go_simp; try with_reducible rfl)
                                        (try simp only [Act.put, lq1, lq2, lq3, lq4, lq5, lq6])
                                        refine wt (i := 14) (v := ?vf9q14x45) rfl ?hf9q14x45 ?rf9q14x45
                                        case hf9q14x45 => (intro w hSw; (try dsimp only at hSw); obtain ⟨⟨⟨x1, x2⟩, ⟨x3, x4⟩, ⟨x5, x6⟩, x7, x8⟩, x9, x10⟩ := hSw; go_simp; try with_reducible rfl)
                                        (try simp only [Act.put, lq1, lq2, lq3, lq4, lq5, lq6])
                                        refine wt (i := 15) (v := ?vf9q15x48) rfl ?hf9q15x48 ?rf9q15x48
                                        case hf9q15x48 => (intro w hSw; (try dsimp only at hSw); obtain ⟨⟨⟨x1, x2⟩, ⟨x3, x4⟩, ⟨x5, x6⟩, x7, x8⟩, x9, x10⟩ := hSw; go_simp; try with_reducible rfl)
                                        (try simp only [Act.put, lq1, lq2, lq3, lq4, lq5, lq6])
                                        refine wt (i := 16) (v := ?vf9q16x51) rfl ?hf9q16x51 ?rf9q16x51
                                        case hf9q16x51 => (intro w hSw; (try dsimp only at hSw); obtain ⟨⟨⟨x1, x2⟩, ⟨x3, x4⟩, ⟨x5, x6⟩, x7, x8⟩, x9, x10⟩ := hSw; go_simp; try with_reducible rfl)
                                        (try simp only [Act.put, lq1, lq2, lq3, lq4, lq5, lq6])
                                        refine wt (i := 17) (v := ?vf9q17x54) rfl ?hf9q17x54 ?rf9q17x54
                                        case hf9q17x54 => (intro w hSw; (try dsimp only at hSw); obtain ⟨⟨⟨x1, x2⟩, ⟨x3, x4⟩, ⟨x5, x6⟩, x7, x8⟩, x9, x10⟩ := hSw; go_simp; try with_reducible rfl)
                                        (try simp only [Act.put, lq1, lq2, lq3, lq4, lq5, lq6])
                                        refine wpAnyH_done (by kernel_rfl) ?_ _
                                        go_wp2_with fail
                                        go_meet
                                        exact ⟨by rw [hD.out], hidb ⟨AZ.out.drew, GE.out.drew⟩⟩
                                    · have hk1 : ((nI : Int) == (k : Int)) = false := beq_eq_false_iff_ne.2 (by have := HnI.out; omega)
                                      have hk2 : ((nI : Int) = (k : Int)) = False := eq_false (by have := HnI.out; omega)
                                      have hD := hidb (show decide ((j = i ∧ n + 1 = k) ∧ x = p) = false from decide_eq_false (fun hh => c2 hh.1.2))
                                      clear c1 c2
                                      refine wp_region_held_drew (S := (fun w' => C8 w' bA u1 u2 bB v1 v2 p q r s ∧ (w'.cell? ⟨Z, 0, none⟩ = some (.int .i64 x.1) ∧ w'.cell? ⟨Z, 1, none⟩ = some (.int .i64 x.2)))) (by kernel_rfl) ?_ (fun hHeld => ?_)
                                      · (try dsimp only); exact ⟨HC8.out _ GE.out.drew, AZ.out.drew.c2⟩
                                      skip
                                      refine wt (i := 0) (v := ?vf10q0x3) rfl ?hf10q0x3 ?rf10q0x3
                                      case hf10q0x3 => (intro w hSw; (try dsimp only at hSw); obtain ⟨⟨⟨x1, x2⟩, ⟨x3, x4⟩, ⟨x5, x6⟩, x7, x8⟩, x9, x10⟩ := hSw; go_simp; try with_reducible rfl)
                                      (try simp only [Act.put, lq1, lq2, lq4, lq5, lq6])
                                      refine wt (i := 1) (v := ?vf10q1x6) rfl ?hf10q1x6 ?rf10q1x6
                                      case hf10q1x6 => (intro w hSw; (try dsimp only at hSw); obtain ⟨⟨⟨x1, x2⟩, ⟨x3, x4⟩, ⟨x5, x6⟩, x7, x8⟩, x9, x10⟩ := hSw; go_simp; try with_reducible rfl)
                                      (try simp only [Act.put, lq1, lq2, lq3, lq4, lq5, lq6])
                                      refine wt (i := 2) (v := ?vf10q2x9) rfl ?hf10q2x9 ?rf10q2x9
                                      case hf10q2x9 => (intro w hSw; (try dsimp only at hSw); obtain ⟨⟨⟨x1, x2⟩, ⟨x3, x4⟩, ⟨x5, x6⟩, x7, x8⟩, x9, x10⟩ := hSw; go_simp; try with_reducible rfl)
                                      (try simp only [Act.put, lq1, lq2, lq3, lq4, lq5, lq6])
                                      refine wt (i := 3) (v := ?vf10q3x12) rfl ?hf10q3x12 ?rf10q3x12
                                      case hf10q3x12 => (intro w hSw; (try dsimp only at hSw); obtain ⟨⟨⟨x1, x2⟩, ⟨x3, x4⟩, ⟨x5, x6⟩, x7, x8⟩, x9, x10⟩ := hSw; go_simp; try with_reducible rfl)
                                      (try simp only [Act.put, lq1, lq2, lq3, lq4, lq5, lq6])
                                      refine wt (i := 4) (v := ?vf10q4x15) rfl ?hf10q4x15 ?rf10q4x15
                                      case hf10q4x15 => (intro w hSw; (try dsimp only at hSw); obtain ⟨⟨⟨x1, x2⟩, ⟨x3, x4⟩, ⟨x5, x6⟩, x7, x8⟩, x9, x10⟩ := hSw; go_simp; try with_reducible rfl)
                                      (try simp only [Act.put, lq1, lq2, lq3, lq4, lq5, lq6])
                                      refine wt (i := 5) (v := ?vf10q5x18) rfl ?hf10q5x18 ?rf10q5x18
                                      case hf10q5x18 => (intro w hSw; (try dsimp only at hSw); obtain ⟨⟨⟨x1, x2⟩, ⟨x3, x4⟩, ⟨x5, x6⟩, x7, x8⟩, x9, x10⟩ := hSw; go_simp; try with_reducible rfl)
                                      (try simp only [Act.put, lq1, lq2, lq3, lq4, lq5, lq6])
                                      refine wt (i := 6) (v := ?vf10q6x21) rfl ?hf10q6x21 ?rf10q6x21
                                      case hf10q6x21 => (intro w hSw; (try dsimp only at hSw); obtain ⟨⟨⟨x1, x2⟩, ⟨x3, x4⟩, ⟨x5, x6⟩, x7, x8⟩, x9, x10⟩ := hSw; go_simp; try with_reducible rfl)
                                      (try simp only [Act.put, lq1, lq2, lq3, lq4, lq5, lq6])
                                      refine wt (i := 7) (v := ?vf10q7x24) rfl ?hf10q7x24 ?rf10q7x24
                                      case hf10q7x24 => (intro w hSw; (try dsimp only at hSw); obtain ⟨⟨⟨x1, x2⟩, ⟨x3, x4⟩, ⟨x5, x6⟩, x7, x8⟩, x9, x10⟩ := hSw; go_simp; try with_reducible rfl)
                                      (try simp only [Act.put, lq1, lq2, lq3, lq4, lq5, lq6])
                                      refine wt (i := 8) (v := ?vf10q8x27) rfl ?hf10q8x27 ?rf10q8x27
                                      case hf10q8x27 => (intro w hSw; (try dsimp only at hSw); obtain ⟨⟨⟨x1, x2⟩, ⟨x3, x4⟩, ⟨x5, x6⟩, x7, x8⟩, x9, x10⟩ := hSw; go_simp; try with_reducible rfl)
                                      (try simp only [Act.put, lq1, lq2, lq3, lq4, lq5, lq6])
                                      refine wt (i := 9) (v := ?vf10q9x30) rfl ?hf10q9x30 ?rf10q9x30
                                      case hf10q9x30 => (intro w hSw; (try dsimp only at hSw); obtain ⟨⟨⟨x1, x2⟩, ⟨x3, x4⟩, ⟨x5, x6⟩, x7, x8⟩, x9, x10⟩ := hSw; go_simp; try with_reducible rfl)
                                      (try simp only [Act.put, lq1, lq2, lq3, lq4, lq5, lq6])
                                      refine wu (i := 10) rfl ?_
                                      (try simp only [Act.put, lq1, lq2, lq3, lq4, lq5, lq6])
                                      refine wu (i := 11) rfl ?_
                                      (try simp only [Act.put, lq1, lq2, lq3, lq4, lq5, lq6])
                                      refine wu (i := 12) rfl ?_
                                      (try simp only [Act.put, lq1, lq2, lq3, lq4, lq5, lq6])
                                      refine wu (i := 13) rfl ?_
                                      (try simp only [Act.put, lq1, lq2, lq3, lq4, lq5, lq6])
                                      refine wu (i := 14) rfl ?_
                                      (try simp only [Act.put, lq1, lq2, lq3, lq4, lq5, lq6])
                                      refine wu (i := 15) rfl ?_
                                      (try simp only [Act.put, lq1, lq2, lq3, lq4, lq5, lq6])
                                      refine wt (i := 16) (v := ?vf10q16x45) rfl ?hf10q16x45 ?rf10q16x45
                                      case hf10q16x45 => (intro w hSw; (try dsimp only at hSw); obtain ⟨⟨⟨x1, x2⟩, ⟨x3, x4⟩, ⟨x5, x6⟩, x7, x8⟩, x9, x10⟩ := hSw; go_simp; try with_reducible rfl)
                                      (try simp only [Act.put, lq1, lq2, lq3, lq4, lq5, lq6])
                                      refine wt (i := 17) (v := ?vf10q17x48) rfl ?hf10q17x48 ?rf10q17x48
                                      case hf10q17x48 => (intro w hSw; (try dsimp only at hSw); obtain ⟨⟨⟨x1, x2⟩, ⟨x3, x4⟩, ⟨x5, x6⟩, x7, x8⟩, x9, x10⟩ := hSw; go_simp; try with_reducible rfl)
                                      (try simp only [Act.put, lq1, lq2, lq3, lq4, lq5, lq6])
                                      refine wpAnyH_done (by kernel_rfl) ?_ _
                                      go_wp2_with fail
                                      go_meet
                                      exact ⟨by rw [hD.out], hidb ⟨AZ.out.drew, GE.out.drew⟩⟩
                                  · have hq1 : ((j : Int) == (i : Int)) = false := beq_eq_false_iff_ne.2 (by omega)
                                    have hq2 : ((j : Int) = (i : Int)) = False := eq_false (by omega)
                                    have hD := hidb (show decide ((j = i ∧ n + 1 = k) ∧ x = p) = false from decide_eq_false (fun hh => c1 hh.1.1))
                                    clear c1
                                    refine wp_region_held_drew (S := (fun w' => C8 w' bA u1 u2 bB v1 v2 p q r s ∧ (w'.cell? ⟨Z, 0, none⟩ = some (.int .i64 x.1) ∧ w'.cell? ⟨Z, 1, none⟩ = some (.int .i64 x.2)))) (by kernel_rfl) ?_ (fun hHeld => ?_)
                                    · (try dsimp only); exact ⟨HC8.out _ GE.out.drew, AZ.out.drew.c2⟩
                                    skip
                                    refine wt (i := 0) (v := ?vf11q0x3) rfl ?hf11q0x3 ?rf11q0x3
                                    case hf11q0x3 => (intro w hSw; (try dsimp only at hSw); obtain ⟨⟨⟨x1, x2⟩, ⟨x3, x4⟩, ⟨x5, x6⟩, x7, x8⟩, x9, x10⟩ := hSw; go_simp; try with_reducible rfl)
                                    (try simp only [Act.put, lq1, lq2, lq4, lq5, lq6])
                                    refine wt (i := 1) (v := ?vf11q1x6) rfl ?hf11q1x6 ?rf11q1x6
                                    case hf11q1x6 => (intro w hSw; (try dsimp only at hSw); obtain ⟨⟨⟨x1, x2⟩, ⟨x3, x4⟩, ⟨x5, x6⟩, x7, x8⟩, x9, x10⟩ := hSw; go_simp; try with_reducible rfl)
                                    (try simp only [Act.put, lq1, lq2, lq3, lq4, lq5, lq6])
                                    refine wt (i := 2) (v := ?vf11q2x9) rfl ?hf11q2x9 ?rf11q2x9
                                    case hf11q2x9 => (intro w hSw; (try dsimp only at hSw); obtain ⟨⟨⟨x1, x2⟩, ⟨x3, x4⟩, ⟨x5, x6⟩, x7, x8⟩, x9, x10⟩ := hSw; go_simp; try with_reducible rfl)
                                    (try simp only [Act.put, lq1, lq2, lq3, lq4, lq5, lq6])
                                    refine wt (i := 3) (v := ?vf11q3x12) rfl ?hf11q3x12 ?rf11q3x12
                                    case hf11q3x12 => (intro w hSw; (try dsimp only at hSw); obtain ⟨⟨⟨x1, x2⟩, ⟨x3, x4⟩, ⟨x5, x6⟩, x7, x8⟩, x9, x10⟩ := hSw; go_simp; try with_reducible rfl)
                                    (try simp only [Act.put, lq1, lq2, lq3, lq4, lq5, lq6])
                                    refine wu (i := 4) rfl ?_
                                    (try simp only [Act.put, lq1, lq2, lq3, lq4, lq5, lq6])
                                    refine wu (i := 5) rfl ?_
                                    (try simp only [Act.put, lq1, lq2, lq3, lq4, lq5, lq6])
                                    refine wu (i := 6) rfl ?_
                                    (try simp only [Act.put, lq1, lq2, lq3, lq4, lq5, lq6])
                                    refine wu (i := 7) rfl ?_
                                    (try simp only [Act.put, lq1, lq2, lq3, lq4, lq5, lq6])
                                    refine wt (i := 8) (v := ?vf11q8x23) rfl ?hf11q8x23 ?rf11q8x23
                                    case hf11q8x23 => (intro w hSw; (try dsimp only at hSw); obtain ⟨⟨⟨x1, x2⟩, ⟨x3, x4⟩, ⟨x5, x6⟩, x7, x8⟩, x9, x10⟩ := hSw; go_simp; try with_reducible rfl)
                                    (try simp only [Act.put, lq1, lq2, lq3, lq4, lq5, lq6])
                                    refine wt (i := 9) (v := ?vf11q9x26) rfl ?hf11q9x26 ?rf11q9x26
                                    case hf11q9x26 => (intro w hSw; (try dsimp only at hSw); obtain ⟨⟨⟨x1, x2⟩, ⟨x3, x4⟩, ⟨x5, x6⟩, x7, x8⟩, x9, x10⟩ := hSw; go_simp; try with_reducible rfl)
                                    (try simp only [Act.put, lq1, lq2, lq3, lq4, lq5, lq6])
                                    refine wu (i := 10) rfl ?_
                                    (try simp only [Act.put, lq1, lq2, lq3, lq4, lq5, lq6])
                                    refine wu (i := 11) rfl ?_
                                    (try simp only [Act.put, lq1, lq2, lq3, lq4, lq5, lq6])
                                    refine wu (i := 12) rfl ?_
                                    (try simp only [Act.put, lq1, lq2, lq3, lq4, lq5, lq6])
                                    refine wu (i := 13) rfl ?_
                                    (try simp only [Act.put, lq1, lq2, lq3, lq4, lq5, lq6])
                                    refine wu (i := 14) rfl ?_
                                    (try simp only [Act.put, lq1, lq2, lq3, lq4, lq5, lq6])
                                    refine wu (i := 15) rfl ?_
                                    (try simp only [Act.put, lq1, lq2, lq3, lq4, lq5, lq6])
                                    refine wt (i := 16) (v := ?vf11q16x41) rfl ?hf11q16x41 ?rf11q16x41
                                    case hf11q16x41 => (intro w hSw; (try dsimp only at hSw); obtain ⟨⟨⟨x1, x2⟩, ⟨x3, x4⟩, ⟨x5, x6⟩, x7, x8⟩, x9, x10⟩ := hSw; go_simp; try with_reducible rfl)
                                    (try simp only [Act.put, lq1, lq2, lq3, lq4, lq5, lq6])
                                    refine wt (i := 17) (v := ?vf11q17x44) rfl ?hf11q17x44 ?rf11q17x44
                                    case hf11q17x44 => (intro w hSw; (try dsimp only at hSw); obtain ⟨⟨⟨x1, x2⟩, ⟨x3, x4⟩, ⟨x5, x6⟩, x7, x8⟩, x9, x10⟩ := hSw; go_simp; try with_reducible rfl)
                                    (try simp only [Act.put, lq1, lq2, lq3, lq4, lq5, lq6])
                                    refine wpAnyH_done (by kernel_rfl) ?_ _
                                    go_wp2_with fail
                                    go_meet
                                    exact ⟨by rw [hD.out], hidb ⟨AZ.out.drew, GE.out.drew⟩⟩
                                case rest =>
                                  obtain ⟨rfl, E21⟩ := hcut
                                  generalize hB12 : decide ((j = i ∧ n + 1 = k) ∧ x = p) = b12 at *
                                  have HB12 := hidb hB12
                                  clear hB12
                                  clear AZ GE
                                  have AZ := hidb E21.out.1
                                  have GE := hidb E21.out.2
                                  clear E21
                                  go_upto_region 22 with fail
                                  go_cut [13] from 143 to 153 (fun s13 wx => s13 = .bool (decide (ndP a k x ∧ ndP bb n x)) ∧ Hid (Gr w wx))
                                  case first =>
                                    obtain ⟨z0, z1⟩ := AZ.out.c2
                                    have C1 := hidb (HnA.out x _ GE.out)
                                    go_wp2_with fail
                                    refine C1.out.mono ?_
                                    rintro e w5 ⟨rfl, hB5⟩
                                    have G5 := hidb (Gr.step GE.out hB5.out)
                                    have A5 := hidb (At.below hB5.out AZ.out)
                                    clear z0 z1 hB5 C1
                                    by_cases n1 : ndP a k x
                                    · rw [decide_eq_true n1]
                                      obtain ⟨z0, z1⟩ := A5.out.c2
                                      have C2 := hidb (HnB.out x _ G5.out)
                                      have N1 := hidb n1
                                      clear n1
                                      go_wp2_with fail
                                      refine C2.out.mono ?_
                                      rintro e w6 ⟨rfl, hB6⟩
                                      have G6 := hidb (Gr.step G5.out hB6.out)
                                      clear z0 z1 hB6 C2
                                      have hD : Hid (decide (ndP a k x ∧ ndP bb n x) = decide (ndP bb n x)) := by show _ = _; rw [decide_eq_decide]; exact ⟨fun h => h.2, fun h => ⟨N1.out, h⟩⟩
                                      go_wp2
                                      go_meet
                                      exact ⟨by rw [hD.out], G6⟩
                                    · rw [decide_eq_false n1]
                                      have hD : Hid (decide (ndP a k x ∧ ndP bb n x) = false) := decide_eq_false (fun h => n1 h.1)
                                      clear n1
                                      go_wp2
                                      go_meet
                                      exact ⟨by rw [hD.out], G5⟩
                                  case rest =>
                                    obtain ⟨rfl, G7⟩ := hcut
                                    clear AZ GE
                                    by_cases hB : (j = i ∧ n + 1 = k) ∧ x = p
                                    · obtain rfl : b12 = true := by rw [← HB12.out]; exact decide_eq_true hB
                                      have HOK := hidb (HSt.out (HPr.out.2 (.inr ⟨H1m.out, HEE.out, .inl hB⟩)))
                                      generalize decide (ndP a k x ∧ ndP bb n x) = nb at *
                                      clear hB
                                      go_wp2
                                      go_roundw
                                      case rel => exact ⟨n + 1, by have := H4.out; omega, by rw [HnI.out], hidb ⟨HOK.out, G7.out⟩⟩
                                      case measure => have := H4.out; have := HnI.out; simp [intOf]; omega
                                    · obtain rfl : b12 = false := by rw [← HB12.out]; exact decide_eq_false hB
                                      by_cases hnn : ndP a k x ∧ ndP bb n x
                                      · rw [decide_eq_true hnn]
                                        have HOK := hidb (HSt.out (HPr.out.2 (.inr ⟨H1m.out, HEE.out, .inr hnn⟩)))
                                        clear hB hnn
                                        go_wp2
                                        go_roundw
                                        case rel => exact ⟨n + 1, by have := H4.out; omega, by rw [HnI.out], hidb ⟨HOK.out, G7.out⟩⟩
                                        case measure => have := H4.out; have := HnI.out; simp [intOf]; omega
                                      · rw [decide_eq_false hnn]
                                        have HZ := hidb (HNo.out (fun hp => by
                                          rcases HPr.out.1 hp with h | ⟨-, -, h | h⟩
                                          · have := H1m.out; omega
                                          · exact hB h
                                          · exact hnn h))
                                        clear hB hnn
                                        go_wp2
                                        go_ret
                                        exact ⟨by rw [HZ.out]; rfl, G7.out⟩
                              · rw [decide_eq_false hE]
                                have HZ := hidb (HNo.out (fun hp => by
                                  rcases HPr.out.1 hp with h | ⟨-, h, -⟩
                                  · have := H1m.out; omega
                                  · exact hE h))
                                clear hE
                                go_wp2
                                go_ret
                                exact ⟨by rw [HZ.out]; rfl, GE.out⟩
                            · have hm : ((many : Int) == 2) = true := beq_iff_eq.2 (by omega)
                              have hm2 : ((many : Int) = 2) = True := eq_true (by omega)
                              have HZ := hidb (HNo.out (fun hp => by
                                rcases HPr.out.1 hp with h | ⟨h, -⟩ <;> omega))
                              clear h2m
                              generalize decide ((x = p ∨ x = q) ∧ (x = r ∨ x = s)) = eb at *
                              go_wp2
                              go_ret
                              exact ⟨by rw [HZ.out]; rfl, GE.out⟩
end Go.Proofs.YtnadgoomkaldkaaDoor
