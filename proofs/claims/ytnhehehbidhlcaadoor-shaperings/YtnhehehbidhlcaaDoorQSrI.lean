/-
  shape.Simple.
-/
import Derived.Test.YtnhehehbidhlcaaDoorQSrH
import Derived.Test.YtnhehehbidhlcaaDoorQSrG
import Derived.Test.YtnhehehbidhlcaaDoorQSrP
namespace Go.Proofs.YtnhehehbidhlcaaDoor
open Go.RowKit Go.Maps
attribute [local go_sem ↓] Go.wp_at_zero Go.wp_at_succ

set_option maxRecDepth 4000 in
set_option maxHeartbeats 4000000 in
theorem simple_bad (g : Nat → Addr) {ad : Option Addr} {b o cap : Nat} {l : List Sp} (ll : l.length ≤ 5000) (hc : ¬ rcd l = 0) (w : World) (h : SSl w ad b o cap l) (hl : Lb w g) : Calls Tryd.prog 8 #[.slice ad l.length cap] w fun e w' => e = .returned (.tuple #[.bool false, errV g (rcd l - 1)]) ∧ Gr w w' := by
  have HR := hidb (ring_any g ll w h hl)
  rw [ev_pos g hc] at HR
  have hn := fun w => run_neq_iface_nil (P := Tryd.prog) w 28 (by kernel_rfl) 97 (.pointer (some (g (rcd l - 1))))
  generalize rcd l - 1 = i at *
  clear hc h hl ll
  generalize l.length = n at *
  go_enter Tryd.func8, Tryd.ntmps8
  go_wp2_with fail
  refine HR.out.mono ?_
  rintro e w2 ⟨rfl, hB⟩
  go_wp2
  go_ret2
  exact ⟨rfl, hB.out⟩
set_option maxRecDepth 4000 in
set_option maxHeartbeats 8000000 in
theorem simple_ok (g : Nat → Addr) {ad : Option Addr} {b o cap : Nat} {l : List Sp} (hc : rcd l = 0) (w : World) (h : SSl w ad b o cap l) (hl : Lb w g) : Calls Tryd.prog 8 #[.slice ad l.length cap] w fun e w' => e = .returned (.tuple #[.bool (decide (smP l)), .nilIface]) ∧ Gr w w' := by
  obtain ⟨l4, hp⟩ := rcd_ok hc
  have l3 := hp.1
  have HR := hidb (ring_any g (by omega) w h hl)
  rw [hc, ev_zero] at HR
  generalize hr : decide (smP l) = res
  have hsi := simple_iff hp
  have HF : Hid (¬ (ddL l).length = l.length → res = false) := fun k => by
    rw [← hr]; exact decide_eq_false (fun hx => k ((ddL_nodup l).2 (hsi.1 hx).1))
  have HT : Hid ((ddL l).length = l.length → (!decide (tgP (eg l))) = res) := fun k => by
    rw [← hr]
    have hn := (ddL_nodup l).1 k
    by_cases c : tgP (eg l)
    · rw [decide_eq_true c]; exact (decide_eq_false (fun hx => (hsi.1 hx).2 c)).symm
    · rw [decide_eq_false c]; exact (decide_eq_true (hsi.2 ⟨hn, c⟩)).symm
  have hok := rg_ok hp
  have HCt := hidb (fun W b' (hA : At W b' [.slice ad l.length cap]) (hW : SSl W ad b o cap l) => counted_any (Ls := [l]) (by
      intro l' hl' p hp'
      rw [List.mem_singleton] at hl'
      subst hl'
      obtain ⟨i, hi, e⟩ := List.getElem_of_mem hp'
      rw [← e, sx_get hi]
      exact hok i hi) (by simp; omega) (by simp) W (LLs.one hA hW))
  have HE := hidb (fun W (hW : Gr w W) => edges_any (by omega) (by omega) W (h.gr hW))
  have HLE := hidb (show (eg l).length ≤ 5000 by rw [eg_len (by omega)]; omega)
  have HOE : Hid (∀ i, i < (eg l).length → okP (px (eg l) i)) := fun i hi => by
    have := eg_ok hok (by omega) _ (List.getElem_mem hi)
    rw [px_get hi] at this
    exact this
  have HS := hidb h
  have HFl : Hid ([l].flatten = l) := by show _ = _; simp
  clear hr hsi hok hc h hl l4 hp l3
  obtain ⟨n, hn⟩ : ∃ n, n = l.length := ⟨_, rfl⟩
  rw [← hn] at HR HF HT HCt HE ⊢
  clear hn
  generalize eg l = E at *
  go_enter Tryd.func8, Tryd.ntmps8
  go_wp2_with fail
  refine HR.out.mono ?_
  rintro e w2 ⟨rfl, hB⟩
  have HG : Hid (Gr w w2) := hB.out
  clear hB HR
  have HA := hidb (At.new1 w2 (.slice ad n cap) 22)
  have HG2 := hidb (HG.out.alloc (.cells #[.slice ad n cap] 22))
  go_wp2_with fail
  refine (HCt.out _ _ HA.out (HS.out.gr HG2.out)).mono ?_
  rintro e w3 ⟨rfl, hcs⟩
  obtain ⟨⟨D, hom, hcd⟩, hGw⟩ := hcs
  rw [HFl.out] at hcd hom
  have hsz := hcd.size
  have HG3 := hidb (Gr.step HG2.out hGw.out)
  generalize (w2.alloc (.cells #[.slice ad n cap] 22)).heap.size = M at *
  clear hGw hcd HA HG2 HCt
  by_cases c : (ddL l).length = n
  · have c' : ((Maps.size D : Nat) : Int) = (n : Int) := by rw [hsz, c]
    have HT2 := HT.out c
    clear c hsz HF HT
    go_wp2_with (at_len; refine wpList_len_own _ rfl _ _ rfl _ _ undMp _ M _ D rfl hom ?_)
    refine (HE.out _ HG3.out).mono ?_
    rintro e w4 ⟨ad1, b1, cap1, rfl, hP, hB⟩
    have HG4 := hidb (Gr.step HG3.out hB.out)
    have HTg := hidb (tangled_any HLE.out HOE.out w4 hP)
    clear hP hB
    generalize decide (tgP E) = bt at *
    subst HT2
    go_wp2_with fail
    refine HTg.out.mono ?_
    rintro e w5 ⟨rfl, hB⟩
    go_wp2
    go_ret2
    exact ⟨rfl, Gr.step HG4.out hB.out⟩
  · have c' : ¬ ((Maps.size D : Nat) : Int) = (n : Int) := by rw [hsz]; omega
    obtain rfl := HF.out c
    clear c hsz HF HT
    go_wp2_with (at_len; refine wpList_len_own _ rfl _ _ rfl _ _ undMp _ M _ D rfl hom ?_)
    go_ret2
    exact ⟨rfl, HG3.out⟩
end Go.Proofs.YtnhehehbidhlcaaDoor
