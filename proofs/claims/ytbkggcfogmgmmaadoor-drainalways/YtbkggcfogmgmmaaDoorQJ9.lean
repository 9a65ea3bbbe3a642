/-
  drain.Gather; what is refused, of Gather and Way.
-/
import Derived.Test.YtbkggcfogmgmmaaDoorQGaD
import Derived.Test.YtbkggcfogmgmmaaDoorQJ11
import Derived.BigQuiet
namespace Go.Proofs.YtbkggcfogmgmmaaDoor
open Go.RowKit
attribute [local go_sem ↓] Go.wp_at_zero Go.wp_at_succ

theorem gaF_gv {m n : Nat} {l r : List Int} (ok : Ok l m n) (hrl : r.length = l.length) (hr : ∀ i, i < l.length → rainI (gl r i)) : ∀ j, j ≤ l.length → ∀ c, c < l.length → gl (gaF m n l r (List.range j)) c = gvN m n l (gl r) j c
  | 0, _, c, _ => rfl
  | j + 1, hj, c, hc => by
    have hlen := ok.len_le
    have ih := gaF_gv ok hrl hr j (by omega)
    have hx := oc_lt m n l ok.m1 ok.len (k := l.length - 1 - j) (by omega)
    have ht := tw_lt m n l ok.m1 ok.len hx
    have hL : (gaF m n l r (List.range j)).length = l.length := (gaF_len m n l r _).trans hrl
    have bd : ∀ c, c < l.length → 0 ≤ gvN m n l (gl r) j c ∧ gvN m n l (gl r) j c ≤ 281474976710656 := fun c hc => by
      have h := gv_bd m n l ok.m1 ok.len (r := gl r) (B := 1048576) (by decide) hr (j := j) (by omega) hc
      have h2 : (l.length : Int) * (1048576 * l.length) ≤ 16384 * (1048576 * 16384) := Int.mul_le_mul (by omega) (by omega) (by omega) (by decide)
      omega
    rw [List.range_succ, gaF_snoc, gv_succ]
    unfold gst
    by_cases h : tw m n l (oc m n l (l.length - 1 - j)) = oc m n l (l.length - 1 - j)
    · rw [if_pos h, if_neg (fun x => x.1 h), ih c hc, Int.add_zero]
    · rw [if_neg h, gl_set (by rw [hL]; exact ht), ih _ ht, ih _ hx]
      by_cases e : c = tw m n l (oc m n l (l.length - 1 - j))
      · rw [if_pos e, if_pos ⟨h, e⟩, ← e]
        have b1 := bd c hc
        have b2 := bd _ hx
        exact wrap_in (by omega) (by omega)
      · rw [if_neg e, if_neg (fun x => e x.2), ih c hc, Int.add_zero]
theorem gaF_gaL {m n : Nat} {l r : List Int} (ok : Ok l m n) (hrl : r.length = l.length) (hr : ∀ i, i < l.length → rainI (gl r i)) : gaF m n l r (List.range l.length) = gaL m n l (gl r) :=
  list_gl ((gaF_len m n l r _).trans hrl) (fun c hc => (gaF_gv ok hrl hr l.length (Nat.le_refl _) c hc).trans (gv_all m n l ok.m1 ok.len _ hc))
theorem rains_gl {r : List Int} (h : rainsB r = true) (i : Nat) (hi : i < r.length) : rainI (gl r i) := by
  rw [← gl_get hi]
  exact of_decide_eq_true h _ (List.getElem_mem hi)
set_option maxRecDepth 4000 in
set_option maxHeartbeats 4000000 in
theorem gather_ok (g : Nat → Addr) {m n Lb Lo Lcap rb ro rcap : Nat} {l r : List Int} (w : World) (hR : Rs w Lb Lo Lcap l) (ok : Ok l m n) (hv : vcode m n l = 0) (hl : Lai w g) (hr : Rs w rb ro rcap r) (hrl : r.length = l.length) (hrr : rainsB r = true) : Calls Tryd.prog 19 #[raV m n (.slice (some ⟨Lb, Lo, none⟩) l.length Lcap), .slice (some ⟨rb, ro, none⟩) l.length rcap] w fun e w' => ∃ OUT cp, e = .returned (.tuple #[.slice (some ⟨OUT, 0, none⟩) l.length cp, .nilIface]) ∧ At w' OUT (ir (gaL m n l (gl r))) ∧ w.heap.size ≤ OUT ∧ Gr w w' := by
  have hlen := ok.len_le
  have HGl := hidb (gaF_gaL ok hrl (fun i hi => rains_gl hrr i (by omega)))
  have PX : Hid (PF w (w.alloc (.cells #[.int .i64 (m : Int), .int .i64 (n : Int), .slice (some ⟨Lb, Lo, none⟩) l.length Lcap] 27)) w.heap.size [.int .i64 (m : Int), .int .i64 (n : Int), .slice (some ⟨Lb, Lo, none⟩) l.length Lcap]) := ⟨At.new3 _ _ _ _ _, (Gr.refl w).alloc _⟩
  have C1 := hidb (valid_lai g m n _ Lb Lo Lcap l _ (hR.below PX.out.gr.out).isl (by omega) (hl.below PX.out.gr.out))
  rw [hv, show evc g 0 = .nilIface from rfl] at C1
  have HRn := hidb (fun W (hG : Gr w W) => rains_any _ rb ro rcap r W (hr.below hG.out).isl (by omega))
  rw [hrr, hrl] at HRn
  have HF := hidb (fun W (hG : Gr w W) => flooded_any W (hR.below hG.out) ok)
  have HGa := hidb (fun (w2 W : World) (hG : Gr w w2) F base LV FL Lv Fl vo vq q (h : FM W w2 base F LV FL l.length (.int .i64 (m : Int)) (.int .i64 (n : Int)) (.slice (some ⟨Lb, Lo, none⟩) l.length Lcap) Lv Fl vo (flo m n l l.length).ord vq q) (hs : Syn m l (flo m n l l.length) Lv Fl q) => gather_any w2 ok h hs (hr.below hG.out) hrl)
  obtain ⟨N, hN⟩ : ∃ N, N = l.length := ⟨_, rfl⟩
  rw [← hN] at PX C1 HRn HF HGa HGl ⊢
  clear hR ok hv hl hr hrl hrr hlen hN
  show Calls Tryd.prog 19 #[.agg #[.int .i64 (m : Int), .int .i64 (n : Int), .slice (some ⟨Lb, Lo, none⟩) N Lcap], .slice (some ⟨rb, ro, none⟩) N rcap] w _
  go_enter Tryd.func19, Tryd.ntmps19
  obtain ⟨q0, q1, q2⟩ := PX.out.a.c3
  go_wp2_with fail
  refine C1.out.mono ?_
  rintro e w1 ⟨rfl, hB⟩
  clear q0 q1 q2
  replace PX := hidb (PX.out.below hB.out)
  clear hB C1
  obtain ⟨q0, q1, q2⟩ := PX.out.a.c3
  go_wp2_with fail
  refine (HRn.out _ PX.out.gr).mono ?_
  rintro e w1b ⟨rfl, rfl⟩
  go_wp2_with fail
  refine (HF.out _ PX.out.gr).mono ?_
  rintro e w2 ⟨F, base, LV, FL, Lv, Fl, vo, vq, q, rfl, hM, hS⟩
  have G2 := hidb (Gr.step PX.out.gr hM.gr.out)
  have HC := hidb (HGa.out w2 _ G2.out F base LV FL Lv Fl vo vq q hM hS)
  clear hM hS q0 q1 q2 HF HGa PX HRn
  go_wp2_with fail
  refine HC.out.mono ?_
  rintro e w3 ⟨OUT, cp, rfl, hA, hO, hB⟩
  rw [HGl.out] at hA
  have HZ := hidb (show At w3 OUT (ir (gaL m n l (gl r))) ∧ w.heap.size ≤ OUT ∧ Gr w w3 from ⟨hA, by have := G2.out.out.size; omega, Gr.step G2.out hB.out⟩)
  clear hA hO hB HC
  go_wp2
  go_ret2
  exact ⟨OUT, cp, rfl, HZ.out⟩
set_option maxRecDepth 4000 in
set_option maxHeartbeats 4000000 in
theorem gather_no (g : Nat → Addr) {W H : Int} {ad : Option Addr} {b o cap : Nat} {l : List Int} (u : Value) (w : World) (h : ISl w ad b o cap l) (ll : l.length ≤ 20000) (hl : Lai w g) (hv : ¬ vcode W H l = 0) : Calls Tryd.prog 19 #[raV W H (.slice ad l.length cap), u] w fun e w' => e = .returned (.tuple #[.slice none 0 0, evc g (vcode W H l)]) ∧ Gr w w' := by
  have PX : Hid (PF w (w.alloc (.cells #[.int .i64 W, .int .i64 H, .slice ad l.length cap] 27)) w.heap.size [.int .i64 W, .int .i64 H, .slice ad l.length cap]) := ⟨At.new3 _ _ _ _ _, (Gr.refl w).alloc _⟩
  have C1 := hidb (valid_lai g W H ad b o cap l _ (h.below PX.out.gr.out) ll (hl.below PX.out.gr.out))
  rw [evc_of hv] at C1 ⊢
  generalize vcode W H l - 1 = ei at *
  clear h ll hl hv
  go_enter Tryd.func19, Tryd.ntmps19
  obtain ⟨q0, q1, q2⟩ := PX.out.a.c3
  go_wp2_with fail
  refine C1.out.mono ?_
  rintro e w1 ⟨rfl, hB⟩
  clear q0 q1 q2
  go_wp2
  go_ret2
  exact ⟨rfl, Gr.step PX.out.gr hB.out⟩
set_option maxRecDepth 4000 in
set_option maxHeartbeats 4000000 in
theorem way_no (g : Nat → Addr) {W H : Int} {ad : Option Addr} {b o cap : Nat} {l : List Int} (u : Value) (w : World) (h : ISl w ad b o cap l) (ll : l.length ≤ 20000) (hl : Lai w g) (hv : ¬ vcode W H l = 0) : Calls Tryd.prog 20 #[raV W H (.slice ad l.length cap), u] w fun e w' => e = .returned (.tuple #[.slice none 0 0, evc g (vcode W H l)]) ∧ Gr w w' := by
  have PX : Hid (PF w (w.alloc (.cells #[.int .i64 W, .int .i64 H, .slice ad l.length cap] 27)) w.heap.size [.int .i64 W, .int .i64 H, .slice ad l.length cap]) := ⟨At.new3 _ _ _ _ _, (Gr.refl w).alloc _⟩
  have C1 := hidb (valid_lai g W H ad b o cap l _ (h.below PX.out.gr.out) ll (hl.below PX.out.gr.out))
  rw [evc_of hv] at C1 ⊢
  generalize vcode W H l - 1 = ei at *
  clear h ll hl hv
  go_enter Tryd.func20, Tryd.ntmps20
  obtain ⟨q0, q1, q2⟩ := PX.out.a.c3
  go_wp2_with fail
  refine C1.out.mono ?_
  rintro e w1 ⟨rfl, hB⟩
  clear q0 q1 q2
  go_wp2
  go_ret2
  exact ⟨rfl, Gr.step PX.out.gr hB.out⟩
set_option maxRecDepth 4000 in
set_option maxHeartbeats 4000000 in
theorem way_out (g : Nat → Addr) {m n Lb Lo Lcap : Nat} {l : List Int} (c : Int) (hc : ¬ (0 ≤ c ∧ c < (l.length : Int))) (w : World) (hR : Rs w Lb Lo Lcap l) (ok : Ok l m n) (hv : vcode m n l = 0) (hl : Lai w g) : Calls Tryd.prog 20 #[raV m n (.slice (some ⟨Lb, Lo, none⟩) l.length Lcap), .int .i64 c] w fun e w' => e = .returned (.tuple #[.slice none 0 0, evc g 4]) ∧ Gr w w' := by
  have hlen := ok.len_le
  have PX : Hid (PF w (w.alloc (.cells #[.int .i64 (m : Int), .int .i64 (n : Int), .slice (some ⟨Lb, Lo, none⟩) l.length Lcap] 27)) w.heap.size [.int .i64 (m : Int), .int .i64 (n : Int), .slice (some ⟨Lb, Lo, none⟩) l.length Lcap]) := ⟨At.new3 _ _ _ _ _, (Gr.refl w).alloc _⟩
  have C1 := hidb (valid_lai g m n _ Lb Lo Lcap l _ (hR.below PX.out.gr.out).isl (by omega) (hl.below PX.out.gr.out))
  rw [hv, show evc g 0 = .nilIface from rfl] at C1
  obtain ⟨n1, hn1, e0⟩ : ∃ z : Int, z = (l.length : Int) - 1 ∧ IntKind.i64.wrap ((l.length : Int) - 1) = z := ⟨_, rfl, wrap_in (by omega) (by omega)⟩
  have HW := hidb (fun W => dwithin_any c 0 n1 W)
  rw [inI_not (show ¬ (0 ≤ c ∧ c ≤ n1) by omega)] at HW
  have HLa := hidb hl
  obtain ⟨N, hN⟩ : ∃ N, N = l.length := ⟨_, rfl⟩
  rw [← hN] at PX C1 e0 ⊢
  rw [show evc g 4 = errV g 3 from rfl]
  clear hR ok hv hl hlen hc hn1 hN
  show Calls Tryd.prog 20 #[.agg #[.int .i64 (m : Int), .int .i64 (n : Int), .slice (some ⟨Lb, Lo, none⟩) N Lcap], .int .i64 c] w _
  go_enter Tryd.func20, Tryd.ntmps20
  obtain ⟨q0, q1, q2⟩ := PX.out.a.c3
  go_wp2_with fail
  refine C1.out.mono ?_
  rintro e w1 ⟨rfl, hB⟩
  clear q0 q1 q2
  replace PX := hidb (PX.out.below hB.out)
  clear hB C1
  obtain ⟨q0, q1, q2⟩ := PX.out.a.c3
  go_wp2_with fail
  refine (HW.out _).mono ?_
  rintro e w1b ⟨rfl, rfl⟩
  have cE := (show World.cell? _ ⟨1, 0, none⟩ = some (errV g 3) from (HLa.out.below PX.out.gr.out).cell 3 (by decide))
  go_upto_region 5 with fail
  go_quiet (fail)
  go_wp2
  go_ret2
  exact ⟨rfl, PX.out.gr.drewN _⟩
set_option maxRecDepth 4000 in
set_option maxHeartbeats 4000000 in
theorem gather_out (g : Nat → Addr) {m n Lb Lo Lcap : Nat} {l : List Int} {ra : Option Addr} {rb ro rcap : Nat} {r : List Int} (w : World) (hR : Rs w Lb Lo Lcap l) (ok : Ok l m n) (hv : vcode m n l = 0) (hl : Lai w g) (hr : ISl w ra rb ro rcap r) (hrl : r.length ≤ 20000) (hrr : ¬ (r.length = l.length ∧ rainsB r = true)) : Calls Tryd.prog 19 #[raV m n (.slice (some ⟨Lb, Lo, none⟩) l.length Lcap), .slice ra r.length rcap] w fun e w' => e = .returned (.tuple #[.slice none 0 0, evc g 3]) ∧ Gr w w' := by
  have hlen := ok.len_le
  have PX : Hid (PF w (w.alloc (.cells #[.int .i64 (m : Int), .int .i64 (n : Int), .slice (some ⟨Lb, Lo, none⟩) l.length Lcap] 27)) w.heap.size [.int .i64 (m : Int), .int .i64 (n : Int), .slice (some ⟨Lb, Lo, none⟩) l.length Lcap]) := ⟨At.new3 _ _ _ _ _, (Gr.refl w).alloc _⟩
  have C1 := hidb (valid_lai g m n _ Lb Lo Lcap l _ (hR.below PX.out.gr.out).isl (by omega) (hl.below PX.out.gr.out))
  rw [hv, show evc g 0 = .nilIface from rfl] at C1
  have HRn := hidb (fun W (hG : Gr w W) => rains_any _ rb ro rcap r W (hr.below hG.out) hrl)
  have HLa := hidb hl
  by_cases he : r.length = l.length
  · have hf : rainsB r = false := by
      cases hb : rainsB r with
      | false => rfl
      | true => exact absurd ⟨he, hb⟩ hrr
    rw [hf] at HRn
    rw [he] at HRn ⊢
    obtain ⟨N, hN⟩ : ∃ N, N = l.length := ⟨_, rfl⟩
    rw [← hN] at PX C1 HRn ⊢
    rw [show evc g 3 = errV g 2 from rfl]
    clear hR ok hv hl hlen hr hrl hrr he hf hN
    show Calls Tryd.prog 19 #[.agg #[.int .i64 (m : Int), .int .i64 (n : Int), .slice (some ⟨Lb, Lo, none⟩) N Lcap], .slice ra N rcap] w _
    go_enter Tryd.func19, Tryd.ntmps19
    obtain ⟨q0, q1, q2⟩ := PX.out.a.c3
    go_wp2_with fail
    refine C1.out.mono ?_
    rintro e w1 ⟨rfl, hB⟩
    clear q0 q1 q2
    replace PX := hidb (PX.out.below hB.out)
    clear hB C1
    obtain ⟨q0, q1, q2⟩ := PX.out.a.c3
    go_wp2_with fail
    refine (HRn.out _ PX.out.gr).mono ?_
    rintro e w1b ⟨rfl, rfl⟩
    have cE := (show World.cell? _ ⟨0, 0, none⟩ = some (errV g 2) from (HLa.out.below PX.out.gr.out).cell 2 (by decide))
    go_upto_region 5 with fail
    go_quiet (fail)
    go_wp2
    go_ret2
    exact ⟨rfl, PX.out.gr.drewN _⟩
  · have he' : ¬ (r.length : Int) = (l.length : Int) := by omega
    obtain ⟨N, hN⟩ : ∃ N, N = l.length := ⟨_, rfl⟩
    obtain ⟨M, hM⟩ : ∃ M, M = r.length := ⟨_, rfl⟩
    rw [← hN] at PX C1 he' ⊢
    rw [← hM] at he' ⊢
    rw [← hN, ← hM] at he
    rw [show evc g 3 = errV g 2 from rfl]
    clear hR ok hv hl hlen hr hrl hrr hN hM HRn
    show Calls Tryd.prog 19 #[.agg #[.int .i64 (m : Int), .int .i64 (n : Int), .slice (some ⟨Lb, Lo, none⟩) N Lcap], .slice ra M rcap] w _
    go_enter Tryd.func19, Tryd.ntmps19
    obtain ⟨q0, q1, q2⟩ := PX.out.a.c3
    go_wp2_with fail
    refine C1.out.mono ?_
    rintro e w1 ⟨rfl, hB⟩
    clear q0 q1 q2
    replace PX := hidb (PX.out.below hB.out)
    clear hB C1
    obtain ⟨q0, q1, q2⟩ := PX.out.a.c3
    have cE := (show World.cell? _ ⟨0, 0, none⟩ = some (errV g 2) from (HLa.out.below PX.out.gr.out).cell 2 (by decide))
    go_upto_region 5 with fail
    go_quiet (fail)
    go_wp2
    go_ret2
    exact ⟨rfl, PX.out.gr.drewN _⟩
end Go.Proofs.YtbkggcfogmgmmaaDoor
