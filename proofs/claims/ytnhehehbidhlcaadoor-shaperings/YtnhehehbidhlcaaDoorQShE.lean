/-
  shape.piece.eastOf, shape.Area, Where; mercatorlaw5.few, ringed.
-/
import Derived.Test.YtnhehehbidhlcaaDoorQShD
namespace Go.Proofs.YtnhehehbidhlcaaDoor
open Go.RowKit
attribute [local go_sem ↓] Go.wp_at_zero Go.wp_at_succ

/-- A piece's lower and its upper end. -/
def lwE (p : Pc) : Sp := if p.2.2 < p.1.2 then p.2 else p.1
def upE (p : Pc) : Sp := if p.2.2 < p.1.2 then p.1 else p.2
/-- A piece to the east of a point. -/
def esP (p : Pc) (s : Sp) : Prop := ((lwE p).2 ≤ s.2 ∧ s.2 < (upE p).2) ∧ 0 < tn (lwE p) (upE p) s
instance (p : Pc) (s : Sp) : Decidable (esP p s) := by unfold esP; exact inferInstance
set_option maxRecDepth 4000 in
set_option maxHeartbeats 4000000 in
theorem eastOf_any {p : Pc} {s : Sp} (h1 : okS p.1) (h2 : okS p.2) (h3 : okS s) (w : World) : Calls Tryd.prog 23 #[pv p, sv s] w fun e w' => e = .returned (.bool (decide (esP p s))) ∧ Gr w w' := by
  generalize hr : decide (esP p s) = r
  by_cases c : p.2.2 < p.1.2
  · have e1 : lwE p = p.2 := if_pos c
    have e2 : upE p = p.1 := if_pos c
    have HT := hidb (fun w => turn_any h2 h1 h3 w)
    have ht : p.2.2 ≤ s.2 → s.2 < p.1.2 → decide (0 < tn p.2 p.1 s) = r := fun k1 k2 => by rw [← hr]; exact decide_eq_decide.2 ⟨fun hx => by unfold esP; rw [e1, e2]; exact ⟨⟨k1, k2⟩, hx⟩, fun hx => by unfold esP at hx; rw [e1, e2] at hx; exact hx.2⟩
    have hf : ¬ (p.2.2 ≤ s.2 ∧ s.2 < p.1.2) → r = false := fun k => by rw [← hr]; exact decide_eq_false (fun hx => k (by rw [← e1, ← e2]; exact hx.1))
    clear hr e1 e2 h1 h2 h3
    generalize tn p.2 p.1 s = t at *
    obtain ⟨⟨a1, a2⟩, a3, a4⟩ := p
    obtain ⟨s1, s2⟩ := s
    dsimp only at c ht hf
    by_cases k1 : a4 ≤ s2
    · by_cases k2 : s2 < a2
      · obtain rfl := ht k1 k2
        clear ht hf
        go_enter Tryd.func23, Tryd.ntmps23
        go_wp2_with fail
        refine (HT.out _).mono ?_
        rintro e w2 ⟨rfl, hB⟩
        go_wp2
        go_ret
        exact ⟨rfl, Gr.step (by ((with_reducible repeat' (first | assumption | refine Gr.drew ?_ | refine Gr.alloc ?_ _ | refine Gr.set ?_ (by first | omega | (simp; omega)) _ _ | exact Gr.refl _)); done)) hB.out⟩
      · obtain rfl := hf (fun h => k2 h.2)
        clear ht hf
        go_enter Tryd.func23, Tryd.ntmps23
        go_wp2
        go_ret
        exact ⟨rfl, by ((with_reducible repeat' (first | assumption | refine Gr.drew ?_ | refine Gr.alloc ?_ _ | refine Gr.set ?_ (by first | omega | (simp; omega)) _ _ | exact Gr.refl _)); done)⟩
    · obtain rfl := hf (fun h => k1 h.1)
      clear ht hf
      go_enter Tryd.func23, Tryd.ntmps23
      go_wp2
      go_ret
      exact ⟨rfl, by ((with_reducible repeat' (first | assumption | refine Gr.drew ?_ | refine Gr.alloc ?_ _ | refine Gr.set ?_ (by first | omega | (simp; omega)) _ _ | exact Gr.refl _)); done)⟩
  · have e1 : lwE p = p.1 := if_neg c
    have e2 : upE p = p.2 := if_neg c
    have HT := hidb (fun w => turn_any h1 h2 h3 w)
    have ht : p.1.2 ≤ s.2 → s.2 < p.2.2 → decide (0 < tn p.1 p.2 s) = r := fun k1 k2 => by rw [← hr]; exact decide_eq_decide.2 ⟨fun hx => by unfold esP; rw [e1, e2]; exact ⟨⟨k1, k2⟩, hx⟩, fun hx => by unfold esP at hx; rw [e1, e2] at hx; exact hx.2⟩
    have hf : ¬ (p.1.2 ≤ s.2 ∧ s.2 < p.2.2) → r = false := fun k => by rw [← hr]; exact decide_eq_false (fun hx => k (by rw [← e1, ← e2]; exact hx.1))
    clear hr e1 e2 h1 h2 h3
    generalize tn p.1 p.2 s = t at *
    obtain ⟨⟨a1, a2⟩, a3, a4⟩ := p
    obtain ⟨s1, s2⟩ := s
    dsimp only at c ht hf
    by_cases k1 : a2 ≤ s2
    · by_cases k2 : s2 < a4
      · obtain rfl := ht k1 k2
        clear ht hf
        go_enter Tryd.func23, Tryd.ntmps23
        go_wp2_with fail
        refine (HT.out _).mono ?_
        rintro e w2 ⟨rfl, hB⟩
        go_wp2
        go_ret
        exact ⟨rfl, Gr.step (by ((with_reducible repeat' (first | assumption | refine Gr.drew ?_ | refine Gr.alloc ?_ _ | refine Gr.set ?_ (by first | omega | (simp; omega)) _ _ | exact Gr.refl _)); done)) hB.out⟩
      · obtain rfl := hf (fun h => k2 h.2)
        clear ht hf
        go_enter Tryd.func23, Tryd.ntmps23
        go_wp2
        go_ret
        exact ⟨rfl, by ((with_reducible repeat' (first | assumption | refine Gr.drew ?_ | refine Gr.alloc ?_ _ | refine Gr.set ?_ (by first | omega | (simp; omega)) _ _ | exact Gr.refl _)); done)⟩
    · obtain rfl := hf (fun h => k1 h.1)
      clear ht hf
      go_enter Tryd.func23, Tryd.ntmps23
      go_wp2
      go_ret
      exact ⟨rfl, by ((with_reducible repeat' (first | assumption | refine Gr.drew ?_ | refine Gr.alloc ?_ _ | refine Gr.set ?_ (by first | omega | (simp; omega)) _ _ | exact Gr.refl _)); done)⟩
theorem rcd_ok {l : List Sp} (h : rcd l = 0) : l.length ≤ 4000 ∧ rgP l := by
  unfold rcd at h
  split at h
  · cases h
  · split at h
    · exact ⟨by omega, by assumption⟩
    · cases h
theorem rg_ok {l : List Sp} (h : rgP l) : ∀ i, i < l.length → okS (sx l i) := fun i hi => (h.2.1 i hi).1
theorem pk_ok {l : List Sp} {k : Nat} (h : ∀ i, i < l.length → okS (sx l i)) (hk : k < l.length) : ∀ p ∈ pk l k, okS p.1 ∧ okS p.2 := by
  intro p hp
  simp only [pk, List.mem_map, List.mem_range] at hp
  obtain ⟨i, hi, rfl⟩ := hp
  exact ⟨h i (by omega), h (i + 1) (by omega)⟩
theorem eg_ok {l : List Sp} (h : ∀ i, i < l.length → okS (sx l i)) (h1 : 1 ≤ l.length) : ∀ p ∈ eg l, okS p.1 ∧ okS p.2 := by
  intro p hp
  unfold eg at hp
  rcases List.mem_append.1 hp with hp | hp
  · exact pk_ok h (by omega) p hp
  · rw [List.mem_singleton] at hp
    subst hp
    exact ⟨h _ (by omega), h 0 (by omega)⟩
theorem ev_zero (g : Nat → Addr) : ev g 0 = .nilIface := rfl
theorem ev_pos (g : Nat → Addr) {c : Nat} (h : ¬ c = 0) : ev g c = errV g (c - 1) := if_neg h
set_option maxRecDepth 4000 in
set_option maxHeartbeats 4000000 in
theorem area_bad (g : Nat → Addr) {ad : Option Addr} {b o cap : Nat} {l : List Sp} (ll : l.length ≤ 5000) (hc : ¬ rcd l = 0) (w : World) (h : SSl w ad b o cap l) (hl : Lb w g) : Calls Tryd.prog 7 #[.slice ad l.length cap] w fun e w' => e = .returned (.tuple #[.int .i64 0, errV g (rcd l - 1)]) ∧ Gr w w' := by
  have HR := hidb (ring_any g ll w h hl)
  rw [ev_pos g hc] at HR
  have hn := fun w => run_neq_iface_nil (P := Tryd.prog) w 28 (by kernel_rfl) 97 (.pointer (some (g (rcd l - 1))))
  generalize rcd l - 1 = i at *
  clear hc h hl ll
  generalize l.length = n at *
  go_enter Tryd.func7, Tryd.ntmps7
  go_wp2_with fail
  refine HR.out.mono ?_
  rintro e w2 ⟨rfl, hB⟩
  go_wp2
  go_ret2
  exact ⟨rfl, hB.out⟩
set_option maxRecDepth 4000 in
set_option maxHeartbeats 4000000 in
theorem area_ok (g : Nat → Addr) {ad : Option Addr} {b o cap : Nat} {l : List Sp} (hc : rcd l = 0) (w : World) (h : SSl w ad b o cap l) (hl : Lb w g) : Calls Tryd.prog 7 #[.slice ad l.length cap] w fun e w' => e = .returned (.tuple #[.int .i64 (sw (eg l)), .nilIface]) ∧ Gr w w' := by
  obtain ⟨l4, hp⟩ := rcd_ok hc
  have HR := hidb (ring_any g (by omega) w h hl)
  rw [hc, ev_zero] at HR
  have l3 := hp.1
  have HE := hidb (fun W (hW : Gr w W) => edges_any (by omega) (by omega) W (h.gr hW))
  have HL := hidb (show (eg l).length ≤ 5000 by rw [eg_len (by omega)]; omega)
  have HO := hidb (eg_ok (rg_ok hp) (by omega))
  clear hc h hl l4 hp l3
  generalize eg l = E at *
  generalize l.length = n at *
  go_enter Tryd.func7, Tryd.ntmps7
  go_wp2_with fail
  refine HR.out.mono ?_
  rintro e w2 ⟨rfl, hB⟩
  go_wp2_with fail
  refine (HE.out _ hB.out).mono ?_
  rintro e w3 ⟨ad1, b1, cap1, rfl, hP, hB3⟩
  have HS := hidb (swept_any HL.out HO.out w3 hP)
  have HG := hidb (Gr.step hB.out hB3.out)
  clear hP hB hB3
  go_wp2_with fail
  refine HS.out.mono ?_
  rintro e w4 ⟨rfl, hB⟩
  go_wp2
  go_ret2
  exact ⟨rfl, Gr.step HG.out hB.out⟩
/-- Where a point is, by the edges. -/
def sdP (L : List Pc) (s : Sp) : Int := L.foldl (fun z e => if esP e s then -z else z) (-1)
theorem sdP_snoc (L : List Pc) (e : Pc) (s : Sp) : sdP (L ++ [e]) s = if esP e s then - sdP L s else sdP L s := by simp [sdP]
theorem sdP_one : ∀ (L : List Pc) (s : Sp), sdP L s = 1 ∨ sdP L s = -1 := by
  have key : ∀ (L : List Pc) (s : Sp) (z : Int), (z = 1 ∨ z = -1) → (L.foldl (fun z e => if esP e s then -z else z) z = 1 ∨ L.foldl (fun z e => if esP e s then -z else z) z = -1) := by
    intro L
    induction L with
    | nil => intro s z hz; exact hz
    | cons e L ih =>
      intro s z hz
      rw [List.foldl_cons]
      refine ih s _ ?_
      split <;> omega
  exact fun L s => key L s (-1) (.inr rfl)
def whP (L : List Pc) (s : Sp) : Int := if ∃ e ∈ L, hsP e s then 0 else sdP L s
set_option maxRecDepth 4000 in
set_option maxHeartbeats 4000000 in
theorem where_bad (g : Nat → Addr) {ad : Option Addr} {b o cap : Nat} {l : List Sp} (ll : l.length ≤ 5000) (hc : ¬ rcd l = 0) (s : Sp) (w : World) (h : SSl w ad b o cap l) (hl : Lb w g) : Calls Tryd.prog 9 #[.slice ad l.length cap, sv s] w fun e w' => e = .returned (.tuple #[.int .i64 0, errV g (rcd l - 1)]) ∧ Gr w w' := by
  have HG := (Gr.refl w).alloc (.cells #[.int .i64 s.1, .int .i64 s.2] 24)
  have HR := hidb (ring_any g ll _ (h.gr HG) (hl.below HG.out))
  have HG2 := hidb HG
  rw [ev_pos g hc] at HR
  have hn := fun w => run_neq_iface_nil (P := Tryd.prog) w 28 (by kernel_rfl) 97 (.pointer (some (g (rcd l - 1))))
  generalize rcd l - 1 = i at *
  clear hc h hl ll HG
  generalize l.length = n at *
  obtain ⟨s1, s2⟩ := s
  go_enter Tryd.func9, Tryd.ntmps9
  go_wp2_with fail
  refine HR.out.mono ?_
  rintro e w2 ⟨rfl, hB⟩
  go_wp2
  go_ret2
  exact ⟨rfl, Gr.step HG2.out hB.out⟩
set_option maxRecDepth 4000 in
set_option maxHeartbeats 4000000 in
theorem where_far (g : Nat → Addr) {ad : Option Addr} {b o cap : Nat} {l : List Sp} (hc : rcd l = 0) (s : Sp) (hs : ¬ okS s) (w : World) (h : SSl w ad b o cap l) (hl : Lb w g) : Calls Tryd.prog 9 #[.slice ad l.length cap, sv s] w fun e w' => e = .returned (.tuple #[.int .i64 0, errV g 2]) ∧ Gr w w' := by
  have HG := (Gr.refl w).alloc (.cells #[.int .i64 s.1, .int .i64 s.2] 24)
  have HR := hidb (ring_any g (by have := (rcd_ok hc).1; omega) _ (h.gr HG) (hl.below HG.out))
  have HG2 := hidb HG
  have FA := At.new2 w (.int .i64 s.1) (.int .i64 s.2) 24
  have HS := hidb (fun w => small_any s w)
  rw [decide_eq_false hs] at HS
  rw [hc, ev_zero] at HR
  have HE2 := hidb (fun W (hW : Gr w W) => (show W.cell? ⟨0, 0, none⟩ = some (errV g 2) from (hl.below hW.out).cell 2 (by omega)))
  clear hc h hl HG hs
  generalize l.length = n at *
  obtain ⟨s1, s2⟩ := s
  go_enter Tryd.func9, Tryd.ntmps9
  go_wp2_with fail
  refine HR.out.mono ?_
  rintro e w2 ⟨rfl, hB⟩
  replace FA := At.below hB.out FA
  replace HG2 := hidb (Gr.step HG2.out hB.out)
  clear hB
  obtain ⟨q0, q1⟩ := FA.c2
  go_wp2_with fail
  refine (HS.out _).mono ?_
  rintro e w3 ⟨rfl, hB⟩
  replace HG2 := hidb (Gr.step HG2.out hB.out)
  have hE2 := HE2.out w3 HG2.out
  clear hB q0 q1 FA
  go_wp2_with fail
  go_quiet (fail)
  go_wp2
  go_ret2
  exact ⟨rfl, HG2.out.drewN _⟩
theorem whP_hit {L : List Pc} {s : Sp} {e : Pc} (h : e ∈ L) (k : hsP e s) : whP L s = 0 := if_pos ⟨e, h, k⟩
set_option maxRecDepth 4000 in
set_option maxHeartbeats 8000000 in
theorem where_ok (g : Nat → Addr) {ad : Option Addr} {b o cap : Nat} {l : List Sp} (hc : rcd l = 0) (s : Sp) (hs : okS s) (w : World) (h : SSl w ad b o cap l) (hl : Lb w g) : Calls Tryd.prog 9 #[.slice ad l.length cap, sv s] w fun e w' => e = .returned (.tuple #[.int .i64 (whP (eg l) s), .nilIface]) ∧ Gr w w' := by
  obtain ⟨l4, hp⟩ := rcd_ok hc
  have l3 := hp.1
  have HG := (Gr.refl w).alloc (.cells #[.int .i64 s.1, .int .i64 s.2] 24)
  have HR := hidb (ring_any g (by omega) _ (h.gr HG) (hl.below HG.out))
  have HG2 := hidb HG
  have FA := At.new2 w (.int .i64 s.1) (.int .i64 s.2) 24
  have HS := hidb (fun w => small_any s w)
  rw [decide_eq_true hs] at HS
  rw [hc, ev_zero] at HR
  have HE := hidb (fun W (hW : Gr w W) => edges_any (by omega) (by omega) W (h.gr hW))
  have HL := hidb (show (eg l).length ≤ 5000 by rw [eg_len (by omega)]; omega)
  have HO := hidb (eg_ok (rg_ok hp) (by omega))
  have HOS := hidb hs
  clear hc h hl HG hs l4 hp l3
  generalize eg l = E at *
  generalize hr : whP E s = r
  have HW1 : Hid (∀ e ∈ E, hsP e s → r = 0) := fun e he hh => by rw [← hr]; exact whP_hit he hh
  have HW2 : Hid ((∀ e ∈ E, ¬ hsP e s) → r = sdP E s) := fun hh => by
    rw [← hr]
    unfold whP
    rw [if_neg]
    rintro ⟨e, he, h2⟩
    exact hh e he h2
  clear hr
  generalize l.length = n at *
  go_enter Tryd.func9, Tryd.ntmps9
  go_wp2_with fail
  refine HR.out.mono ?_
  rintro e w2 ⟨rfl, hB⟩
  replace FA := At.below hB.out FA
  replace HG2 := hidb (Gr.step HG2.out hB.out)
  clear hB
  obtain ⟨q0, q1⟩ := FA.c2
  go_wp2_with fail
  refine (HS.out _).mono ?_
  rintro e w3 ⟨rfl, hB⟩
  replace FA := At.below hB.out FA
  replace HG2 := hidb (Gr.step HG2.out hB.out)
  clear hB q0 q1
  go_wp2_with fail
  refine (HE.out _ HG2.out).mono ?_
  rintro e w4 ⟨ad1, b1, cap1, rfl, hP, hB⟩
  replace FA := At.below hB.out FA
  replace HG2 := hidb (Gr.step HG2.out hB.out)
  have HP := hidb hP
  have HF0 : Hid (At w4 w.heap.size (sc s)) := FA
  clear hB hP FA
  obtain ⟨m, hm⟩ : ∃ m, m = E.length := ⟨_, rfl⟩
  have HX := hidb (fun k (hk : k < m) => HP.out.ix (k := k) (by rw [← hm]; exact hk))
  rw [← hm] at HX HL
  rw [← hm]
  have HM := hidb hm
  clear hm HR HS HE
  go_wp2
  go_loopw [7, 22] (fun v t wr => ∃ (k : Nat), k ≤ m ∧ t = .int .i64 (k : Int) ∧ v = .int .i64 (sdP (E.take k) s) ∧ Hid (∀ e ∈ E.take k, ¬ hsP e s) ∧ Hid (Gr w4 wr)) (fun _ t _ => m - (intOf t).toNat)
  case atStart => exact ⟨0, Nat.zero_le _, rfl, rfl, (by intro e he; simp at he), Gr.refl _⟩
  case round =>
    obtain ⟨k, hk, rfl, rfl, HN, HG⟩ := hrel
    by_cases h1 : ¬ k < m
    · have h1' : ¬ (k : Int) < (m : Int) := by omega
      obtain rfl : k = m := by omega
      have hT : E.take k = E := List.take_of_length_le (by rw [HM.out]; exact Nat.le_refl _)
      rw [hT] at HN
      obtain rfl := HW2.out HN.out
      rw [hT]
      clear h1 hT
      go_wp2
      go_ret2
      exact ⟨rfl, Gr.step HG2.out HG.out⟩
    · have h1' : (k : Int) < (m : Int) := by omega
      have hkn : k < E.length := by rw [← HM.out]; omega
      have HKN := hidb (show k < m by omega)
      have HL2 := HL.out
      obtain ⟨⟨c0, c1, c2, c3⟩, cb⟩ := (HP.out.gr HG.out).row k hkn
      have ix := HX.out k (by omega)
      have e1 : IntKind.i64.wrap ((k : Int) + 1) = ((k + 1 : Nat) : Int) := by rw [show (k : Int) + 1 = ((k + 1 : Nat) : Int) by omega]; exact wr_in (by omega) (by omega)
      have hT : E.take (k + 1) = E.take k ++ [px E k] := by rw [List.take_succ_eq_append_getElem hkn, px_get hkn]
      have hm := List.getElem_mem hkn
      rw [px_get hkn] at hm
      have hok := HO.out _ hm
      have HHit : Hid (hsP (px E k) s → r = 0) := fun hh => HW1.out _ hm hh
      have HN2 : Hid (¬ hsP (px E k) s → ∀ e ∈ E.take (k + 1), ¬ hsP e s) := fun hh e he => by
        rw [hT] at he
        rcases List.mem_append.1 he with he | he
        · exact HN.out e he
        · rw [List.mem_singleton] at he; subst he; exact hh
      have HS1 : Hid (esP (px E k) s → sdP (E.take (k + 1)) s = - sdP (E.take k) s) := fun hh => by rw [hT, sdP_snoc, if_pos hh]
      have HS0 : Hid (¬ esP (px E k) s → sdP (E.take (k + 1)) s = sdP (E.take k) s) := fun hh => by rw [hT, sdP_snoc, if_neg hh]
      have HHas := hidb (fun w => has_any (p := px E k) (s := s) hok.1 hok.2 HOS.out w)
      have HEas := hidb (fun w => eastOf_any (p := px E k) (s := s) hok.1 hok.2 HOS.out w)
      have hone := sdP_one (E.take k) s
      generalize sdP (E.take k) s = z at *
      have e2 : IntKind.i64.wrap (-z) = -z := wr_in (by omega) (by omega)
      have HE1 := hidb e1
      have HE2 := hidb e2
      have F0 := At.below HG.out.out HF0.out
      clear h1 hkn hT hm hok hone cb e1 e2
      obtain ⟨q0, q1⟩ := F0.c2
      have n1 : ¬ wr.heap.size = w.heap.size := by have := F0.lt; omega
      have n2 : ¬ w.heap.size = wr.heap.size := by have := F0.lt; omega
      by_cases d1 : hsP (px E k) s
      · rw [decide_eq_true d1] at HHas
        obtain rfl := HHit.out d1
        clear d1 HHit HN2 HS1 HS0 HEas
        generalize px E k = p at *
        obtain ⟨⟨a1, a2⟩, a3, a4⟩ := p
        obtain ⟨s1, s2⟩ := s
        dsimp only at c0 c1 c2 c3 q0 q1
        have HG3 := hidb (HG.out.alloc (.cells #[.int .i64 a1, .int .i64 a2, .int .i64 a3, .int .i64 a4] 48))
        have FB := At.new4 wr (.int .i64 a1) (.int .i64 a2) (.int .i64 a3) (.int .i64 a4) 48
        have FC := F0.alloc (.cells #[.int .i64 a1, .int .i64 a2, .int .i64 a3, .int .i64 a4] 48)
        go_upto_region 10 with fail
        clear c0 c1 c2 c3 q0 q1 n1 n2 F0
        generalize wr.alloc (.cells #[.int .i64 a1, .int .i64 a2, .int .i64 a3, .int .i64 a4] 48) = W1 at *
        obtain ⟨c0, c1, c2, c3⟩ := FB.c4
        obtain ⟨q0, q1⟩ := FC.c2
        go_wp2_with fail
        refine (HHas.out _).mono ?_
        rintro e w5 ⟨rfl, hB⟩
        go_wp2
        go_ret2
        exact ⟨rfl, Gr.step HG2.out (Gr.step HG3.out hB.out)⟩
      · rw [decide_eq_false d1] at HHas
        have HN3 := hidb (HN2.out d1)
        clear d1 HHit HN2
        by_cases d2 : esP (px E k) s
        all_goals first | rw [decide_eq_true d2] at HEas | rw [decide_eq_false d2] at HEas
        · have HS2 := hidb (HS1.out d2)
          clear d2 HS1 HS0
          generalize px E k = p at *
          obtain ⟨⟨a1, a2⟩, a3, a4⟩ := p
          obtain ⟨s1, s2⟩ := s
          dsimp only at c0 c1 c2 c3 q0 q1
          have HG3 := hidb (HG.out.alloc (.cells #[.int .i64 a1, .int .i64 a2, .int .i64 a3, .int .i64 a4] 48))
          have FB := At.new4 wr (.int .i64 a1) (.int .i64 a2) (.int .i64 a3) (.int .i64 a4) 48
          have FC := F0.alloc (.cells #[.int .i64 a1, .int .i64 a2, .int .i64 a3, .int .i64 a4] 48)
          go_upto_region 10 with fail
          clear c0 c1 c2 c3 q0 q1 n1 n2 F0
          generalize wr.alloc (.cells #[.int .i64 a1, .int .i64 a2, .int .i64 a3, .int .i64 a4] 48) = W1 at *
          obtain ⟨c0, c1, c2, c3⟩ := FB.c4
          obtain ⟨q0, q1⟩ := FC.c2
          go_wp2_with fail
          refine (HHas.out _).mono ?_
          rintro e w5 ⟨rfl, hB⟩
          replace FB := At.below hB.out FB
          replace FC := At.below hB.out FC
          replace HG3 := hidb (Gr.step HG3.out hB.out)
          clear c0 c1 c2 c3 q0 q1 hB
          obtain ⟨c0, c1, c2, c3⟩ := FB.c4
          obtain ⟨q0, q1⟩ := FC.c2
          go_wp2_with fail
          refine (HEas.out _).mono ?_
          rintro e w6 ⟨rfl, hB⟩
          replace HG3 := hidb (Gr.step HG3.out hB.out)
          have e1 := HE1.out
          have e2 := HE2.out
          clear c0 c1 c2 c3 q0 q1 hB FB FC
          go_wp2
          go_roundw
          case rel => exact ⟨k + 1, HKN.out, by go_num, by rw [HS2.out], HN3, HG3⟩
          case measure => have := HKN.out; simp [intOf]; omega
        · have HS2 := hidb (HS0.out d2)
          clear d2 HS1 HS0
          generalize px E k = p at *
          obtain ⟨⟨a1, a2⟩, a3, a4⟩ := p
          obtain ⟨s1, s2⟩ := s
          dsimp only at c0 c1 c2 c3 q0 q1
          have HG3 := hidb (HG.out.alloc (.cells #[.int .i64 a1, .int .i64 a2, .int .i64 a3, .int .i64 a4] 48))
          have FB := At.new4 wr (.int .i64 a1) (.int .i64 a2) (.int .i64 a3) (.int .i64 a4) 48
          have FC := F0.alloc (.cells #[.int .i64 a1, .int .i64 a2, .int .i64 a3, .int .i64 a4] 48)
          go_upto_region 10 with fail
          clear c0 c1 c2 c3 q0 q1 n1 n2 F0
          generalize wr.alloc (.cells #[.int .i64 a1, .int .i64 a2, .int .i64 a3, .int .i64 a4] 48) = W1 at *
          obtain ⟨c0, c1, c2, c3⟩ := FB.c4
          obtain ⟨q0, q1⟩ := FC.c2
          go_wp2_with fail
          refine (HHas.out _).mono ?_
          rintro e w5 ⟨rfl, hB⟩
          replace FB := At.below hB.out FB
          replace FC := At.below hB.out FC
          replace HG3 := hidb (Gr.step HG3.out hB.out)
          clear c0 c1 c2 c3 q0 q1 hB
          obtain ⟨c0, c1, c2, c3⟩ := FB.c4
          obtain ⟨q0, q1⟩ := FC.c2
          go_wp2_with fail
          refine (HEas.out _).mono ?_
          rintro e w6 ⟨rfl, hB⟩
          replace HG3 := hidb (Gr.step HG3.out hB.out)
          have e1 := HE1.out
          clear c0 c1 c2 c3 q0 q1 hB FB FC
          go_wp2
          go_roundw
          case rel => exact ⟨k + 1, HKN.out, by go_num, by rw [HS2.out], HN3, HG3⟩
          case measure => have := HKN.out; simp [intOf]; omega
end Go.Proofs.YtnhehehbidhlcaaDoor
