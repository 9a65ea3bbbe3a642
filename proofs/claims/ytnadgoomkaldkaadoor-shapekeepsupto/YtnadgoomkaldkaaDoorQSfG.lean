/-
  shape.Valid.
-/
import Derived.Test.YtnadgoomkaldkaaDoorQSfF
import Derived.Test.YtnadgoomkaldkaaDoorQSfA
import Derived.Test.YtnadgoomkaldkaaDoorQJ5
import Derived.Test.YtnadgoomkaldkaaDoorQSrB
namespace Go.Proofs.YtnadgoomkaldkaaDoor
open Go.RowKit
attribute [local go_sem ↓] Go.wp_at_zero Go.wp_at_succ

/-- The three errors that a map can have are laid. -/
structure Lc (w : World) (a : Nat → Addr) : Prop where
  cell : ∀ i, i = 1 ∨ i = 2 ∨ i = 6 → w.cell? ⟨gv i, 0, none⟩ = some (errV a i)
theorem Lc.below {w w' : World} {a : Nat → Addr} (h : Lc w a) (hb : Below w.heap.size w w') : Lc w' a where
  cell i hi := by rw [hb.cell (p := ⟨gv i, 0, none⟩) (lt_of_cell (h.cell i hi))]; exact h.cell i hi
theorem Lc.gr {w w' : World} {a : Nat → Addr} (h : Lc w a) (hb : Gr w w') : Lc w' a := h.below hb.out
theorem Laid.lc {w : World} {a : Nat → Addr} (h : Laid w a) : Lc w a := ⟨fun i hi => h.cell i (by omega)⟩
instance {w : World} {a : Nat → Addr} : Coe (Laid w a) (Lc w a) := ⟨Laid.lc⟩
/-- A slice of slices of points: those that are not empty have their address. -/
structure LLd (w : World) (ad : Option Addr) (b o cap : Nat) (Ls : List (List Sp)) : Prop where
  row : ∀ i, i < Ls.length → (∃ ad' b' o' cap', w.cell? ⟨b, o + i, none⟩ = some (.slice ad' (lx Ls i).length cap') ∧ (1 ≤ (lx Ls i).length → ad' = some ⟨b', o', none⟩ ∧ (lx Ls i).length ≤ cap') ∧ SSl w ad' b' o' cap' (lx Ls i)) ∧ b < w.heap.size
  ix : ∀ k : Nat, k < Ls.length → ∀ w, (Instr.indexAt 30 (.slice ad Ls.length cap) (.int .i64 k)).run Tryd.prog w = .ok (.pointer (some ⟨b, o + k, none⟩)) w
theorem LLd.ll {w : World} {ad : Option Addr} {b o cap : Nat} {Ls : List (List Sp)} (h : LLd w ad b o cap Ls) : LLs w ad b o cap Ls :=
  ⟨fun i hi => by
    obtain ⟨⟨ad', b', o', cap', h1, -, h2⟩, h3⟩ := h.row i hi
    exact ⟨⟨ad', b', o', cap', h1, h2⟩, h3⟩, h.ix⟩
theorem LLd.k {w : World} {ad : Option Addr} {b o cap : Nat} {Ls : List (List Sp)} (h : LLd w ad b o cap Ls) (h1 : ∀ i, i < Ls.length → 1 ≤ (lx Ls i).length) : LLk w ad b o cap Ls :=
  ⟨fun i hi => by
    obtain ⟨⟨ad', b', o', cap', h2, h3, h4⟩, h5⟩ := h.row i hi
    obtain ⟨rfl, hc⟩ := h3 (h1 i hi)
    exact ⟨⟨b', o', cap', h2, hc, h4⟩, h5⟩, h.ix⟩
theorem LLd.below {W w' : World} {ad : Option Addr} {b o cap : Nat} {Ls : List (List Sp)} (h : LLd W ad b o cap Ls) (hB : Below W.heap.size W w') : LLd w' ad b o cap Ls :=
  ⟨fun i hi => by
    obtain ⟨⟨ad', b', o', cap', h1, h0, h2⟩, h3⟩ := h.row i hi
    exact ⟨⟨ad', b', o', cap', (hB.cell (p := ⟨b, o + i, none⟩) h3).trans h1, h0, h2.below hB⟩, Nat.lt_of_lt_of_le h3 hB.size⟩, h.ix⟩
/-- All the points are small. -/
def okL (Ls : List (List Sp)) : Prop := ∀ i, i < Ls.length → ∀ k, k < (lx Ls i).length → okS (sx (lx Ls i) k)
structure PF1 (w W : World) (T : Nat) (t : List Value) : Prop where
  a : At W T t
  gr : Gr w W
theorem PF1.below {w W w' : World} {T : Nat} {t : List Value} (h : PF1 w W T t) (hB : Below W.heap.size W w') : PF1 w w' T t := ⟨At.below hB h.a, Gr.step h.gr hB⟩
open Classical in
/-- What is wrong with a map. -/
noncomputable def mcd (Ls : List (List Sp)) : Nat :=
  if 60 < Ls.length ∨ 4000 < Ls.flatten.length then 2 else if ∀ i, i < Ls.length → arP (lx Ls i) then (if cwP Ls ∨ tgP (ppL Ls) then 7 else 0) else 3
theorem mcd_2 {Ls : List (List Sp)} (h : 60 < Ls.length ∨ 4000 < Ls.flatten.length) : mcd Ls = 2 := by unfold mcd; rw [if_pos h]
theorem mcd_3 {Ls : List (List Sp)} (h1 : ¬ 60 < Ls.length) (h2 : ¬ 4000 < Ls.flatten.length) {i : Nat} (hi : i < Ls.length) (h : ¬ arP (lx Ls i)) : mcd Ls = 3 := by
  unfold mcd; rw [if_neg (fun c => c.elim h1 h2), if_neg (fun c => h (c i hi))]
theorem mcd_7 {Ls : List (List Sp)} (h1 : ¬ 60 < Ls.length) (h2 : ¬ 4000 < Ls.flatten.length) (h : ∀ i, i < Ls.length → arP (lx Ls i)) (hc : cwP Ls ∨ tgP (ppL Ls)) : mcd Ls = 7 := by
  unfold mcd; rw [if_neg (fun c => c.elim h1 h2), if_pos h, if_pos hc]
theorem mcd_0 {Ls : List (List Sp)} (h1 : ¬ 60 < Ls.length) (h2 : ¬ 4000 < Ls.flatten.length) (h : ∀ i, i < Ls.length → arP (lx Ls i)) (h3 : ¬ cwP Ls) (h4 : ¬ tgP (ppL Ls)) : mcd Ls = 0 := by
  unfold mcd; rw [if_neg (fun c => c.elim h1 h2), if_pos h, if_neg (fun c => c.elim h3 h4)]
theorem mcd_ok {Ls : List (List Sp)} (h : mcd Ls = 0) : Ls.length ≤ 60 ∧ Ls.flatten.length ≤ 4000 ∧ (∀ i, i < Ls.length → arP (lx Ls i)) ∧ ¬ cwP Ls ∧ ¬ tgP (ppL Ls) := by
  by_cases h1 : 60 < Ls.length ∨ 4000 < Ls.flatten.length
  · rw [mcd_2 h1] at h; cases h
  · have h2 : ¬ 60 < Ls.length := fun c => h1 (.inl c)
    have h3 : ¬ 4000 < Ls.flatten.length := fun c => h1 (.inr c)
    refine ⟨by omega, by omega, ?_⟩
    by_cases h4 : ∀ i, i < Ls.length → arP (lx Ls i)
    · refine ⟨h4, ?_, ?_⟩
      · intro c; rw [mcd_7 h2 h3 h4 (.inl c)] at h; cases h
      · intro c; rw [mcd_7 h2 h3 h4 (.inr c)] at h; cases h
    · exfalso
      obtain ⟨i, hi⟩ := Classical.not_forall.1 h4
      obtain ⟨hi, hn⟩ := Classical.not_imp.1 hi
      rw [mcd_3 h2 h3 hi hn] at h; cases h
/-- How many points the first i arcs have. -/
def tLn (Ls : List (List Sp)) (i : Nat) : Nat := (Ls.take i).flatten.length
theorem take_flat {α : Type} (Ls : List (List α)) {i : Nat} (h : i < Ls.length) : (Ls.take (i + 1)).flatten = (Ls.take i).flatten ++ Ls[i] := by
  rw [List.take_succ_eq_append_getElem h, List.flatten_append]; simp
theorem flat_le {α : Type} (Ls : List (List α)) (i : Nat) : (Ls.take i).flatten.length ≤ Ls.flatten.length := by
  have h : Ls.flatten = (Ls.take i).flatten ++ (Ls.drop i).flatten := by rw [← List.flatten_append, List.take_append_drop]
  rw [h, List.length_append]; omega
theorem ppL_snoc (Ls : List (List Sp)) {i : Nat} (h : i < Ls.length) : ppL (Ls.take (i + 1)) = ppL (Ls.take i) ++ pcl (lx Ls i) := by
  unfold ppL
  rw [List.take_succ_eq_append_getElem h, List.map_append, List.flatten_append, lx_get h]; simp
theorem ppL_le : ∀ Ls : List (List Sp), (ppL Ls).length ≤ Ls.flatten.length
  | [] => Nat.le_refl _
  | l :: Ls => by
    have h1 := ppL_le Ls
    have h2 := pcl_len l
    show (pcl l ++ ppL Ls).length ≤ (l ++ Ls.flatten).length
    rw [List.length_append, List.length_append]
    omega
theorem own_cells {w : World} {base e size n : Nat} {v : Value} {xs : List Value} (h : w.ownsRow base e size v n xs) (hn : 0 < n) : ∃ g cap, v = .slice (some ⟨g, 0, none⟩) n cap ∧ (∀ j u, xs[j]? = some u → w.cell? ((⟨g, 0, none⟩ : Addr).add j) = some u) ∧ base ≤ g ∧ g < w.heap.size := by
  have hlt := h.lt
  obtain ⟨h1, h | ⟨g, cap, cur, hv, hb, hg, hc, hm, hs, ht⟩⟩ := h
  · exact absurd h.2 (by omega)
  · subst hv
    refine ⟨g, cap, rfl, fun j u hu => ?_, hb, (hlt g rfl).2⟩
    rw [← ht, List.getElem?_take] at hu
    split at hu
    · have e : (⟨g, 0, none⟩ : Addr).add j = ⟨g, j, none⟩ := by
        unfold Addr.add
        by_cases c : j = 0
        · subst c; rfl
        · simp [c]
      rw [e]
      simp [World.cell?, hg]
      simpa using hu
    · cases hu
theorem wpList_pa {ops : Array Oper} {rest : List Oper} {o : Oper} {a : Act} {Q : Exit → Act → World → Prop} (W : World) (b0 : Nat) (v : Value) (l r : List Pc) (n k B cap : Nat) (s x : Operand) (hgd : o.guard = none)
    (ho : o.op = .call { callee := .builtin .append, args := #[s, x], argTypes := #[56, 56] }) (hs : a.eval s = v) (hx : a.eval x = .slice (some ⟨B, 0, none⟩) k cap) (_hn : l.length = n) (hk : r.length = k) (hk0 : 0 < k) (hl : n + k ≤ 10000)
    (hO : W.ownsRow b0 84 4 v n (pr l)) (hN : ∀ j u, (pr r)[j]? = some u → W.cell? ((⟨B, 0, none⟩ : Addr).add j) = some u) (hb : b0 ≤ W.heap.size)
    (h : ∀ g cap w', Hid (w'.ownsRow b0 84 4 (.slice (some ⟨g, 0, none⟩) (n + k) cap) (n + k) (pr (l ++ r))) → Hid (W.grownBy w' v.ownBlock) → wpList Tryd.prog ops Q rest (a.put o.dst (.slice (some ⟨g, 0, none⟩) (n + k) cap)) w') : wpList Tryd.prog ops Q (o :: rest) a W := by
  have hml : 100000 ≤ maxLen := by decide
  obtain ⟨i0, hi, hz0, hz1, hz2⟩ := info_pt infoP4
  have hpl : ∀ r : List Pc, (pr r).length = r.length * 4 := fun r => by
    induction r with
    | nil => rfl
    | cons p r ih => show (pcs p ++ pr r).length = _; rw [List.length_append, ih]; simp; omega
  refine wpList_plain hgd fun _ hK => wp_append_lies W s x _ ho b0 _ i0 (.agg #[.int .i64 0, .int .i64 0, .int .i64 0, .int .i64 0]) 4 32 undP4 hi hz0 hz1 hz2 rfl (by decide) v n (pr l) hs hO ⟨B, 0, none⟩ k cap (pr r) hx (by rw [hpl, hk]) hN ?_ hk0 (by omega) (by omega) hb _ rfl ?_
  · intro u hu
    obtain ⟨p, _, hp⟩ := List.mem_flatMap.1 hu
    simp only [List.mem_cons, List.not_mem_nil, or_false] at hp
    rcases hp with rfl | rfl | rfl | rfl <;> rfl
  · intro g cap w' h1 h2 _ _
    refine hK _ _ (h g cap w' ?_ h2)
    have : pr l ++ pr r = pr (l ++ r) := by simp [pr]
    rw [← this]; exact h1
set_option maxRecDepth 4000 in
set_option maxHeartbeats 16000000 in
theorem mvalid_any (g : Nat → Addr) {ad : Option Addr} {b o cap : Nat} {Ls : List (List Sp)} (hn : Ls.length ≤ 60) (hlen : Ls.flatten.length ≤ 5000) (w : World) (h : LLd w ad b o cap Ls) (hl : Lc w g) : Calls Tryd.prog 10 #[.agg #[.slice ad Ls.length cap]] w fun e w' => e = .returned (ev g (mcd Ls)) ∧ Gr w w' := by
  have PX : Hid (PF1 w (w.alloc (.cells #[.slice ad Ls.length cap] 32)) w.heap.size [.slice ad Ls.length cap]) := ⟨At.new1 _ _ _, (Gr.refl w).alloc _⟩
  have HR := hidb h
  have HLa := hidb hl
  have HX := hidb h.ix
  have HLn := hidb hlen
  have HCr := hidb (fun (ha : ∀ i, i < Ls.length → arP (lx Ls i)) W (hG : Gr w W) => crowded_any (Ls := Ls) (fun l hl p hp => by
    obtain ⟨i, hi, rfl⟩ := List.getElem_of_mem hl
    obtain ⟨k, hk, rfl⟩ := List.getElem_of_mem hp
    rw [lx_get hi] at hk
    have := ((ha i hi).2.1 k hk).1
    rw [← sx_get (by rw [← lx_get hi] at hk ⊢; exact hk)] at this
    simpa [lx_get hi] using this) hlen (by omega) (fun i hi => (ha i hi).1) W ((h.below hG.out).k (fun i hi => by have := (ha i hi).1; omega)))
  obtain ⟨N, hNn⟩ : ∃ N, N = Ls.length := ⟨_, rfl⟩
  have HN := hidb hNn
  rw [← hNn] at PX HX HCr hn ⊢
  have HNb := hidb hn
  have hn' : ¬ (60 : Int) < (N : Int) := by omega
  clear h hl hlen hn hNn
  go_enter Tryd.func10, Tryd.ntmps10
  go_upto_region 1 with fail
  generalize w.alloc (.cells #[.slice ad N cap] 32) = w1 at *
  obtain ⟨T, hT⟩ : ∃ z, z = w.heap.size := ⟨_, rfl⟩
  rw [← hT] at PX ⊢
  clear hT
  have q0 := PX.out.a.c1
  go_upto_region 5 with fail
  go_loopw [3, 17] (fun s t wr => ∃ i : Nat, i ≤ N ∧ s = .int .i64 (tLn Ls i : Int) ∧ t = .int .i64 (i : Int) ∧ Hid (wr = w1)) (fun _ t _ => N - (intOf t).toNat)
  case atStart => exact ⟨0, Nat.zero_le _, by simp [tLn], rfl, hidb rfl⟩
  case round =>
    obtain ⟨i, hi, rfl, rfl, E⟩ := hrel
    have hE := E.out
    subst hE
    clear E
    by_cases h1 : ¬ i < N
    · have h1' : ¬ (i : Int) < (N : Int) := by omega
      have hiN : i = Ls.length := by have := HN.out; omega
      have hT : tLn Ls i = Ls.flatten.length := by unfold tLn; rw [hiN, List.take_length]
      rw [hT]
      clear hT h1
      obtain ⟨tot, htot⟩ : ∃ z, z = Ls.flatten.length := ⟨_, rfl⟩
      have HTt := hidb htot
      rw [← htot]
      by_cases h4 : 4000 < tot
      · have h4' : (4000 : Int) < (tot : Int) := by omega
        have cE := (show World.cell? _ ⟨0, 0, none⟩ = some (errV g 1) from (HLa.out.below PX.out.gr.out).cell 1 (by decide))
        have HZ := hidb (mcd_2 (Ls := Ls) (.inr (by rw [← htot]; exact h4)))
        clear h4 hiN htot
        go_wp2
        go_ret
        exact ⟨by rw [HZ.out]; rfl, PX.out.gr⟩
      · have h4' : ¬ (4000 : Int) < (tot : Int) := by omega
        have H4 := hidb h4
        clear h4 hiN htot
        obtain ⟨base, hbs⟩ : ∃ z, z = wr.heap.size := ⟨_, rfl⟩
        have E0 := hidb (show wr.ownsRow base 84 4 (.slice none 0 0) (ppL (Ls.take 0)).length (pr (ppL (Ls.take 0))) ∧ (∀ j, j < 0 → arP (lx Ls j)) ∧ PF1 w wr T [.slice ad N cap] ∧ T < base ∧ base ≤ wr.heap.size ∧ w.heap.size ≤ base from ⟨World.ownsRow_nil _ _ _ _, fun j hj => absurd hj (Nat.not_lt_zero _), PX.out, by rw [hbs]; exact PX.out.a.lt, by omega, by rw [hbs]; exact PX.out.gr.out.size⟩)
        clear hbs PX
        go_upto_region 12 with fail
        clear q0
        go_loopw [4, 32] (fun v t wr => ∃ i : Nat, i ≤ N ∧ t = .int .i64 (i : Int) ∧ Hid (wr.ownsRow base 84 4 v (ppL (Ls.take i)).length (pr (ppL (Ls.take i))) ∧ (∀ j, j < i → arP (lx Ls j)) ∧ PF1 w wr T [.slice ad N cap] ∧ T < base ∧ base ≤ wr.heap.size ∧ w.heap.size ≤ base)) (fun _ t _ => N - (intOf t).toNat)
        case atStart => exact ⟨0, Nat.zero_le _, rfl, E0⟩
        case round =>
          clear E0
          obtain ⟨i, hi, rfl, E⟩ := hrel
          by_cases h1 : ¬ i < N
          · have h1' : ¬ (i : Int) < (N : Int) := by omega
            have hiL : i = Ls.length := by have := HN.out; omega
            have hT : Ls.take i = Ls := by rw [hiL]; exact List.take_length
            have hall : ∀ i, i < Ls.length → arP (lx Ls i) := fun j hj => E.out.2.1 j (by omega)
            have HC := hidb (HCr.out (fun j hj => hall j (by rw [← HN.out]; exact hj)) wr E.out.2.2.1.gr)
            have hrow := E.out.1
            rw [hT] at hrow
            obtain ⟨adp, bp, capp, rfl, hP⟩ := own_psl hrow rfl
            have hle := ppL_le Ls
            have HTg := hidb (fun W (hG : Gr wr W) => tangled_any (L := ppL Ls) (by have := HLn.out; omega) (fun k hk => by
              have hm : (ppL Ls)[k] ∈ ppL Ls := List.getElem_mem hk
              obtain ⟨pl, hpl, hp⟩ := List.mem_flatten.1 hm
              obtain ⟨a, ha, rfl⟩ := List.mem_map.1 hpl
              obtain ⟨j, hj, rfl⟩ := List.getElem_of_mem ha
              obtain ⟨m, hm2, hm3⟩ := List.getElem_of_mem hp
              rw [pcl_get hm2] at hm3
              rw [← px_get hk, ← hm3, lx_get hj]
              rw [pcl_len, lx_get hj] at hm2
              exact ⟨((hall j hj).2.1 m (by omega)).1, ((hall j hj).2.1 (m + 1) (by omega)).1⟩) W (hP.gr hG))
            have Hm := hidb (show ¬ 60 < Ls.length ∧ ¬ 4000 < Ls.flatten.length ∧ ∀ i, i < Ls.length → arP (lx Ls i) from ⟨by have := HNb.out; have := HN.out; omega, by have := H4.out; have := HTt.out; omega, hall⟩)
            have PX := hidb E.out.2.2.1
            have q0 := PX.out.a.c1
            have cE := hidb (fun W (hG : Gr w W) => (show World.cell? W ⟨2, 0, none⟩ = some (errV g 6) from (HLa.out.below hG.out).cell 6 (by decide)))
            generalize (ppL Ls).length = pl at *
            clear hrow hP hle hall hT hiL h1 E
            go_wp2_with fail
            refine HC.out.mono ?_
            rintro e w2 ⟨rfl, hB2⟩
            by_cases hcw : cwP Ls
            · have e7 := hidb (mcd_7 Hm.out.1 Hm.out.2.1 Hm.out.2.2 (.inl hcw))
              rw [cwB_t hcw]
              have HZ := hidb (Gr.step PX.out.gr hB2.out)
              have cE2 := cE.out _ HZ.out
              clear hcw hB2 q0
              go_wp2
              go_ret
              exact ⟨by rw [e7.out]; rfl, HZ.out⟩
            · rw [cwB_f hcw]
              have HcN := hidb hcw
              have HTw := hidb (HTg.out w2 hB2)
              have HZ := hidb (Gr.step PX.out.gr hB2.out)
              clear hcw hB2 q0
              go_wp2_with fail
              refine HTw.out.mono ?_
              rintro e w3 ⟨rfl, hB3⟩
              have HZ3 := hidb (Gr.step HZ.out hB3.out)
              have cE3 := cE.out _ HZ3.out
              clear hB3 HTw
              by_cases htg : tgP (ppL Ls)
              · have e7 := hidb (mcd_7 Hm.out.1 Hm.out.2.1 Hm.out.2.2 (.inr htg))
                rw [decide_eq_true htg]
                clear htg
                go_wp2
                go_ret
                exact ⟨by rw [e7.out]; rfl, HZ3.out⟩
              · have e0 := hidb (mcd_0 Hm.out.1 Hm.out.2.1 Hm.out.2.2 HcN.out htg)
                rw [decide_eq_false htg]
                clear htg
                go_wp2
                go_ret
                exact ⟨by rw [e0.out]; rfl, HZ3.out⟩
          · have h1' : (i : Int) < (N : Int) := by omega
            have hiN : i < N := by omega
            have hiL : i < Ls.length := by rw [← HN.out]; exact hiN
            have H1 := hidb hiN
            have e1 : IntKind.i64.wrap ((i : Int) + 1) = ((i + 1 : Nat) : Int) := by rw [show (i : Int) + 1 = ((i + 1 : Nat) : Int) by omega]; exact wr_in (by omega) (by have := HNb.out; omega)
            obtain ⟨⟨ad', b', o', cap', c0w, -, hS⟩, cb⟩ := HR.out.row i hiL
            have c0 := (E.out.2.2.1.gr.out.cell (p := ⟨b, o + i, none⟩) cb).trans c0w
            have ix := HX.out i hiN
            have hpp := ppL_snoc Ls hiL
            have hl5 : (lx Ls i).length ≤ 5000 := by
              have h3 := flat_le Ls (i + 1)
              rw [take_flat Ls hiL, List.length_append, lx_get hiL] at h3
              have := HLn.out
              omega
            have hppl : (ppL (Ls.take i)).length + (pcl (lx Ls i)).length ≤ 5000 := by
              have h3 := ppL_le (Ls.take (i + 1))
              have h4 := flat_le Ls (i + 1)
              rw [hpp, List.length_append] at h3
              have := HLn.out
              omega
            have HAr : Hid (arP (lx Ls i) → ∀ j, j < i + 1 → arP (lx Ls j)) := fun ha j hj => by
              by_cases e : j = i
              · rw [e]; exact ha
              · exact E.out.2.1 j (by omega)
            have HNo : Hid (¬ arP (lx Ls i) → mcd Ls = 3) := fun ha => mcd_3 (by have := HNb.out; have := HN.out; omega) (by have := H4.out; have := HTt.out; omega) hiL ha
            have HPp := hidb hpp
            have HLe := hidb (show (ppL (Ls.take i)).length + (pcl (lx Ls i)).length ≤ 5000 ∧ (pcl (lx Ls i)).length = (lx Ls i).length - 1 ∧ (ppL (Ls.take i) ++ pcl (lx Ls i)).length = (ppL (Ls.take i)).length + ((lx Ls i).length - 1) from ⟨hppl, pcl_len _, by rw [List.length_append, pcl_len]⟩)
            have HIa := hidb (fun W (hG : Gr w W) => isArc_any hl5 W (hS.gr hG))
            have HPo := hidb (fun W (hG : Gr w W) => piecesOf_any hl5 W (hS.gr hG))
            have cE := hidb (fun W (hG : Gr w W) => (show World.cell? W ⟨1, 0, none⟩ = some (errV g 2) from (HLa.out.below hG.out).cell 2 (by decide)))
            have EE := hidb (show _ ∧ _ from ⟨E.out.1, E.out.2.2⟩)
            have hpk : pk (lx Ls i) ((lx Ls i).length - 1) = pcl (lx Ls i) := rfl
            rw [hpk] at HPo
            obtain ⟨rl, hrl⟩ : ∃ z, z = pcl (lx Ls i) := ⟨_, rfl⟩
            obtain ⟨pt, hpt⟩ : ∃ z, z = ppL (Ls.take i) := ⟨_, rfl⟩
            rw [← hrl, ← hpt] at HPp HLe
            rw [← hpt] at EE
            rw [← hrl] at HPo
            obtain ⟨len, hln⟩ : ∃ z, z = (lx Ls i).length := ⟨_, rfl⟩
            have H2 : Hid (arP (lx Ls i) → 2 ≤ len) := fun ha => by rw [hln]; exact ha.1
            rw [← hln] at HPo HLe c0 HIa
            generalize pt.length = nP at *
            clear h1 hiN hiL c0w cb hS hl5 hppl hpp hpk hrl hpt hln E
            go_wp2_with fail
            refine (HIa.out wr EE.out.2.1.gr).mono ?_
            rintro e w2 ⟨rfl, hB2⟩
            have G2 := hidb (Gr.step EE.out.2.1.gr hB2.out)
            by_cases ha : arP (lx Ls i)
            · rw [decide_eq_true ha]
              have HAr2 := hidb (HAr.out ha)
              have hl2 := H2.out ha
              have E2 := hidb (show w2.ownsRow base 84 4 u4 nP (pr pt) ∧ PF1 w w2 T [.slice ad N cap] ∧ base ≤ w2.heap.size from ⟨own_kp EE.out.1 hB2.out, EE.out.2.1.below hB2.out, by have := hB2.out.size; have := EE.out.2.2.2.1; omega⟩)
              have HTb := hidb (show T < base ∧ w.heap.size ≤ base from ⟨EE.out.2.2.1, EE.out.2.2.2.2⟩)
              have HL2 := hidb hl2
              clear ha hl2 hB2 c0 EE
              go_wp2_with fail
              refine (HPo.out w2 G2.out).mono ?_
              rintro e w3 ⟨ad3, cap3, rfl, hr3, -, hB3⟩
              obtain ⟨g3, cp3, hv3, hcs, hb3, hg3⟩ := own_cells hr3 (by have := HL2.out; omega)
              simp only [Value.slice.injEq, true_and] at hv3
              obtain ⟨rfl, rfl⟩ := hv3
              obtain ⟨k, hk⟩ : ∃ z, z = len - 1 := ⟨_, rfl⟩
              rw [← hk]
              have HK := hidb (show 0 < k ∧ rl.length = k ∧ nP + k ≤ 10000 ∧ pt.length = nP ∧ (pt ++ rl).length = nP + k from ⟨by have := HL2.out; omega, by have := HLe.out.2.1; omega, by have := HLe.out; omega, by have := HLe.out.2.2; rw [List.length_append, HLe.out.2.1] at this; omega, by have := HLe.out.2.2; omega⟩)
              have E3 := hidb (show w3.ownsRow base 84 4 u4 nP (pr pt) ∧ PF1 w w3 T [.slice ad N cap] ∧ base ≤ w3.heap.size from ⟨own_kp E2.out.1 hB3.out, E2.out.2.1.below hB3.out, by have := hB3.out.size; have := E2.out.2.2; omega⟩)
              have HCs := hidb hcs
              clear hr3 hB3 hcs hb3 hg3 E2 hk G2
              go_wp2_with (at_builtin; refine wpList_pa _ base u4 pt rl nP k g3 cap3 _ _ rfl rfl rfl rfl HK.out.2.2.2.1 HK.out.2.1 HK.out.1 HK.out.2.2.1 E3.out.1 HCs.out E3.out.2.2 ?_; intro g4 cap4 w4 hown hgrow)
              have hBb := (Below.refl base w3).grown hgrow.out E3.out.2.2 (fun k hk => (E3.out.1.lt k hk).1)
              have HF : Hid (w4.ownsRow base 84 4 (.slice (some ⟨g4, 0, none⟩) (nP + k) cap4) (ppL (Ls.take (i + 1))).length (pr (ppL (Ls.take (i + 1)))) ∧ (∀ j, j < i + 1 → arP (lx Ls j)) ∧ PF1 w w4 T [.slice ad N cap] ∧ T < base ∧ base ≤ w4.heap.size ∧ w.heap.size ≤ base) := by
                refine ⟨?_, HAr2.out, ⟨At.belowB hBb E3.out.2.1.a HTb.out.1, Below.grown E3.out.2.1.gr.out hgrow.out (by have := E3.out.2.1.gr.out.size; omega) (fun k hk => Nat.le_trans HTb.out.2 (E3.out.1.lt k hk).1)⟩, HTb.out.1, Nat.le_trans E3.out.2.2 hgrow.out.size, HTb.out.2⟩
                rw [HPp.out, HK.out.2.2.2.2]
                exact hown.out
              clear hown hgrow hBb E3
              go_wp2
              go_roundw
              case rel => exact ⟨i + 1, H1.out, by go_num, HF⟩
              case measure => have := H1.out; simp [intOf]; omega
            · rw [decide_eq_false ha]
              have e3 := hidb (HNo.out ha)
              have cE2 := cE.out _ G2.out
              clear ha hB2 c0 EE
              go_wp2
              go_ret
              exact ⟨by rw [e3.out]; rfl, G2.out⟩
    · have h1' : (i : Int) < (N : Int) := by omega
      have hiN : i < N := by omega
      have hiL : i < Ls.length := by rw [← HN.out]; exact hiN
      have H1 := hidb hiN
      have e1 : IntKind.i64.wrap ((i : Int) + 1) = ((i + 1 : Nat) : Int) := by rw [show (i : Int) + 1 = ((i + 1 : Nat) : Int) by omega]; exact wr_in (by omega) (by have := HNb.out; omega)
      obtain ⟨⟨ad', b', o', cap', c0w, -, hS⟩, cb⟩ := HR.out.row i hiL
      have c0 := (PX.out.gr.out.cell (p := ⟨b, o + i, none⟩) cb).trans c0w
      have ix := HX.out i hiN
      have htk : tLn Ls (i + 1) = tLn Ls i + (lx Ls i).length := by unfold tLn; rw [take_flat Ls hiL, List.length_append, lx_get hiL]
      have hle : tLn Ls (i + 1) ≤ Ls.flatten.length := flat_le Ls (i + 1)
      have e2 : IntKind.i64.wrap ((tLn Ls i : Int) + ((lx Ls i).length : Int)) = (tLn Ls (i + 1) : Int) := by
        have := HLn.out
        rw [htk, show (tLn Ls i : Int) + ((lx Ls i).length : Int) = ((tLn Ls i + (lx Ls i).length : Nat) : Int) by omega]
        exact wr_in (by omega) (by omega)
      generalize (tLn Ls i : Int) = s0 at *
      generalize (lx Ls i).length = li at *
      clear h1 hiN hiL c0w cb hS htk hle
      go_wp2
      go_roundw
      case rel => exact ⟨i + 1, H1.out, rfl, by go_num, hidb (by trivial)⟩
      case measure => have := H1.out; simp [intOf]; omega
end Go.Proofs.YtnadgoomkaldkaaDoor
