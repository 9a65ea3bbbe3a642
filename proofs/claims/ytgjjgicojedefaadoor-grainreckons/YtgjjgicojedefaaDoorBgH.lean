/-
  mercatorref1.BigMul.
-/
import Derived.Test.YtgjjgicojedefaaDoorBgG
namespace Go.Proofs.YtgjjgicojedefaaDoor
open Go.RowKit BG

theorem dv_set {l : List Nat} {j d : Nat} (h : j < l.length) : dv (l.set j d) + 1000000 ^ j * l[j] = dv l + 1000000 ^ j * d := by
  induction l generalizing j with
  | nil => simp at h
  | cons x l ih =>
    cases j with
    | zero => simp [dv]; omega
    | succ j =>
      have hj : j < l.length := by simpa using h
      have := ih hj
      simp only [List.set_cons_succ, dv, List.getElem_cons_succ, Nat.pow_succ]
      have e1 : 1000000 ^ j * 1000000 * l[j] = 1000000 * (1000000 ^ j * l[j]) := by rw [Nat.mul_comm (1000000 ^ j) 1000000, Nat.mul_assoc]
      have e2 : 1000000 ^ j * 1000000 * d = 1000000 * (1000000 ^ j * d) := by rw [Nat.mul_comm (1000000 ^ j) 1000000, Nat.mul_assoc]
      rw [e1, e2]
      omega
theorem dg_set {l : List Nat} {j d : Nat} (h : Dg l) (hd : d < 1000000) : Dg (l.set j d) := by
  intro x hx
  rcases List.mem_or_eq_of_mem_set hx with hx | rfl
  · exact h x hx
  · exact hd
theorem vs_set (l : List Nat) (j d : Nat) : (vs l).set j (.int .i64 ((d : Nat) : Int)) = vs (l.set j d) := by simp [vs, List.map_set]
theorem dv_replicate (n : Nat) : dv (List.replicate n 0) = 0 := by
  induction n with
  | zero => rfl
  | succ n ih => rw [List.replicate_succ]; simp [dv, ih]
/-- What is true of the row between two rounds, and within one. -/
structure MO (a b o : List Nat) (i : Nat) : Prop where
  len : o.length = a.length + b.length
  dg : Dg o
  sum : dv o = dv (a.take i) * dv b
  zero : ∀ j, (h : j < o.length) → i + b.length ≤ j → o[j] = 0
structure MI (a b o : List Nat) (i k c : Nat) (x : Nat) : Prop where
  len : o.length = a.length + b.length
  dg : Dg o
  sum : dv o + 1000000 ^ (i + k) * c = dv (a.take i) * dv b + 1000000 ^ i * (x * dv (b.take k))
  zero : ∀ j, (h : j < o.length) → i + b.length ≤ j → o[j] = 0
theorem mi_start {a b o : List Nat} {i x : Nat} (h : MO a b o i) : MI a b o i 0 0 x := ⟨h.len, h.dg, by rw [h.sum]; simp [dv], h.zero⟩
theorem mi_step {a b o : List Nat} {i k c x y : Nat} (h : MI a b o i k c x) (hk : k < b.length) (hy : b[k] = y) (hj : i + k < o.length) : MI a b (o.set (i + k) ((c + o[i + k] + x * y) % 1000000)) i (k + 1) ((c + o[i + k] + x * y) / 1000000) x := by
  refine ⟨by simpa using h.len, dg_set h.dg (Nat.mod_lt _ (by decide)), ?_, ?_⟩
  · have e1 := dv_set (l := o) (j := i + k) (d := (c + o[i + k] + x * y) % 1000000) hj
    have e2 := h.sum
    have e3 : dv (b.take (k + 1)) = dv (b.take k) + 1000000 ^ k * y := by
      rw [take_dv]; congr 2; simp [List.getD, hk, hy]
    rw [e3, Nat.mul_add, Nat.mul_add]
    have e4 : 1000000 ^ i * (x * (1000000 ^ k * y)) = 1000000 ^ (i + k) * (x * y) := by
      rw [Nat.pow_add, Nat.mul_left_comm x, ← Nat.mul_assoc (1000000 ^ i)]
    rw [e4]
    generalize o[i + k] = z at *
    have e5 : 1000000 ^ (i + k) * ((c + z + x * y) % 1000000) + 1000000 ^ (i + (k + 1)) * ((c + z + x * y) / 1000000) = 1000000 ^ (i + k) * (c + z + x * y) := by
      rw [← Nat.add_assoc, Nat.pow_succ, Nat.mul_assoc, ← Nat.mul_add]; congr 1; omega
    rw [Nat.mul_add, Nat.mul_add] at e5
    omega
  · intro j hj' hjb
    have hjo : j < o.length := by simpa using hj'
    rw [List.getElem_set_ne (by omega)]
    exact h.zero j hjo hjb
theorem mi_end {a b o : List Nat} {i c x : Nat} (h : MI a b o i b.length c x) (hi : i < a.length) (hx : a[i] = x) (hc : c < 1000000) (hj : i + b.length < o.length) : MO a b (o.set (i + b.length) c) (i + 1) := by
  refine ⟨by simpa using h.len, dg_set h.dg hc, ?_, ?_⟩
  · have e1 := dv_set (l := o) (j := i + b.length) (d := c) hj
    have e2 := h.sum
    rw [h.zero _ hj (Nat.le_refl _)] at e1
    rw [List.take_of_length_le (Nat.le_refl _)] at e2
    have e3 : dv (a.take (i + 1)) = dv (a.take i) + 1000000 ^ i * x := by
      rw [take_dv]; congr 2; simp [List.getD, hi, hx]
    rw [e3, Nat.add_mul, Nat.mul_assoc]
    omega
  · intro j hj' hjb
    have hjo : j < o.length := by simpa using hj'
    rw [List.getElem_set_ne (by omega)]
    exact h.zero j hjo (by omega)
theorem mul_le_p {x y : Nat} (hx : x < 1000000) (hy : y < 1000000) : x * y ≤ 999998000001 := by
  have : x * y ≤ 999999 * 999999 := Nat.mul_le_mul (by omega) (by omega)
  omega
set_option maxRecDepth 4000 in
set_option maxHeartbeats 8000000 in
theorem bigMul_gen (ad bd : Option Addr) (ba bb : Nat) (a b : List Nat) (ca cb : Nat) (hda : Dg a) (hdb : Dg b) (la : a.length ≤ 200) (lb : b.length ≤ 200) (w : World) (ra : Row w ba a ∨ a = []) (rb : Row w bb b ∨ b = [])
    (ia : ∀ k : Nat, k < a.length → ∀ w, (Instr.indexAt 36 (.slice ad a.length ca) (.int .i64 k)).run Tryd.prog w = .ok (.pointer (some ⟨ba, k, none⟩)) w)
    (ib : ∀ k : Nat, k < b.length → ∀ w, (Instr.indexAt 36 (.slice bd b.length cb) (.int .i64 k)).run Tryd.prog w = .ok (.pointer (some ⟨bb, k, none⟩)) w) :
    Calls Tryd.prog 72 #[.slice ad a.length ca, .slice bd b.length cb] w fun e w' => ∃ v, e = .returned v ∧ Bg w' v (dn (dv a * dv b)) ∧ Below w.heap.size w w' := by
  have HA := hidb hda
  have HB := hidb hdb
  have RA := hidb ra
  have RB := hidb rb
  have IA := hidb ia
  have IB := hidb ib
  clear ib ia rb ra hda hdb
  obtain ⟨i0, hi, hz0, hz1, hz2⟩ := info_parts infoI
  obtain ⟨p, hp⟩ : ∃ p, p = a.length := ⟨_, rfl⟩
  obtain ⟨q, hq⟩ : ∃ q, q = b.length := ⟨_, rfl⟩
  rw [← hp] at la
  rw [← hq] at lb
  rw [← hp, ← hq]
  have HP := hidb hp
  have HQ := hidb hq
  rw [← hp] at IA
  rw [← hq] at IB
  clear hp hq
  go_enter Tryd.func72, Tryd.ntmps72
  go_wp2_with (refine wpList_make_full _ rfl _ _ 36 rfl w.heap.size 3 i0 (.int .i64 0) 1 undB hi hz0 hz1 .i64 .i64 _ _ (p + q) rfl rfl (by omega) (by omega) (by rw [hz2]; omega) (by unfold maxLen; omega) (Nat.le_refl _) ?_)
  intro w1 hown hgrow
  have hB1 : Below w.heap.size w w1 := (Below.refl _ _).grown hgrow (Nat.le_refl _) (by intro k hk; cases hk)
  have hown1 : w1.ownsRow w.heap.size 3 1 (.slice (some ⟨w.heap.size, 0, none⟩) (p + q) (p + q)) (p + q) (vs (List.replicate (p + q) 0)) := by
    have e : (madeCells #[Value.int .i64 0] (p + q)).toList = vs (List.replicate (p + q) 0) := by rw [toList_madeCells_one]; simp [vs]
    first | (rw [e] at hown; exact hown) | (simp only [Nat.mul_one] at hown; rw [← e]; exact hown)
  have IX : Hid (∀ k : Nat, k < p + q → ∀ w', (Instr.indexAt 36 (.slice (some ⟨w.heap.size, 0, none⟩) (p + q) (p + q)) (.int .i64 k)).run Tryd.prog w' = .ok (.pointer (some ⟨w.heap.size, k, none⟩)) w') := fun k hk w' => index_row _ _ _ k hk w'
  obtain ⟨sv, hsv⟩ : ∃ sv, sv = Value.slice (some ⟨w.heap.size, 0, none⟩) (p + q) (p + q) := ⟨_, rfl⟩
  rw [← hsv] at IX ⊢
  have SV := hidb hsv
  clear hown hgrow hsv
  go_wp2
  go_loopw [6] (fun t wr => ∃ (i : Nat) (o : List Nat), i ≤ p ∧ t = .int .i64 i ∧ Hid (MO a b o i) ∧ wr.ownsRow w.heap.size 3 1 (.slice (some ⟨w.heap.size, 0, none⟩) (p + q) (p + q)) (p + q) (vs o) ∧ Below w.heap.size w wr) (fun t _ => p - (intOf t).toNat)
  case atStart => exact ⟨0, List.replicate (p + q) 0, Nat.zero_le _, rfl, ⟨by rw [← HP.out, ← HQ.out]; simp, by intro d hd; rw [List.mem_replicate] at hd; omega, by rw [dv_replicate]; simp [dv], by intro j hj _; simp⟩, hown1, hB1⟩
  case round =>
    obtain ⟨i, o, hip, rfl, HM, hown, hB⟩ := hrel
    by_cases h1 : i < p
    · have h1a : i < a.length := by rw [← HP.out]; exact h1
      have na : a ≠ [] := by intro e; rw [e] at h1a; simp at h1a
      have RA1 := hidb (RA.out.resolve_right na)
      have cella0 := RA1.out.1 i h1a
      have blka := RA1.out.2
      have xa := HA.out.get h1a
      have ixa := IA.out i h1
      obtain ⟨x, hx⟩ : ∃ x, x = a[i] := ⟨_, rfl⟩
      have HX := hidb hx.symm
      rw [← hx] at cella0 xa
      have HI0 := hidb (mi_start (x := x) HM.out)
      clear hx HM hown1 hB1
      go_wp2
      go_loopw [7, 8] (fun s t wr2 => ∃ (c k : Nat) (o : List Nat), c < 1000000 ∧ k ≤ q ∧ s = .int .i64 c ∧ t = .int .i64 k ∧ Hid (MI a b o i k c x) ∧ wr2.ownsRow w.heap.size 3 1 (.slice (some ⟨w.heap.size, 0, none⟩) (p + q) (p + q)) (p + q) (vs o) ∧ Below w.heap.size w wr2) (fun _ t _ => q - (intOf t).toNat)
      case atStart => exact ⟨0, 0, o, by decide, Nat.zero_le _, rfl, rfl, HI0.out, hown, hB⟩
      case round =>
        clear hown hB HI0
        obtain ⟨c, k, o, hc, hkq, rfl, rfl, HI, hown, hB⟩ := hrel
        have cella := (RA1.out.below hB).1 i h1a
        rw [HX.out] at cella
        by_cases h2 : k < q
        · have h2b : k < b.length := by rw [← HQ.out]; exact h2
          have nb : b ≠ [] := by intro e; rw [e] at h2b; simp at h2b
          have cellb := ((RB.out.resolve_right nb).below hB).1 k h2b
          have xb := HB.out.get h2b
          have ixb := IB.out k h2
          have hj : i + k < o.length := by rw [HI.out.len, ← HP.out, ← HQ.out]; omega
          have cello : wr.cell? ⟨w.heap.size, i + k, none⟩ = some (.int .i64 ((o[i + k] : Nat) : Int)) := by
            rw [hown.cellAt (i + k) (by omega)]; simp [vs, hj]
          have zo := HI.out.dg _ (List.getElem_mem hj)
          have fro := hown.frozenAt (i + k)
          have ixo : ∀ w', (Instr.indexAt 36 sv (.int .i64 ((i : Int) + (k : Int)))).run Tryd.prog w' = .ok (.pointer (some ⟨w.heap.size, i + k, none⟩)) w' := by
            intro w'
            have := IX.out (i + k) (by omega) w'
            rw [Int.natCast_add] at this; exact this
          obtain ⟨y, hy⟩ : ∃ y, y = b[k] := ⟨_, rfl⟩
          have HS := hidb (mi_step (y := y) HI.out h2b hy.symm hj)
          rw [← hy] at cellb xb
          have pl := mul_le_p xa xb
          obtain ⟨pp, hpp⟩ : ∃ pp, pp = x * y := ⟨_, rfl⟩
          have epp : (x : Int) * (y : Int) = (pp : Int) := by rw [hpp, Int.natCast_mul]
          rw [← hpp] at pl HS
          clear hy hpp nb HI
          generalize o[i + k] = z at *
          have em : ((c : Int) + (z : Int) + (pp : Int)).tmod 1000000 = (((c + z + pp) % 1000000 : Nat) : Int) := by rw [Int.tmod_eq_emod_of_nonneg (by omega)]; omega
          have eq : ((c : Int) + (z : Int) + (pp : Int)).tdiv 1000000 = (((c + z + pp) / 1000000 : Nat) : Int) := by rw [Int.tdiv_eq_ediv_of_nonneg (by omega)]; omega
          obtain ⟨d, hd⟩ : ∃ d, d = (c + z + pp) % 1000000 := ⟨_, rfl⟩
          obtain ⟨r, hr⟩ : ∃ r, r = (c + z + pp) / 1000000 := ⟨_, rfl⟩
          rw [← hd] at em
          rw [← hr] at eq
          rw [← hd, ← hr] at HS
          have hr1 : r < 1000000 := by omega
          have hown2 := (World.ownsRow.stored hown (i + k) (.int .i64 d)).1
          rw [vs_set] at hown2
          have HB2 := hidb (hB.setCell (p := ⟨w.heap.size, i + k, none⟩) (Nat.le_refl _) (.int .i64 d))
          have HO2 := hidb hown2
          clear hd hr hown hown2 hB
          go_upto_region 9 with fail
          go_quiet (fail)
          go_wp2
          go_roundw
          case rel => exact ⟨r, k + 1, o.set (i + k) d, hr1, by omega, by go_num, by go_num, HS.out, HO2.out, ⟨HB2.out.1, HB2.out.2, HB2.out.3, HB2.out.4, HB2.out.5⟩⟩
          case measure => simp [intOf]; omega
        · have hj : i + q < o.length := by rw [HI.out.len, ← HP.out, ← HQ.out]; omega
          have HE : Hid (MO a b (o.set (i + q) c) (i + 1)) := by
            have hkq2 : k = b.length := by rw [← HQ.out]; omega
            have := HI.out
            rw [hkq2] at this
            show MO a b (o.set (i + q) c) (i + 1)
            have hj2 : i + b.length < o.length := by rw [← HQ.out]; exact hj
            have := mi_end this h1a HX.out hc hj2
            rw [← HQ.out] at this
            exact this
          have cello : wr.cell? ⟨w.heap.size, i + q, none⟩ = some (.int .i64 ((o[i + q] : Nat) : Int)) := by
            rw [hown.cellAt (i + q) (by omega)]; simp [vs, hj]
          have fro := hown.frozenAt (i + q)
          have ixo : ∀ w', (Instr.indexAt 36 sv (.int .i64 ((i : Int) + (q : Int)))).run Tryd.prog w' = .ok (.pointer (some ⟨w.heap.size, i + q, none⟩)) w' := by
            intro w'
            have := IX.out (i + q) (by omega) w'
            rw [Int.natCast_add] at this; exact this
          have hown2 := (World.ownsRow.stored hown (i + q) (.int .i64 c)).1
          rw [vs_set] at hown2
          have HB2 := hidb (hB.setCell (p := ⟨w.heap.size, i + q, none⟩) (Nat.le_refl _) (.int .i64 c))
          have HO2 := hidb hown2
          clear hown hown2 hB HI
          generalize o[i + q] = z at *
          go_wp2
          go_roundw
          case rel => exact ⟨i + 1, o.set (i + q) c, by omega, by go_num, HE.out, HO2.out, HB2.out⟩
          case measure => simp [intOf]; omega
    · have HE : Hid (dv o = dv a * dv b) := by
        have h := HM.out.sum
        rw [List.take_of_length_le (by rw [← HP.out]; omega)] at h
        exact h
      have HD := hidb HM.out.dg
      have HG : Hid (Bg wr sv o) := by rw [SV.out]; exact (own_bg hown).1
      clear IA IB RA RB HM HA HB hown1 hB1 IX
      go_wp2_with fail
      refine (trimmed_bg HD.out HG.out).mono ?_
      rintro e w2 ⟨v', rfl, hv, rfl⟩
      rw [HE.out] at hv
      go_wp2
      go_ret
      exact ⟨_, rfl, hv, hB⟩
theorem bigMul_any {w : World} {u v : Value} {a b : List Nat} (hda : Dg a) (hdb : Dg b) (la : a.length ≤ 200) (lb : b.length ≤ 200) (ha : Bg w u a) (hb : Bg w v b) : Calls Tryd.prog 72 #[u, v] w fun e w' => ∃ v, e = .returned v ∧ Bg w' v (dn (dv a * dv b)) ∧ Below w.heap.size w w' := by
  rcases ha with ⟨rfl, rfl⟩ | ⟨ba, ca, rfl, _, _, ra⟩ <;> rcases hb with ⟨rfl, rfl⟩ | ⟨bb, cb, rfl, _, _, rb⟩
  · exact bigMul_gen none none 0 0 [] [] 0 0 hda hdb la lb w (.inr rfl) (.inr rfl) (fun k hk => by simp at hk) (fun k hk => by simp at hk)
  · exact bigMul_gen none (some ⟨bb, 0, none⟩) 0 bb [] b 0 cb hda hdb la lb w (.inr rfl) (.inl rb) (fun k hk => by simp at hk) (fun k hk w => index_row bb _ cb k hk w)
  · exact bigMul_gen (some ⟨ba, 0, none⟩) none ba 0 a [] ca 0 hda hdb la lb w (.inl ra) (.inr rfl) (fun k hk w => index_row ba _ ca k hk w) (fun k hk => by simp at hk)
  · exact bigMul_gen (some ⟨ba, 0, none⟩) (some ⟨bb, 0, none⟩) ba bb a b ca cb hda hdb la lb w (.inl ra) (.inl rb) (fun k hk w => index_row ba _ ca k hk w) (fun k hk w => index_row bb _ cb k hk w)
theorem mul_dn {w : World} {u v : Value} {m n : Nat} (lm : m < 1000000 ^ 50) (ln : n < 1000000 ^ 50) (ha : Bg w u (dn m)) (hb : Bg w v (dn n)) : Calls Tryd.prog 72 #[u, v] w fun e w' => ∃ v, e = .returned v ∧ Bg w' v (dn (m * n)) ∧ Below w.heap.size w w' := by
  have := bigMul_any (dn_dg m) (dn_dg n) (Nat.le_trans (dn_len_le lm) (by decide)) (Nat.le_trans (dn_len_le ln) (by decide)) ha hb
  rw [dv_dn, dv_dn] at this
  exact this
end Go.Proofs.YtgjjgicojedefaaDoor
