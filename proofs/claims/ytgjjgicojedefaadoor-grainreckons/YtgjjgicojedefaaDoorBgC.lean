/-
  mercatorref1.BigAdd.
-/
import Derived.Test.YtgjjgicojedefaaDoorBgB
namespace Go.Proofs.YtgjjgicojedefaaDoor
open Go.RowKit BG

theorem take_dv {l : List Nat} (i : Nat) : dv (l.take (i + 1)) = dv (l.take i) + 1000000 ^ i * l.getD i 0 := by
  by_cases h : i < l.length
  · rw [List.take_succ_eq_append_getElem h, dv_snoc, List.length_take, Nat.min_eq_left (Nat.le_of_lt h)]
    simp [List.getD, h]
  · rw [List.take_of_length_le (by omega), List.take_of_length_le (by omega)]
    simp [List.getD, Nat.not_lt.1 h]
/-- A round of adding. -/
theorem add_round {a b o : List Nat} {i c : Nat} (hi : o.length = i) (h : dv o + 1000000 ^ i * c = dv (a.take i) + dv (b.take i)) : dv (o ++ [(c + a.getD i 0 + b.getD i 0) % 1000000]) + 1000000 ^ (i + 1) * ((c + a.getD i 0 + b.getD i 0) / 1000000) = dv (a.take (i + 1)) + dv (b.take (i + 1)) := by
  rw [take_dv, take_dv, dv_snoc, hi]
  generalize a.getD i 0 = x
  generalize b.getD i 0 = y
  generalize dv (a.take i) = A at *
  generalize dv (b.take i) = B at *
  generalize dv o = O at *
  have e : 1000000 ^ i * ((c + x + y) % 1000000) + 1000000 ^ (i + 1) * ((c + x + y) / 1000000) = 1000000 ^ i * (c + x + y) := by
    rw [Nat.pow_succ, Nat.mul_assoc, ← Nat.mul_add]; congr 1; omega
  rw [Nat.mul_add, Nat.mul_add] at e
  omega
theorem add_end {a b o : List Nat} {i : Nat} (ha : a.length ≤ i) (hb : b.length ≤ i) (h : dv o + 1000000 ^ i * 0 = dv (a.take i) + dv (b.take i)) : dv o = dv a + dv b := by
  rw [List.take_of_length_le ha, List.take_of_length_le hb] at h; omega
set_option maxHeartbeats 4000000 in
theorem bigAdd_gen (ad bd : Option Addr) (ba bb : Nat) (a b : List Nat) (ca cb : Nat) (hda : Dg a) (hdb : Dg b) (la : a.length ≤ 400) (lb : b.length ≤ 400) (w : World) (ra : Row w ba a ∨ a = []) (rb : Row w bb b ∨ b = [])
    (ia : ∀ k : Nat, k < a.length → ∀ w, (Instr.indexAt 36 (.slice ad a.length ca) (.int .i64 k)).run Tryd.prog w = .ok (.pointer (some ⟨ba, k, none⟩)) w)
    (ib : ∀ k : Nat, k < b.length → ∀ w, (Instr.indexAt 36 (.slice bd b.length cb) (.int .i64 k)).run Tryd.prog w = .ok (.pointer (some ⟨bb, k, none⟩)) w) :
    Calls Tryd.prog 67 #[.slice ad a.length ca, .slice bd b.length cb] w fun e w' => ∃ v, e = .returned v ∧ Bg w' v (dn (dv a + dv b)) ∧ Below w.heap.size w w' := by
  have HA := hidb hda
  have HB := hidb hdb
  have RA := hidb ra
  have RB := hidb rb
  have IA := hidb ia
  have IB := hidb ib
  clear hda hdb ra rb ia ib
  obtain ⟨i0, hi, hz0, hz1, hz2⟩ := info_parts infoI
  go_enter Tryd.func67, Tryd.ntmps67
  go_wp2
  go_loopw [5, 6, 7] (fun v s t wr => ∃ (c i : Nat) (o : List Nat), c ≤ 1 ∧ i ≤ 401 ∧ (400 < i → c = 0) ∧ Hid (o.length = i ∧ Dg o ∧ dv o + 1000000 ^ i * c = dv (a.take i) + dv (b.take i)) ∧ s = .int .i64 c ∧ t = .int .i64 i ∧ wr.ownsRow w.heap.size 3 1 v o.length (vs o) ∧ Below w.heap.size w wr) (fun _ s t _ => 2 * (1000 - (intOf t).toNat) + (intOf s).toNat)
  case atStart => exact ⟨0, 0, [], by omega, by omega, by omega, ⟨rfl, fun _ h => by (cases h), by simp [dv]⟩, rfl, rfl, World.ownsRow_nil _ _ _ _, Below.refl _ _⟩
  case round =>
    obtain ⟨c, i, o, hc, hi4, hic, HO, rfl, rfl, hown, hB⟩ := hrel
    by_cases h1 : i < a.length <;> by_cases h2 : i < b.length
    · have hic2 : i < 400 := by omega
      have ea : a.getD i 0 = a[i] := by simp [List.getD, h1]
      have xa := HA.out.get h1
      have na : a ≠ [] := by intro e; rw [e] at h1; simp at h1
      have ca' := (RA.out.resolve_right na).below hB
      have cella := ca'.1 i h1
      have ixa := IA.out i h1
      have eb : b.getD i 0 = b[i] := by simp [List.getD, h2]
      have xb := HB.out.get h2
      have nb : b ≠ [] := by intro e; rw [e] at h2; simp at h2
      have cb' := (RB.out.resolve_right nb).below hB
      have cellb := cb'.1 i h2
      have ixb := IB.out i h2
      have HR := hidb (add_round HO.out.1 HO.out.2.2)
      rw [ea, eb] at HR
      have HL := hidb HO.out.1
      have HD := hidb HO.out.2.1
      clear HO ea eb IA IB RA RB na ca' nb cb'
      generalize a[i] = x at *
      generalize b[i] = y at *
      have em : ((c : Int) + (x : Int) + (y : Int)).tmod 1000000 = (((c + x + y) % 1000000 : Nat) : Int) := by rw [Int.tmod_eq_emod_of_nonneg (by omega)]; omega
      have eq : ((c : Int) + (x : Int) + (y : Int)).tdiv 1000000 = (((c + x + y) / 1000000 : Nat) : Int) := by rw [Int.tdiv_eq_ediv_of_nonneg (by omega)]; omega
      obtain ⟨d, hd⟩ : ∃ d, d = (c + x + y) % 1000000 := ⟨_, rfl⟩
      obtain ⟨q, hq⟩ : ∃ q, q = (c + x + y) / 1000000 := ⟨_, rfl⟩
      rw [← hd] at em
      rw [← hq] at eq
      rw [← hd, ← hq] at HR
      have hd1 : d < 1000000 := by omega
      have hq1 : q ≤ 1 := by omega
      clear hd
      go_wp2_with (at_builtin; refine wpList_append_own _ rfl _ _ 36 rfl w.heap.size 3 i0 (.int .i64 0) 1 8 undB hi hz0 hz1 hz2 rfl (by decide) _ _ _ rfl (hown.alloc _) ⟨wr.heap.size, 0, none⟩ 1 1 [.int .i64 d] rfl rfl ?c1 ?c2 ?c3 ?c4 ?c5 ?_)
      case c1 => intro j u hj; exact news1 hj (by simp [go_sem, Addr.add])
      case c2 => intro u hu; simp at hu; subst hu; rfl
      case c3 => have := HL.out; unfold maxLen; omega
      case c4 => have := HL.out; omega
      case c5 => have := hB.size; simp; omega
      intro v' w1 hown' hgrow _
      have hB1 : Below w.heap.size w w1 := (hB.alloc hB.size _).grown hgrow (by have := hB.size; simp; omega) (fun k hk => (hown.lt k hk).1)
      rw [vs_snoc] at hown'
      clear hgrow hown hB
      go_wp2
      go_roundw
      case rel => exact ⟨q, i + 1, o ++ [d], hq1, by omega, by omega, ⟨by simp [HL.out], HD.out.snoc hd1, HR.out⟩, by go_num, by go_num, by simpa using hown', hB1⟩
      case measure => simp [intOf]; omega
    · have hic2 : i < 400 := by omega
      have ea : a.getD i 0 = a[i] := by simp [List.getD, h1]
      have xa := HA.out.get h1
      have na : a ≠ [] := by intro e; rw [e] at h1; simp at h1
      have ca' := (RA.out.resolve_right na).below hB
      have cella := ca'.1 i h1
      have ixa := IA.out i h1
      have eb : b.getD i 0 = 0 := by simp [List.getD, Nat.not_lt.1 h2]
      have HR := hidb (add_round HO.out.1 HO.out.2.2)
      rw [ea, eb] at HR
      have HL := hidb HO.out.1
      have HD := hidb HO.out.2.1
      clear HO ea eb IA IB RA RB na ca'
      generalize a[i] = x at *
      have em : ((c : Int) + (x : Int)).tmod 1000000 = (((c + x + 0) % 1000000 : Nat) : Int) := by rw [Int.tmod_eq_emod_of_nonneg (by omega)]; omega
      have eq : ((c : Int) + (x : Int)).tdiv 1000000 = (((c + x + 0) / 1000000 : Nat) : Int) := by rw [Int.tdiv_eq_ediv_of_nonneg (by omega)]; omega
      obtain ⟨d, hd⟩ : ∃ d, d = (c + x + 0) % 1000000 := ⟨_, rfl⟩
      obtain ⟨q, hq⟩ : ∃ q, q = (c + x + 0) / 1000000 := ⟨_, rfl⟩
      rw [← hd] at em
      rw [← hq] at eq
      rw [← hd, ← hq] at HR
      have hd1 : d < 1000000 := by omega
      have hq1 : q ≤ 1 := by omega
      clear hd
      go_wp2_with (at_builtin; refine wpList_append_own _ rfl _ _ 36 rfl w.heap.size 3 i0 (.int .i64 0) 1 8 undB hi hz0 hz1 hz2 rfl (by decide) _ _ _ rfl (hown.alloc _) ⟨wr.heap.size, 0, none⟩ 1 1 [.int .i64 d] rfl rfl ?c1 ?c2 ?c3 ?c4 ?c5 ?_)
      case c1 => intro j u hj; exact news1 hj (by simp [go_sem, Addr.add])
      case c2 => intro u hu; simp at hu; subst hu; rfl
      case c3 => have := HL.out; unfold maxLen; omega
      case c4 => have := HL.out; omega
      case c5 => have := hB.size; simp; omega
      intro v' w1 hown' hgrow _
      have hB1 : Below w.heap.size w w1 := (hB.alloc hB.size _).grown hgrow (by have := hB.size; simp; omega) (fun k hk => (hown.lt k hk).1)
      rw [vs_snoc] at hown'
      clear hgrow hown hB
      go_wp2
      go_roundw
      case rel => exact ⟨q, i + 1, o ++ [d], hq1, by omega, by omega, ⟨by simp [HL.out], HD.out.snoc hd1, HR.out⟩, by go_num, by go_num, by simpa using hown', hB1⟩
      case measure => simp [intOf]; omega
    · have hic2 : i < 400 := by omega
      have ea : a.getD i 0 = 0 := by simp [List.getD, Nat.not_lt.1 h1]
      have eb : b.getD i 0 = b[i] := by simp [List.getD, h2]
      have xb := HB.out.get h2
      have nb : b ≠ [] := by intro e; rw [e] at h2; simp at h2
      have cb' := (RB.out.resolve_right nb).below hB
      have cellb := cb'.1 i h2
      have ixb := IB.out i h2
      have HR := hidb (add_round HO.out.1 HO.out.2.2)
      rw [ea, eb] at HR
      have HL := hidb HO.out.1
      have HD := hidb HO.out.2.1
      clear HO ea eb IA IB RA RB nb cb'
      generalize b[i] = y at *
      have em : ((c : Int) + (y : Int)).tmod 1000000 = (((c + 0 + y) % 1000000 : Nat) : Int) := by rw [Int.tmod_eq_emod_of_nonneg (by omega)]; omega
      have eq : ((c : Int) + (y : Int)).tdiv 1000000 = (((c + 0 + y) / 1000000 : Nat) : Int) := by rw [Int.tdiv_eq_ediv_of_nonneg (by omega)]; omega
      obtain ⟨d, hd⟩ : ∃ d, d = (c + 0 + y) % 1000000 := ⟨_, rfl⟩
      obtain ⟨q, hq⟩ : ∃ q, q = (c + 0 + y) / 1000000 := ⟨_, rfl⟩
      rw [← hd] at em
      rw [← hq] at eq
      rw [← hd, ← hq] at HR
      have hd1 : d < 1000000 := by omega
      have hq1 : q ≤ 1 := by omega
      clear hd
      go_wp2_with (at_builtin; refine wpList_append_own _ rfl _ _ 36 rfl w.heap.size 3 i0 (.int .i64 0) 1 8 undB hi hz0 hz1 hz2 rfl (by decide) _ _ _ rfl (hown.alloc _) ⟨wr.heap.size, 0, none⟩ 1 1 [.int .i64 d] rfl rfl ?c1 ?c2 ?c3 ?c4 ?c5 ?_)
      case c1 => intro j u hj; exact news1 hj (by simp [go_sem, Addr.add])
      case c2 => intro u hu; simp at hu; subst hu; rfl
      case c3 => have := HL.out; unfold maxLen; omega
      case c4 => have := HL.out; omega
      case c5 => have := hB.size; simp; omega
      intro v' w1 hown' hgrow _
      have hB1 : Below w.heap.size w w1 := (hB.alloc hB.size _).grown hgrow (by have := hB.size; simp; omega) (fun k hk => (hown.lt k hk).1)
      rw [vs_snoc] at hown'
      clear hgrow hown hB
      go_wp2
      go_roundw
      case rel => exact ⟨q, i + 1, o ++ [d], hq1, by omega, by omega, ⟨by simp [HL.out], HD.out.snoc hd1, HR.out⟩, by go_num, by go_num, by simpa using hown', hB1⟩
      case measure => simp [intOf]; omega
    · by_cases h3 : c = 0
      · subst h3
        have HE := hidb (add_end (Nat.not_lt.1 h1) (Nat.not_lt.1 h2) HO.out.2.2)
        have HD := hidb HO.out.2.1
        have HG := hidb (own_bg hown).1
        clear IA IB RA RB HO HA HB
        go_wp2_with fail
        refine (trimmed_bg HD.out HG.out).mono ?_
        rintro e w2 ⟨v', rfl, hv, rfl⟩
        rw [HE.out] at hv
        go_wp2
        go_ret
        exact ⟨_, rfl, hv, hB⟩
      obtain rfl : c = 1 := by omega
      have hic2 : i ≤ 400 := by omega
      have ea : a.getD i 0 = 0 := by simp [List.getD, Nat.not_lt.1 h1]
      have eb : b.getD i 0 = 0 := by simp [List.getD, Nat.not_lt.1 h2]
      have HR := hidb (add_round HO.out.1 HO.out.2.2)
      rw [ea, eb] at HR
      have HL := hidb HO.out.1
      have HD := hidb HO.out.2.1
      clear HO ea eb IA IB RA RB HA HB
      go_wp2_with (at_builtin; refine wpList_append_own _ rfl _ _ 36 rfl w.heap.size 3 i0 (.int .i64 0) 1 8 undB hi hz0 hz1 hz2 rfl (by decide) _ _ _ rfl (hown.alloc _) ⟨wr.heap.size, 0, none⟩ 1 1 [.int .i64 ((1 : Nat) : Int)] rfl rfl ?c1 ?c2 ?c3 ?c4 ?c5 ?_)
      case c1 => intro j u hj; exact news1 hj (by simp [go_sem, Addr.add])
      case c2 => intro u hu; simp at hu; subst hu; rfl
      case c3 => have := HL.out; unfold maxLen; omega
      case c4 => have := HL.out; omega
      case c5 => have := hB.size; simp; omega
      intro v' w1 hown' hgrow _
      have hB1 : Below w.heap.size w w1 := (hB.alloc hB.size _).grown hgrow (by have := hB.size; simp; omega) (fun k hk => (hown.lt k hk).1)
      clear hgrow hown hB
      go_wp2
      go_roundw
      case rel => exact ⟨0, i + 1, o ++ [1], by omega, by omega, by omega, ⟨by simp [HL.out], HD.out.snoc (by omega), HR.out⟩, by go_num, by go_num, by simpa [vs] using hown', hB1⟩
      case measure => simp [intOf]; omega
theorem index_row (b n cap k : Nat) (hk : k < n) (w : World) : (Instr.indexAt 36 (.slice (some ⟨b, 0, none⟩) n cap) (.int .i64 k)).run Tryd.prog w = .ok (.pointer (some ⟨b, k, none⟩)) w := by
  refine (run_indexAt_slice (P := Tryd.prog) (w := w) 36 ⟨b, 0, none⟩ n cap .i64 (k : Int) (by kernel_rfl)).trans ?_
  rw [if_pos ⟨by omega, by omega⟩]
  have hs : (sizeOf (Tryd.prog.elem 36)).run Tryd.prog w = .ok 1 w := by kernel_rfl
  rw [hs]
  simp [Addr.add]
  intro h; exact h.symm
theorem bigAdd_any {w : World} {u v : Value} {a b : List Nat} (hda : Dg a) (hdb : Dg b) (la : a.length ≤ 400) (lb : b.length ≤ 400) (ha : Bg w u a) (hb : Bg w v b) : Calls Tryd.prog 67 #[u, v] w fun e w' => ∃ v, e = .returned v ∧ Bg w' v (dn (dv a + dv b)) ∧ Below w.heap.size w w' := by
  rcases ha with ⟨rfl, rfl⟩ | ⟨ba, ca, rfl, _, _, ra⟩ <;> rcases hb with ⟨rfl, rfl⟩ | ⟨bb, cb, rfl, _, _, rb⟩
  · exact bigAdd_gen none none 0 0 [] [] 0 0 hda hdb la lb w (.inr rfl) (.inr rfl) (fun k hk => by simp at hk) (fun k hk => by simp at hk)
  · exact bigAdd_gen none (some ⟨bb, 0, none⟩) 0 bb [] b 0 cb hda hdb la lb w (.inr rfl) (.inl rb) (fun k hk => by simp at hk) (fun k hk w => index_row bb _ cb k hk w)
  · exact bigAdd_gen (some ⟨ba, 0, none⟩) none ba 0 a [] ca 0 hda hdb la lb w (.inl ra) (.inr rfl) (fun k hk w => index_row ba _ ca k hk w) (fun k hk => by simp at hk)
  · exact bigAdd_gen (some ⟨ba, 0, none⟩) (some ⟨bb, 0, none⟩) ba bb a b ca cb hda hdb la lb w (.inl ra) (.inl rb) (fun k hk w => index_row ba _ ca k hk w) (fun k hk w => index_row bb _ cb k hk w)
end Go.Proofs.YtgjjgicojedefaaDoor
