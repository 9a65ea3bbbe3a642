/-
  mercatorref1.BigSub.
-/
import Derived.Test.YtgjjgicojedefaaDoorBgC
namespace Go.Proofs.YtgjjgicojedefaaDoor
open Go.RowKit BG

/-- A round of taking off: nothing borrowed, something borrowed. -/
theorem sub_round0 {a b o : List Nat} {i c d : Nat} (hi : o.length = i) (hd : d + c + b.getD i 0 = a.getD i 0) (h : dv o + dv (b.take i) = dv (a.take i) + 1000000 ^ i * c) : dv (o ++ [d]) + dv (b.take (i + 1)) = dv (a.take (i + 1)) + 1000000 ^ (i + 1) * 0 := by
  rw [take_dv, take_dv, dv_snoc, hi, ← hd, Nat.mul_add, Nat.mul_add]
  omega
theorem sub_round1 {a b o : List Nat} {i c d : Nat} (hi : o.length = i) (hd : d + c + b.getD i 0 = a.getD i 0 + 1000000) (h : dv o + dv (b.take i) = dv (a.take i) + 1000000 ^ i * c) : dv (o ++ [d]) + dv (b.take (i + 1)) = dv (a.take (i + 1)) + 1000000 ^ (i + 1) * 1 := by
  rw [take_dv, take_dv, dv_snoc, hi, Nat.pow_succ]
  have e := congrArg (1000000 ^ i * ·) hd
  simp only [Nat.mul_add] at e
  omega
theorem sub_end {a b o : List Nat} {c : Nat} (hD : Dg o) (hl : o.length = a.length) (hb : b.length ≤ a.length) (hab : dv b ≤ dv a) (h : dv o + dv (b.take a.length) = dv (a.take a.length) + 1000000 ^ a.length * c) : dv o = dv a - dv b := by
  rw [List.take_of_length_le hb, List.take_of_length_le (Nat.le_refl _)] at h
  have h1 := dv_lt hD
  rw [hl] at h1
  rcases Nat.eq_zero_or_pos c with rfl | hc
  · omega
  · have : 1000000 ^ a.length * 1 ≤ 1000000 ^ a.length * c := Nat.mul_le_mul_left _ hc
    omega
set_option maxRecDepth 4000 in
set_option maxHeartbeats 4000000 in
theorem bigSub_gen (ad bd : Option Addr) (ba bb : Nat) (a b : List Nat) (ca cb : Nat) (hda : Dg a) (hdb : Dg b) (la : a.length ≤ 400) (hlen : b.length ≤ a.length) (hab : dv b ≤ dv a) (w : World) (ra : Row w ba a ∨ a = []) (rb : Row w bb b ∨ b = [])
    (ia : ∀ k : Nat, k < a.length → ∀ w, (Instr.indexAt 36 (.slice ad a.length ca) (.int .i64 k)).run Tryd.prog w = .ok (.pointer (some ⟨ba, k, none⟩)) w)
    (ib : ∀ k : Nat, k < b.length → ∀ w, (Instr.indexAt 36 (.slice bd b.length cb) (.int .i64 k)).run Tryd.prog w = .ok (.pointer (some ⟨bb, k, none⟩)) w) :
    Calls Tryd.prog 68 #[.slice ad a.length ca, .slice bd b.length cb] w fun e w' => ∃ v, e = .returned v ∧ Bg w' v (dn (dv a - dv b)) ∧ Below w.heap.size w w' := by
  have HA := hidb hda
  have HB := hidb hdb
  have RA := hidb ra
  have RB := hidb rb
  have IA := hidb ia
  have IB := hidb ib
  have HAB := hidb hab
  clear ib ia rb ra hda hdb hab
  obtain ⟨i0, hi, hz0, hz1, hz2⟩ := info_parts infoI
  go_enter Tryd.func68, Tryd.ntmps68
  go_wp2
  go_loopw [5, 6, 7] (fun v s t wr => ∃ (c i : Nat) (o : List Nat), c ≤ 1 ∧ i ≤ a.length ∧ Hid (o.length = i ∧ Dg o ∧ dv o + dv (b.take i) = dv (a.take i) + 1000000 ^ i * c) ∧ s = .int .i64 c ∧ t = .int .i64 i ∧ wr.ownsRow w.heap.size 3 1 v o.length (vs o) ∧ Below w.heap.size w wr) (fun _ _ t _ => a.length - (intOf t).toNat)
  case atStart => exact ⟨0, 0, [], by omega, by omega, ⟨rfl, fun _ h => by (cases h), by simp [dv]⟩, rfl, rfl, World.ownsRow_nil _ _ _ _, Below.refl _ _⟩
  case round =>
    obtain ⟨c, i, o, hc, hi4, HO, rfl, rfl, hown, hB⟩ := hrel
    by_cases h1 : i < a.length
    · have ea : a.getD i 0 = a[i] := by simp [List.getD, h1]
      have xa := HA.out.get h1
      have na : a ≠ [] := by intro e; rw [e] at h1; simp at h1
      have ca' := (RA.out.resolve_right na).below hB
      have cella := ca'.1 i h1
      have ixa := IA.out i h1
      have HL := hidb HO.out.1
      have HD := hidb HO.out.2.1
      by_cases h2 : i < b.length
      · have hx2 : True := trivial
        have eb : b.getD i 0 = b[i] := by simp [List.getD, h2]
        have xb := HB.out.get h2
        have nb : b ≠ [] := by intro e; rw [e] at h2; simp at h2
        have cb' := (RB.out.resolve_right nb).below hB
        have cellb := cb'.1 i h2
        have ixb := IB.out i h2
        generalize a[i] = x at *
        generalize b[i] = y at *
        by_cases h3 : x < c + y
        · clear hx2
          obtain ⟨d, hd⟩ : ∃ d : Nat, d + c + y = x + 1000000 := ⟨x + 1000000 - c - y, by omega⟩
          have HR := hidb (sub_round1 (d := d) HO.out.1 (by rw [ea, eb]; exact hd) HO.out.2.2)
          have hd1 : d < 1000000 := by omega
          have tn : (x : Int) - (c : Int) - (y : Int) < 0 := by omega
          have es : (x : Int) - (c : Int) - (y : Int) + 1000000 = (d : Int) := by omega
          clear HO ea eb IA IB RA RB na ca' nb cb' HA HB HAB hd h3
          go_wp2_with (at_builtin; refine wpList_append_own _ rfl _ _ 36 rfl w.heap.size 3 i0 (.int .i64 0) 1 8 undB hi hz0 hz1 hz2 rfl (by decide) _ _ _ rfl (hown.alloc _) ⟨wr.heap.size, 0, none⟩ 1 1 [.int .i64 d] rfl rfl (fun j u hj => news1 hj (by simp [go_sem, Addr.add])) (fun u hu => by simp at hu; subst hu; rfl) (by have := HL.out; unfold maxLen; omega) (by have := HL.out; omega) (by have := hB.size; simp; omega) ?_)
          intro v' w1 hown' hgrow _
          have hB1 : Below w.heap.size w w1 := (hB.alloc hB.size _).grown hgrow (by have := hB.size; simp; omega) (fun k hk => (hown.lt k hk).1)
          rw [vs_snoc] at hown'
          clear hgrow hown hB
          go_wp2
          go_roundw
          case rel => exact ⟨1, i + 1, o ++ [d], by omega, by omega, ⟨by simp [HL.out], HD.out.snoc hd1, HR.out⟩, by go_num, by go_num, by simpa using hown', hB1⟩
          case measure => simp [intOf]; omega
        · clear hx2
          obtain ⟨d, hd⟩ : ∃ d : Nat, d + c + y = x := ⟨x - c - y, by omega⟩
          have HR := hidb (sub_round0 (d := d) HO.out.1 (by rw [ea, eb]; exact hd) HO.out.2.2)
          have hd1 : d < 1000000 := by omega
          have es : (x : Int) - (c : Int) - (y : Int) = (d : Int) := by omega
          have tn : ¬ (d : Int) < 0 := by omega
          clear HO ea eb IA IB RA RB na ca' nb cb' HA HB HAB hd h3
          go_wp2_with (at_builtin; refine wpList_append_own _ rfl _ _ 36 rfl w.heap.size 3 i0 (.int .i64 0) 1 8 undB hi hz0 hz1 hz2 rfl (by decide) _ _ _ rfl (hown.alloc _) ⟨wr.heap.size, 0, none⟩ 1 1 [.int .i64 d] rfl rfl (fun j u hj => news1 hj (by simp [go_sem, Addr.add])) (fun u hu => by simp at hu; subst hu; rfl) (by have := HL.out; unfold maxLen; omega) (by have := HL.out; omega) (by have := hB.size; simp; omega) ?_)
          intro v' w1 hown' hgrow _
          have hB1 : Below w.heap.size w w1 := (hB.alloc hB.size _).grown hgrow (by have := hB.size; simp; omega) (fun k hk => (hown.lt k hk).1)
          rw [vs_snoc] at hown'
          clear hgrow hown hB
          go_wp2
          go_roundw
          case rel => exact ⟨0, i + 1, o ++ [d], by omega, by omega, ⟨by simp [HL.out], HD.out.snoc hd1, HR.out⟩, by go_num, by go_num, by simpa using hown', hB1⟩
          case measure => simp [intOf]; omega
      · have hx2 : True := trivial
        have eb : b.getD i 0 = 0 := by simp [List.getD, Nat.not_lt.1 h2]
        generalize a[i] = x at *
        by_cases h3 : x < c + 0
        · clear hx2
          obtain ⟨d, hd⟩ : ∃ d : Nat, d + c + 0 = x + 1000000 := ⟨x + 1000000 - c - 0, by omega⟩
          have HR := hidb (sub_round1 (d := d) HO.out.1 (by rw [ea, eb]; exact hd) HO.out.2.2)
          have hd1 : d < 1000000 := by omega
          have tn : (x : Int) - (c : Int) < 0 := by omega
          have es : (x : Int) - (c : Int) + 1000000 = (d : Int) := by omega
          clear HO ea eb IA IB RA RB na ca' HA HB HAB hd h3
          go_wp2_with (at_builtin; refine wpList_append_own _ rfl _ _ 36 rfl w.heap.size 3 i0 (.int .i64 0) 1 8 undB hi hz0 hz1 hz2 rfl (by decide) _ _ _ rfl (hown.alloc _) ⟨wr.heap.size, 0, none⟩ 1 1 [.int .i64 d] rfl rfl (fun j u hj => news1 hj (by simp [go_sem, Addr.add])) (fun u hu => by simp at hu; subst hu; rfl) (by have := HL.out; unfold maxLen; omega) (by have := HL.out; omega) (by have := hB.size; simp; omega) ?_)
          intro v' w1 hown' hgrow _
          have hB1 : Below w.heap.size w w1 := (hB.alloc hB.size _).grown hgrow (by have := hB.size; simp; omega) (fun k hk => (hown.lt k hk).1)
          rw [vs_snoc] at hown'
          clear hgrow hown hB
          go_wp2
          go_roundw
          case rel => exact ⟨1, i + 1, o ++ [d], by omega, by omega, ⟨by simp [HL.out], HD.out.snoc hd1, HR.out⟩, by go_num, by go_num, by simpa using hown', hB1⟩
          case measure => simp [intOf]; omega
        · clear hx2
          obtain ⟨d, hd⟩ : ∃ d : Nat, d + c + 0 = x := ⟨x - c - 0, by omega⟩
          have HR := hidb (sub_round0 (d := d) HO.out.1 (by rw [ea, eb]; exact hd) HO.out.2.2)
          have hd1 : d < 1000000 := by omega
          have es : (x : Int) - (c : Int) = (d : Int) := by omega
          have tn : ¬ (d : Int) < 0 := by omega
          clear HO ea eb IA IB RA RB na ca' HA HB HAB hd h3
          go_wp2_with (at_builtin; refine wpList_append_own _ rfl _ _ 36 rfl w.heap.size 3 i0 (.int .i64 0) 1 8 undB hi hz0 hz1 hz2 rfl (by decide) _ _ _ rfl (hown.alloc _) ⟨wr.heap.size, 0, none⟩ 1 1 [.int .i64 d] rfl rfl (fun j u hj => news1 hj (by simp [go_sem, Addr.add])) (fun u hu => by simp at hu; subst hu; rfl) (by have := HL.out; unfold maxLen; omega) (by have := HL.out; omega) (by have := hB.size; simp; omega) ?_)
          intro v' w1 hown' hgrow _
          have hB1 : Below w.heap.size w w1 := (hB.alloc hB.size _).grown hgrow (by have := hB.size; simp; omega) (fun k hk => (hown.lt k hk).1)
          rw [vs_snoc] at hown'
          clear hgrow hown hB
          go_wp2
          go_roundw
          case rel => exact ⟨0, i + 1, o ++ [d], by omega, by omega, ⟨by simp [HL.out], HD.out.snoc hd1, HR.out⟩, by go_num, by go_num, by simpa using hown', hB1⟩
          case measure => simp [intOf]; omega
    · obtain rfl : i = a.length := by omega
      have HE := hidb (sub_end HO.out.2.1 HO.out.1 hlen HAB.out HO.out.2.2)
      have HD := hidb HO.out.2.1
      have HG := hidb (own_bg hown).1
      clear IA IB RA RB HO HA HB HAB
      go_wp2_with fail
      refine (trimmed_bg HD.out HG.out).mono ?_
      rintro e w2 ⟨v', rfl, hv, rfl⟩
      rw [HE.out] at hv
      go_wp2
      go_ret
      exact ⟨_, rfl, hv, hB⟩
theorem bigSub_any {w : World} {u v : Value} {a b : List Nat} (hda : Dg a) (hdb : Dg b) (la : a.length ≤ 400) (hlen : b.length ≤ a.length) (hab : dv b ≤ dv a) (ha : Bg w u a) (hb : Bg w v b) : Calls Tryd.prog 68 #[u, v] w fun e w' => ∃ v, e = .returned v ∧ Bg w' v (dn (dv a - dv b)) ∧ Below w.heap.size w w' := by
  rcases ha with ⟨rfl, rfl⟩ | ⟨ba, ca, rfl, _, _, ra⟩ <;> rcases hb with ⟨rfl, rfl⟩ | ⟨bb, cb, rfl, _, _, rb⟩
  · exact bigSub_gen none none 0 0 [] [] 0 0 hda hdb la hlen hab w (.inr rfl) (.inr rfl) (fun k hk => by simp at hk) (fun k hk => by simp at hk)
  · exact bigSub_gen none (some ⟨bb, 0, none⟩) 0 bb [] b 0 cb hda hdb la hlen hab w (.inr rfl) (.inl rb) (fun k hk => by simp at hk) (fun k hk w => index_row bb _ cb k hk w)
  · exact bigSub_gen (some ⟨ba, 0, none⟩) none ba 0 a [] ca 0 hda hdb la hlen hab w (.inl ra) (.inr rfl) (fun k hk w => index_row ba _ ca k hk w) (fun k hk => by simp at hk)
  · exact bigSub_gen (some ⟨ba, 0, none⟩) (some ⟨bb, 0, none⟩) ba bb a b ca cb hda hdb la hlen hab w (.inl ra) (.inl rb) (fun k hk w => index_row ba _ ca k hk w) (fun k hk w => index_row bb _ cb k hk w)
end Go.Proofs.YtgjjgicojedefaaDoor
