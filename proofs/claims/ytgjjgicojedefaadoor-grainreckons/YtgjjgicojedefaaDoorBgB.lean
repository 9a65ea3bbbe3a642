/-
  Rows of digits that a call makes; mercatorref1.BigOf.
-/
import Derived.Test.YtgjjgicojedefaaDoorBgA
namespace Go.Proofs.YtgjjgicojedefaaDoor
open Go.RowKit BG

/-- The digits as values. -/
abbrev vs (l : List Nat) : List Value := l.map fun d => Value.int .i64 ((d : Nat) : Int)
theorem infoI : (Tryd.prog.info? 3).map (fun i => (i.zero, i.size, i.bytes)) = some (some (.int .i64 0), 1, 8) := by kernel_rfl
theorem undB : Tryd.prog.underlying 36 = some (.slice 3) := by kernel_rfl
theorem vs_snoc (l : List Nat) (d : Nat) : vs l ++ [Value.int .i64 ((d : Nat) : Int)] = vs (l ++ [d]) := by simp [vs]
/-- A row of the call's own, read. -/
theorem own_bg {w : World} {base : Nat} {v : Value} {n : Nat} {l : List Nat} (h : w.ownsRow base 3 1 v n (vs l)) : Bg w v l ∧ n = l.length ∧ (v = .slice none 0 0 ∨ ∃ b cap, v = .slice (some ⟨b, 0, none⟩) l.length cap ∧ base ≤ b) := by
  have hn : n = l.length := by have := h.1; simp [vs] at this; omega
  subst hn
  obtain ⟨h1, h | ⟨g, cap, cur, hv, hb, hg, hc, hm, hs, ht⟩⟩ := h
  · obtain ⟨rfl, h0⟩ := h
    exact ⟨.inl ⟨rfl, List.eq_nil_of_length_eq_zero h0⟩, rfl, .inl rfl⟩
  · refine ⟨.inr ⟨g, cap, hv, hc, hm, ?_, ?_⟩, rfl, .inr ⟨g, cap, hv, hb⟩⟩
    · intro i hi
      have e : cur.toList[i]? = some (.int .i64 ((l[i] : Nat) : Int)) := by
        have : (cur.toList.take (l.length * 1))[i]? = (vs l)[i]? := by rw [ht]
        rw [List.getElem?_take] at this
        rw [if_pos (by omega)] at this
        rw [this]
        simp [vs, hi]
      have hlt : g < w.heap.size := by
        rcases Nat.lt_or_ge g w.heap.size with c | c
        · exact c
        · rw [Array.getElem?_eq_none c] at hg; cases hg
      simp [World.cell?, hg]
      simpa using e
    · rcases Nat.lt_or_ge g w.heap.size with c | c
      · exact c
      · rw [Array.getElem?_eq_none c] at hg; cases hg
theorem news1 {w : World} {ad : Addr} {x : Value} {j : Nat} {u : Value} (hj : ([x] : List Value)[j]? = some u) (h : w.cell? (ad.add 0) = some x) : w.cell? (ad.add j) = some u := by
  rcases j with _ | j
  · simp at hj; rw [← hj]; exact h
  · simp at hj
theorem own_below {W w w' : World} {v : Value} {n : Nat} {l : List Value} (hB : Below W.heap.size W w) (h : w.ownsRow W.heap.size 3 1 v n l) (hg : (w.alloc (.cells #[.int .i64 0] 3)).grownBy w' v.ownBlock) : Below W.heap.size W w' :=
  (hB.alloc hB.size _).grown hg (by have := hB.size; simp; omega) (fun k hk => (h.lt k hk).1)
set_option maxHeartbeats 2000000 in
theorem bigOf_any (n : Nat) (hn : n < 9223372036854775808) (w : World) : Calls Tryd.prog 39 #[.int .i64 n] w fun e w' => ∃ v, e = .returned v ∧ Bg w' v (dn n) ∧ Below w.heap.size w w' := by
  have HL : Hid ((dn n).length ≤ 4) := dn_len_le (by omega)
  obtain ⟨i0, hi, hz0, hz1, hz2⟩ := info_parts infoI
  go_enter Tryd.func39, Tryd.ntmps39
  go_wp2
  go_loopw [0, 3] (fun s v wr => ∃ (m : Nat) (o : List Nat), m ≤ n ∧ Hid (o ++ dn m = dn n) ∧ s = .int .i64 m ∧ wr.ownsRow w.heap.size 3 1 v o.length (vs o) ∧ Below w.heap.size w wr) (fun s _ _ => (intOf s).toNat)
  case atStart => exact ⟨n, [], Nat.le_refl _, rfl, rfl, World.ownsRow_nil _ _ _ _, Below.refl _ _⟩
  case round =>
    obtain ⟨m, o, hm, HO, rfl, hown, hB⟩ := hrel
    rcases Nat.eq_zero_or_pos m with rfl | hp
    · have HE : Hid (o = dn n) := by have := HO.out; rw [dn_zero, List.append_nil] at this; exact this
      go_wp2
      go_ret
      exact ⟨_, rfl, by rw [← HE.out]; exact (own_bg hown).1, hB⟩
    · have HO2 : Hid ((o ++ [m % 1000000]) ++ dn (m / 1000000) = dn n) := by
        show (o ++ [m % 1000000]) ++ dn (m / 1000000) = dn n
        rw [List.append_assoc, List.singleton_append, ← dn_pos (by omega)]; exact HO.out
      have HLo : Hid (o.length + 1 ≤ 4) := by
        show o.length + 1 ≤ 4
        have h1 := congrArg List.length HO2.out
        simp at h1
        have := HL.out
        omega
      have em : (m : Int).tmod 1000000 = ((m % 1000000 : Nat) : Int) := by rw [Int.tmod_eq_emod_of_nonneg (by omega)]; omega
      have eq : (m : Int).tdiv 1000000 = ((m / 1000000 : Nat) : Int) := by rw [Int.tdiv_eq_ediv_of_nonneg (by omega)]; omega
      have hp' : (0 : Int) < (m : Int) := by omega
      go_wp2_with (at_builtin; refine wpList_append_own _ rfl _ _ 36 rfl w.heap.size 3 i0 (.int .i64 0) 1 8 undB hi hz0 hz1 hz2 rfl (by decide) _ _ _ rfl (hown.alloc _) ⟨wr.heap.size, 0, none⟩ 1 1 [.int .i64 ((m % 1000000 : Nat) : Int)] rfl rfl ?c1 ?c2 ?c3 ?c4 ?c5 ?_)
      case c1 => intro j u hj; exact news1 hj (by simp [go_sem, Addr.add])
      case c2 => intro u hu; simp at hu; subst hu; rfl
      case c3 => have := HLo.out; unfold maxLen; omega
      case c4 => have := HLo.out; omega
      case c5 => have := hB.size; simp; omega
      intro v' w1 hown' hgrow _
      have hB1 : Below w.heap.size w w1 := (hB.alloc hB.size _).grown hgrow (by have := hB.size; simp; omega) (fun k hk => (hown.lt k hk).1)
      rw [show ((m : Int) % 1000000) = ((m % 1000000 : Nat) : Int) by omega, vs_snoc] at hown'
      clear hgrow hown hB
      go_wp2
      go_roundw
      case rel => exact ⟨m / 1000000, o ++ [m % 1000000], by omega, HO2, by go_num, by simpa using hown', hB1⟩
      case measure => simp [intOf]; omega
end Go.Proofs.YtgjjgicojedefaaDoor
