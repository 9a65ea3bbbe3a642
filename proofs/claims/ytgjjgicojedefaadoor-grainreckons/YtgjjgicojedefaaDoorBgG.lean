/-
  mercatorref1.BigGcd, mercatorref1.BigInt.
-/
import Derived.Test.YtgjjgicojedefaaDoorBgF
import Derived.Deep.LoopGhost
namespace Go.Proofs.YtgjjgicojedefaaDoor
open Go.RowKit BG

theorem part_dn {w : World} {u v : Value} {a b : Nat} (la : a ≤ 2 * lid) (lb : b ≤ 2 * lid) (hb : 0 < b) (ha : Bg w u (dn a)) (hv : Bg w v (dn b)) : Calls Tryd.prog 38 #[u, v] w fun e w' => ∃ q r, e = .returned (.tuple #[q, r]) ∧ Bg w' q (dn (a / b)) ∧ Bg w' r (dn (a % b)) ∧ Below w.heap.size w w' := by
  refine bigPart_any a u la a b v w ?_ hb (by omega) ha hv
  have h1 : a < 2 ^ a := Nat.lt_two_pow_self
  have h2 : 1 * 2 ^ a ≤ b * 2 ^ a := Nat.mul_le_mul_right _ hb
  omega
theorem Bg.form {w : World} {v : Value} {l : List Nat} (h : Bg w v l) : ∃ ad cap, v = .slice ad l.length cap := by
  rcases h with ⟨rfl, rfl⟩ | ⟨b, cap, rfl, _⟩
  · exact ⟨none, 0, rfl⟩
  · exact ⟨_, cap, rfl⟩
theorem gcd_step {m g : Nat} : Nat.gcd g (m % g) = Nat.gcd m g := by rw [Nat.gcd_comm g (m % g), ← Nat.gcd_rec, Nat.gcd_comm]
set_option maxRecDepth 4000 in
set_option maxHeartbeats 4000000 in
theorem bigGcd_any {w : World} {u v : Value} {a b : Nat} (la : a ≤ 2 * lid) (lb : b ≤ 2 * lid) (ha : Bg w u (dn a)) (hv : Bg w v (dn b)) : Calls Tryd.prog 37 #[u, v] w fun e w' => ∃ r, e = .returned r ∧ Bg w' r (dn (Nat.gcd a b)) ∧ Below w.heap.size w w' := by
  have HA := hidb ha
  have HV := hidb hv
  have LA := hidb la
  have LB := hidb lb
  obtain ⟨ad0, cp0, hv0⟩ := hv.form
  have HV0 := hidb hv0
  clear ha hv la lb hv0
  go_enter Tryd.func37, Tryd.ntmps37
  go_wp2
  go_loopg [0, 1] b (fun g s t wr => ∃ (m : Nat) (ad : Option Addr) (cap : Nat), Hid (m ≤ 2 * lid ∧ g ≤ 2 * lid ∧ Nat.gcd m g = Nat.gcd a b) ∧ t = .slice ad (dn g).length cap ∧ Hid (Bg wr s (dn m)) ∧ Hid (Bg wr (.slice ad (dn g).length cap) (dn g)) ∧ Below w.heap.size w wr)
  case atStart => exact ⟨a, ad0, cp0, ⟨LA.out, LB.out, rfl⟩, HV0.out, HA.out, by rw [← HV0.out]; exact HV.out, Below.refl _ _⟩
  case round =>
    obtain ⟨m, ad, cap, HG, rfl, HS, HT, hB⟩ := hrel
    rcases Nat.eq_zero_or_pos gk with h0 | h0
    · have hl : (dn gk).length = 0 := by rw [h0, dn_zero]; rfl
      have HE : Hid (m = Nat.gcd a b) := by have := HG.out.2.2; rw [h0, Nat.gcd_zero_right] at this; exact this
      rw [hl]
      go_wp2
      go_ret
      exact ⟨_, rfl, by rw [← HE.out]; exact HS.out, hB⟩
    · have hl : 0 < (dn gk).length := by
        rcases Nat.eq_zero_or_pos (dn gk).length with c | c
        · rw [dn_empty] at c; omega
        · exact c
      have HP := hidb (part_dn HG.out.1 HG.out.2.1 h0 HS.out HT.out)
      have hl' : (0 : Int) < ((dn gk).length : Int) := by omega
      have HM : Hid (m % gk < gk) := Nat.mod_lt _ h0
      go_wp2_with fail
      refine HP.out.mono ?_
      rintro e w2 ⟨q, r, rfl, hq, hr, hB2⟩
      have HR := hidb hr
      have HB2 := hidb hB2
      clear hq hr hB2
      go_wp2
      go_roundg (m % gk)
      case measure => exact HM.out
      case rel =>
        obtain ⟨ad', cap', hr'⟩ := HR.out.form
        exact ⟨gk, ad', cap', ⟨HG.out.2.1, by have := HM.out; have := HG.out.2.1; omega, by rw [gcd_step]; exact HG.out.2.2⟩, hr', HT.out.below HB2.out, by show Bg _ _ _; rw [← hr']; exact HR.out, btw hB HB2.out⟩
theorem dv_drop {l : List Nat} {j : Nat} (h : j < l.length) : dv (l.drop j) = l[j] + 1000000 * dv (l.drop (j + 1)) := by
  rw [List.drop_eq_getElem_cons h]; rfl
theorem dv_drop_le (l : List Nat) (j : Nat) : 1000000 ^ j * dv (l.drop j) ≤ dv l := by
  by_cases h : j ≤ l.length
  · have := dv_append (l.take j) (l.drop j)
    rw [List.take_append_drop, List.length_take, Nat.min_eq_left h] at this
    omega
  · rw [List.drop_of_length_le (by omega)]; simp [dv]
set_option maxRecDepth 4000 in
set_option maxHeartbeats 4000000 in
theorem bigInt_gen (ad : Option Addr) (ba : Nat) (a : List Nat) (ca : Nat) (hda : Dg a) (la : a.length ≤ 400) (hs : dv a ≤ 4611686018427387904) (w : World) (ra : Row w ba a ∨ a = [])
    (ia : ∀ k : Nat, k < a.length → ∀ w, (Instr.indexAt 36 (.slice ad a.length ca) (.int .i64 k)).run Tryd.prog w = .ok (.pointer (some ⟨ba, k, none⟩)) w) :
    Calls Tryd.prog 41 #[.slice ad a.length ca] w fun e w' => e = .returned (.tuple #[.int .i64 (dv a), .bool true]) ∧ w' = w := by
  have HA := hidb hda
  have RA := hidb ra
  have IA := hidb ia
  have HS := hidb hs
  clear ia ra hda hs
  go_enter Tryd.func41, Tryd.ntmps41
  go_wp2
  go_loop [4, 5] (fun s t => ∃ k n : Nat, k ≤ a.length ∧ Hid (n = dv (a.drop k)) ∧ s = .int .i64 n ∧ t = .int .i64 ((k : Int) - 1)) (fun _ t => (intOf t + 1).toNat)
  case atStart => exact ⟨a.length, 0, Nat.le_refl _, by show 0 = dv (a.drop a.length); rw [List.drop_of_length_le (Nat.le_refl _)]; rfl, rfl, rfl⟩
  case round =>
    obtain ⟨k, n, hk, HD, rfl, rfl⟩ := hrel
    rcases Nat.eq_zero_or_pos k with rfl | hp
    · have hn : n = dv a := by simpa using HD.out
      have hn2 : (n : Int) ≤ 4611686018427387904 := by have := HS.out; omega
      have HN := hidb hn
      clear hn HD
      go_wp2
      go_ret2
      exact ⟨by rw [← HN.out]; rfl, rfl⟩
    · obtain ⟨j, rfl⟩ : ∃ j, k = j + 1 := ⟨k - 1, by omega⟩
      have h1 : j < a.length := by omega
      have na : a ≠ [] := by intro e; rw [e] at h1; simp at h1
      have cella := (RA.out.resolve_right na).1 j h1
      have ixa := IA.out j h1
      have xa := HA.out.get h1
      have HD2 : Hid (a[j] + 1000000 * n = dv (a.drop j)) := by show _ = _; rw [dv_drop h1, ← HD.out]
      have hb : n ≤ 4611686018427 := by
        have h2 := dv_drop_le a (j + 1)
        rw [← HD.out, Nat.pow_succ] at h2
        have h3 : 1 ≤ 1000000 ^ j := Nat.pow_pos (by decide)
        have h4 : 1 * 1000000 * n ≤ 1000000 ^ j * 1000000 * n := Nat.mul_le_mul_right _ (Nat.mul_le_mul_right _ h3)
        have := HS.out
        omega
      have ej : ((j + 1 : Nat) : Int) - 1 = (j : Int) := by omega
      have hj0 : (0 : Int) ≤ (j : Int) := by omega
      rw [ej]
      clear HD na
      generalize a[j] = x at *
      go_wp2
      go_round
      case rel => exact ⟨j, x + 1000000 * n, by omega, HD2, by go_num, by go_num⟩
      case measure => simp [intOf]
theorem bigInt_any {w : World} {u : Value} {n : Nat} (hs : n ≤ 4611686018427387904) (ha : Bg w u (dn n)) : Calls Tryd.prog 41 #[u] w fun e w' => e = .returned (.tuple #[.int .i64 n, .bool true]) ∧ w' = w := by
  have hl : (dn n).length ≤ 400 := Nat.le_trans (dn_len_le (k := 4) (by omega)) (by decide)
  have hd : dv (dn n) ≤ 4611686018427387904 := by rw [dv_dn]; exact hs
  rcases ha with ⟨rfl, h⟩ | ⟨ba, ca, rfl, _, _, ra⟩
  · have := bigInt_gen none 0 (dn n) 0 (dn_dg n) hl hd w (.inr h) (fun k hk => by rw [h] at hk; simp at hk)
    rw [dv_dn, h] at this
    exact this
  · have := bigInt_gen (some ⟨ba, 0, none⟩) ba (dn n) ca (dn_dg n) hl hd w (.inl ra) (fun k hk w => index_row ba _ ca k hk w)
    rw [dv_dn] at this
    exact this
end Go.Proofs.YtgjjgicojedefaaDoor
