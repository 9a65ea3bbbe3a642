/-
  fix.Solve.
-/
import Derived.Test.YtehkonddgiakaaaDoorQFxL
namespace Go.Proofs.YtehkonddgiakaaaDoor
open Go.RowKit
attribute [local go_sem ↓] Go.wp_at_zero Go.wp_at_succ

/-- The differences of all others from the first. -/
def difs : List Rg → List Rg
  | [] => []
  | f :: l => l.map (dif f)
theorem differences_all (ad : Option Addr) (b cap : Nat) (l : List Rg) (w : World) (h : RSl 30 w ad b cap l) (ll : l.length ≤ 70) (hok : ∀ r ∈ l, okR r) : Calls Tryd.prog 23 #[.slice ad l.length cap] w fun e w' => ∃ ad' b' cap', e = .returned (.slice ad' (difs l).length cap') ∧ RSl 73 w' ad' b' cap' (difs l) ∧ Gr w w' := by
  cases l with
  | nil =>
    clear h hok ll
    show Calls Tryd.prog 23 #[.slice ad 0 cap] w _
    go_enter Tryd.func23, Tryd.ntmps23
    go_wp2
    refine wp_loop_rounds 1 ?_
    rw [rounds_succ]
    go_wp2
    go_ret
    exact ⟨none, 0, 0, rfl, ⟨.inr rfl, fun k hk => by simp [difs] at hk⟩, Gr.refl _⟩
  | cons f l =>
    refine (differences_any ad b cap f l w h (by simp at ll; omega) hok).mono ?_
    rintro e w' ⟨v, rfl, hown, hG⟩
    obtain ⟨ad', b', cap', rfl, hr⟩ := own_esl hown
    exact ⟨ad', b', cap', rfl, hr, hG⟩
theorem difs_len (l : List Rg) : (difs l).length ≤ l.length := by cases l <;> simp [difs]
theorem difs_sme {l : List Rg} (hok : ∀ r ∈ l, okR r) : ∀ e ∈ difs l, Sme e := by
  cases l with
  | nil => intro e he; cases he
  | cons f l =>
    intro e he
    obtain ⟨r, hr, rfl⟩ := List.mem_map.1 he
    have hf := hok f (List.mem_cons_self ..)
    have hr' := hok r (List.mem_cons_of_mem _ hr)
    have b1 := bey_bd hf
    have b2 := bey_bd hr'
    obtain ⟨⟨⟨h1, h2⟩, h3, h4⟩, _⟩ := hf
    obtain ⟨⟨⟨k1, k2⟩, k3, k4⟩, _⟩ := hr'
    unfold Sme dif
    dsimp only
    omega
/-- The two equations' numbers. -/
def sOv (l : List Rg) : Int := crs (sms (difs l)) 0 1
def sX (l : List Rg) : Int := crs (sms (difs l)) 2 1
def sY (l : List Rg) : Int := crs (sms (difs l)) 0 2
theorem sms_bd {l : List Rg} (hok : ∀ r ∈ l, okR r) (ll : l.length ≤ 70) : ∀ t, t < 9 → ((sms (difs l)).getD t 0).natAbs < 2 ^ 116 := by
  intro t ht
  rw [getD9 (by simp [sms]) ht]
  have := sm_bd (difs_sme hok) (t / 3) (t % 3)
  have e : (sms (difs l))[t]'(by simp [sms]; exact ht) = sm (difs l) (t / 3) (t % 3) := by simp [sms]
  rw [e]
  have h2 : (difs l).length * 2 ^ 108 ≤ 70 * 2 ^ 108 := Nat.mul_le_mul_right _ (Nat.le_trans (difs_len l) ll)
  omega
theorem crs_bw {zs : List Int} (h : ∀ t, t < 9 → (zs.getD t 0).natAbs < 2 ^ 116) {a b : Nat} (ha : a < 3) (hb : b < 3) : Bw (crs zs a b) ∧ (crs zs a b).natAbs < 2 ^ 240 := by
  have h1 := bw_mul (h a (by omega)) (h (3 + b) (by omega))
  have h2 := bw_mul (h b (by omega)) (h (3 + a) (by omega))
  have h3 : (crs zs a b).natAbs < 2 ^ 240 := by
    unfold crs
    generalize zs.getD a 0 * zs.getD (3 + b) 0 = x at *
    generalize zs.getD b 0 * zs.getD (3 + a) 0 = y at *
    omega
  exact ⟨bw_lt h3 (by decide), h3⟩
/-- The answer. -/
def SP (g : Nat → Addr) (l : List Rg) (X Y E : Value) : Prop :=
  (¬ rerr g l = .nilIface ∧ X = fr0 ∧ Y = fr0 ∧ E = rerr g l) ∨
  (rerr g l = .nilIface ∧ sOv l = 0 ∧ X = fr0 ∧ Y = fr0 ∧ E = errV g 5) ∨
  (rerr g l = .nilIface ∧ ¬ sOv l = 0 ∧ qf (sX l) (sOv l) = false ∧ X = fr0 ∧ Y = fr0 ∧ E = errV g 1) ∨
  (rerr g l = .nilIface ∧ ¬ sOv l = 0 ∧ qf (sX l) (sOv l) = true ∧ qf (sY l) (sOv l) = false ∧ X = fr0 ∧ Y = fr0 ∧ E = errV g 1) ∨
  (rerr g l = .nilIface ∧ ¬ sOv l = 0 ∧ qf (sX l) (sOv l) = true ∧ qf (sY l) (sOv l) = true ∧ X = .agg #[.int .i64 (qx (sX l) (sOv l)), .int .i64 (qy (sX l) (sOv l))] ∧ Y = .agg #[.int .i64 (qx (sY l) (sOv l)), .int .i64 (qy (sY l) (sOv l))] ∧ E = .nilIface)
theorem rerr_nil {g : Nat → Addr} {l : List Rg} (h : rerr g l = .nilIface) : l.length ≤ 60 ∧ ∀ r ∈ l, okR r := by
  unfold rerr at h
  split at h
  · cases h
  · split at h
    · exact ⟨by omega, by assumption⟩
    · cases h
theorem rerr_shape (g : Nat → Addr) (l : List Rg) : rerr g l = .nilIface ∨ ∃ i, i < 8 ∧ rerr g l = errV g i := by
  unfold rerr
  split
  · exact .inr ⟨1, by decide, rfl⟩
  · split
    · exact .inl rfl
    · exact .inr ⟨2, by decide, rfl⟩
set_option maxRecDepth 8000 in
set_option maxHeartbeats 16000000 in
theorem solve_bad (g : Nat → Addr) (ad : Option Addr) (b cap : Nat) (l : List Rg) (w : World) (h : RSl 30 w ad b cap l) (ll : l.length ≤ 1000) (hl : Laid w g) (hr : ¬ rerr g l = .nilIface) : Calls Tryd.prog 7 #[.slice ad l.length cap] w fun e w' => e = .returned (.tuple #[fr0, fr0, rerr g l]) ∧ Gr w w' := by
  obtain ⟨i, hi, he⟩ := (rerr_shape g l).resolve_left hr
  have HV := hidb (fun w (h : RSl 30 w ad b cap l) hl => valid_any g ad b cap l w h ll hl)
  rw [he] at HV
  rw [he]
  have HR := hidb h
  have HL := hidb hl
  clear h hl hr he hi
  have hge : w.heap.size ≤ w.heap.size + 1 := by omega
  have XA := (At.new2 w (.int .i64 0) (.int .i64 0) 25).alloc (.cells #[.int .i64 0, .int .i64 0] 25)
  have YA := At.nx2 (W := w) (.cells #[.int .i64 0, .int .i64 0] 25) (.int .i64 0) (.int .i64 0) 25
  have HC := ((Gr.refl w).alloc (.cells #[.int .i64 0, .int .i64 0] 25)).alloc (.cells #[.int .i64 0, .int .i64 0] 25)
  go_enter Tryd.func7, Tryd.ntmps7
  go_wp2_with fail
  refine (HV.out _ (HR.out.below HC.out) (HL.out.below HC.out)).mono ?_
  rintro e w1 ⟨rfl, hB⟩
  replace XA := At.below hB XA
  replace YA := At.below hB YA
  replace HC := Gr.step HC hB
  clear hB HV
  obtain ⟨x0, x1⟩ := XA.c2
  obtain ⟨x2, x3⟩ := XA.f2
  obtain ⟨y0, y1⟩ := YA.c2
  obtain ⟨y2, y3⟩ := YA.f2
  go_wp2
  exact bodyPost_ret (v := .tuple #[fr0, fr0, errV g i]) (by simp [results, Tryd.results7, go_sem, x0, x1, y0, y1]) rfl ⟨rfl, (((HC.set (Nat.le_refl _) _ _).set (Nat.le_refl _) _ _).set hge _ _).set hge _ _⟩
end Go.Proofs.YtehkonddgiakaaaDoor
