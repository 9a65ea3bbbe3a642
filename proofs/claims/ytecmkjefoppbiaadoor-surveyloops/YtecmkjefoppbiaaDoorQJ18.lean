/-
  survey.Survey's Valid.; survey.Survey's start, home.; survey.Survey's home.
-/
import Derived.Test.YtecmkjefoppbiaaDoorQSvJ
import Derived.Test.YtecmkjefoppbiaaDoorQJ16
namespace Go.Proofs.YtecmkjefoppbiaaDoor
open Go.RowKit
attribute [local go_sem ↓] Go.wp_at_zero Go.wp_at_succ

open Classical in
/-- A survey's error. -/
noncomputable def svc (M B : Int) (l : List Sn) : Nat := if 12 < M ∨ 60 < l.length then 2 else if M < 1 ∨ ¬ (-1048576 ≤ B ∧ B ≤ 1048576) then 3 else if ∀ k, k < l.length → fitP M (snX l k) then (if alE (edL l) M.toNat then 0 else 6) else 3
theorem svc_2 {M B : Int} {l : List Sn} (h : 12 < M ∨ 60 < l.length) : svc M B l = 2 := by unfold svc; rw [if_pos h]
theorem svc_3 {M B : Int} {l : List Sn} (h : ¬ (12 < M ∨ 60 < l.length)) (k : M < 1 ∨ ¬ (-1048576 ≤ B ∧ B ≤ 1048576)) : svc M B l = 3 := by unfold svc; rw [if_neg h, if_pos k]
theorem svc_f {M B : Int} {l : List Sn} (h : ¬ (12 < M ∨ 60 < l.length)) {k : Nat} (hk : k < l.length) (hf : ¬ fitP M (snX l k)) : svc M B l = 3 := by
  unfold svc
  rw [if_neg h]
  split
  · rfl
  · rw [if_neg (fun q => hf (q k hk))]
theorem svc_6 {M : Nat} {B : Int} {l : List Sn} (h : ¬ (12 < (M : Int) ∨ 60 < l.length)) (k : ¬ ((M : Int) < 1 ∨ ¬ (-1048576 ≤ B ∧ B ≤ 1048576))) (hF : FT M l) (ha : ¬ alE (edL l) M) : svc M B l = 6 := by
  unfold svc
  rw [if_neg h, if_neg k, if_pos (show ∀ k, k < l.length → fitP (M : Int) (snX l k) from hF), if_neg (by rw [Int.toNat_natCast]; exact ha)]
theorem svc_0 {M : Nat} {B : Int} {l : List Sn} (h : ¬ (12 < (M : Int) ∨ 60 < l.length)) (k : ¬ ((M : Int) < 1 ∨ ¬ (-1048576 ≤ B ∧ B ≤ 1048576))) (hF : FT M l) (ha : alE (edL l) M) : svc M B l = 0 := by
  unfold svc
  rw [if_neg h, if_neg k, if_pos (show ∀ k, k < l.length → fitP (M : Int) (snX l k) from hF), if_pos (by rw [Int.toNat_natCast]; exact ha)]
theorem svc_of {M B : Int} {l : List Sn} (h : svc M B l = 0) : ∃ m : Nat, M = m ∧ 1 ≤ m ∧ m ≤ 12 ∧ l.length ≤ 60 ∧ FT m l ∧ alE (edL l) m := by
  unfold svc at h
  split at h
  · cases h
  · rename_i h1
    split at h
    · cases h
    · rename_i h2
      split at h
      · rename_i h3
        split at h
        · rename_i h4
          obtain ⟨m, rfl⟩ : ∃ m : Nat, M = m := ⟨M.toNat, by omega⟩
          rw [Int.toNat_natCast] at h4
          exact ⟨m, rfl, by omega, by omega, by omega, h3, h4⟩
        · cases h
      · cases h
set_option maxRecDepth 4000 in
set_option maxHeartbeats 8000000 in
theorem svalid_any (g : Nat → Addr) {ad : Option Addr} {b o cap : Nat} (M B : Int) (l : List Sn) (w : World) (h : SeL 32 w ad b o cap l) (hl : Laid w g) : Calls Tryd.prog 13 #[svV M B (.slice ad l.length cap)] w fun e w' => e = .returned (evc g (svc M B l)) ∧ Gr w w' := by
  have HRow := hidb h
  have HL := hidb hl
  have HIx := hidb h.ix
  clear h hl
  have PX : Hid (At (w.alloc (.cells #[.int .i64 M, .int .i64 B, .slice ad l.length cap] 34)) w.heap.size [.int .i64 M, .int .i64 B, .slice ad l.length cap] ∧ Gr w (w.alloc (.cells #[.int .i64 M, .int .i64 B, .slice ad l.length cap] 34))) := ⟨At.new3 _ _ _ _ _, (Gr.refl w).alloc _⟩
  obtain ⟨n, hn⟩ : ∃ n, n = l.length := ⟨_, rfl⟩
  have HNl := hidb hn
  rw [← hn] at PX HIx ⊢
  clear hn
  unfold svV
  obtain ⟨z0, z1, z2⟩ := PX.out.1.c3
  by_cases c : 12 < M ∨ 60 < n
  · have HE : Hid (evc g (svc M B l) = errV g 1) := by show _ = _; rw [svc_2 (by rw [← HNl.out]; exact c)]; rfl
    have cE : (w.alloc (.cells #[.int .i64 M, .int .i64 B, .slice ad n cap] 34)).cell? ⟨0, 0, none⟩ = some (errV g 1) := (HL.out.below PX.out.2.out).cell 1 (by decide)
    by_cases c1 : 12 < M
    · clear c
      go_enter Tryd.func13, Tryd.ntmps13
      go_wp2
      go_ret
      exact ⟨by rw [HE.out]; rfl, PX.out.2⟩
    · have c2 : (60 : Int) < (n : Int) := by have := c.resolve_left c1; omega
      clear c
      go_enter Tryd.func13, Tryd.ntmps13
      go_wp2
      go_ret
      exact ⟨by rw [HE.out]; rfl, PX.out.2⟩
  · have c1 : ¬ 12 < M := fun q => c (.inl q)
    have c2 : ¬ (60 : Int) < (n : Int) := fun q => c (.inr (by omega))
    have HC : Hid (¬ (12 < M ∨ 60 < l.length)) := by show ¬ _; rw [← HNl.out]; exact c
    have HBd := hidb (fun w => sbounded_any B w)
    have e3 : (w.alloc (.cells #[.int .i64 M, .int .i64 B, .slice ad n cap] 34)).cell? ⟨1, 0, none⟩ = some (errV g 2) := (HL.out.below PX.out.2.out).cell 2 (by decide)
    clear c
    by_cases d1 : M < 1
    · have HE : Hid (evc g (svc M B l) = errV g 2) := by show _ = _; rw [svc_3 HC.out (.inl d1)]; rfl
      go_enter Tryd.func13, Tryd.ntmps13
      go_wp2
      go_ret
      exact ⟨by rw [HE.out]; rfl, PX.out.2⟩
    · by_cases d2 : (-1048576 ≤ B ∧ B ≤ 1048576)
      · rw [decide_eq_true d2] at HBd
        obtain ⟨m, rfl⟩ : ∃ m : Nat, M = m := ⟨M.toNat, by omega⟩
        have HD : Hid (¬ ((m : Int) < 1 ∨ ¬ (-1048576 ≤ B ∧ B ≤ 1048576))) := by show ¬ _; omega
        clear d2
        clear e3 z0 z1 z2
        have HM : Hid (1 ≤ m ∧ m ≤ 12 ∧ n ≤ 60) := by show _ ∧ _; omega
        go_enter Tryd.func13, Tryd.ntmps13
        go_upto_region 1 with fail
        generalize w.alloc (.cells #[.int .i64 (m : Int), .int .i64 B, .slice ad n cap] 34) = w1 at *
        obtain ⟨z0, z1, z2⟩ := PX.out.1.c3
        have HTr : Hid (∀ W', Gr w W' → FT m l → Calls Tryd.prog 14 #[svV m B (.slice ad n cap)] W' fun e w' => ∃ v, (alE (edL l) m ∧ e = .returned (.tuple #[v, .bool true]) ∨ ¬ alE (edL l) m ∧ e = .returned (.tuple #[v, .bool false])) ∧ Gr W' w') := fun W' hG hF => by
          rw [HNl.out]
          refine (stree_any W' (HRow.out.below hG.out) ⟨HM.out.1, HM.out.2.1⟩ (by rw [← HNl.out]; exact HM.out.2.2) hF B).mono ?_
          rintro e w' (⟨k1, WB, rfl, -, -, k2⟩ | ⟨k1, rfl, k2⟩)
          · exact ⟨_, .inl ⟨k1, rfl⟩, k2⟩
          · exact ⟨_, .inr ⟨k1, rfl⟩, k2⟩
        unfold svV at HTr
        go_wp2_with fail
        refine (HBd.out _).mono ?_
        rintro e w2 ⟨rfl, hB⟩
        replace PX := hidb (show At w2 w.heap.size [.int .i64 (m : Int), .int .i64 B, .slice ad n cap] ∧ Gr w w2 from ⟨At.below hB.out PX.out.1, Gr.step PX.out.2 hB.out⟩)
        clear hB z0 z1 z2
        obtain ⟨z0, z1, z2⟩ := PX.out.1.c3
        go_wp2
        clear z0 z1 z2
        go_loopw [30] (fun t wr => ∃ (k : Nat), k ≤ n ∧ t = .int .i64 (k : Int) ∧ Hid ((∀ j, j < k → fitP m (snX l j)) ∧ At wr w.heap.size [.int .i64 (m : Int), .int .i64 B, .slice ad n cap] ∧ Gr w wr)) (fun t _ => n - (intOf t).toNat)
        case atStart => exact ⟨0, Nat.zero_le _, rfl, hidb ⟨fun j hj => by omega, PX.out.1, PX.out.2⟩⟩
        case round =>
          clear PX
          obtain ⟨k, hk, rfl, E⟩ := hrel
          obtain ⟨z0, z1, z2⟩ := E.out.2.1.c3
          by_cases h1 : ¬ k < n
          · have h1' : ¬ (k : Int) < (n : Int) := by omega
            obtain rfl : k = n := by omega
            have HF : Hid (FT m l) := fun j hj => E.out.1 j (by rw [HNl.out]; exact hj)
            have HT2 := hidb (HTr.out _ E.out.2.2 HF.out)
            have HG := hidb E.out.2.2
            clear h1 HTr E
            go_wp2_with fail
            refine HT2.out.mono ?_
            rintro e w3 ⟨v, q | q, hB⟩
            · obtain ⟨q1, rfl⟩ := q
              have HE : Hid (evc g (svc m B l) = .nilIface) := by show _ = _; rw [svc_0 HC.out HD.out HF.out q1]; rfl
              have HG2 := hidb (Gr.step HG.out hB.out)
              clear q1 hB z0 z1 z2
              go_wp2
              go_ret
              exact ⟨by rw [HE.out]; rfl, HG2.out⟩
            · obtain ⟨q1, rfl⟩ := q
              have HE : Hid (evc g (svc m B l) = errV g 5) := by show _ = _; rw [svc_6 HC.out HD.out HF.out q1]; rfl
              have HG2 := hidb (Gr.step HG.out hB.out)
              have cE : w3.cell? ⟨2, 0, none⟩ = some (errV g 5) := (HL.out.below HG2.out.out).cell 5 (by decide)
              clear q1 hB z0 z1 z2
              go_wp2
              go_ret
              exact ⟨by rw [HE.out]; rfl, HG2.out⟩
          · have h1' : (k : Int) < (n : Int) := by omega
            have H1 := hidb (show k < n by omega)
            have hkl : k < l.length := by have := HNl.out; omega
            have ix := HIx.out k (by omega)
            have HSl := hidb (HRow.out.below E.out.2.2.out)
            obtain ⟨⟨c0, c3, c4, c5⟩, -⟩ := HSl.out.row k hkl
            have HFt := hidb (sfits_any (m : Int) B (.slice ad n cap) (snX l k))
            have HNo : Hid (¬ fitP m (snX l k) → evc g (svc m B l) = errV g 2) := fun hf => by rw [svc_f HC.out hkl hf]; rfl
            have HYe : Hid (fitP m (snX l k) → ∀ j, j < k + 1 → fitP m (snX l j)) := fun hf j hj => by
              by_cases e : j = k
              · rw [e]; exact hf
              · exact E.out.1 j (by omega)
            unfold snV svV at HFt
            have e9 : IntKind.i64.wrap ((k : Int) + 1) = ((k + 1 : Nat) : Int) := by rw [show (k : Int) + 1 = ((k + 1 : Nat) : Int) by omega]; exact wr_in (by omega) (by have := HM.out; omega)
            have HEe := hidb E.out.2
            have hlt : w.heap.size < wr.heap.size := HEe.out.1.lt
            clear E hkl h1
            by_cases hf : fitP m (snX l k)
            · rw [decide_eq_true hf] at HFt
              have HY2 := hidb (HYe.out hf)
              clear hf HNo HYe HSl
              generalize (snX l k).f = f at *
              generalize (snX l k).t = t at *
              generalize (snX l k).u = u at *
              generalize (snX l k).w = gw at *
              have PE : Hid (At (wr.alloc (.cells #[.int .i64 f, .int .i64 t, .int .i64 u, .int .i64 gw] 47)) w.heap.size [.int .i64 (m : Int), .int .i64 B, .slice ad n cap] ∧ Gr w (wr.alloc (.cells #[.int .i64 f, .int .i64 t, .int .i64 u, .int .i64 gw] 47))) := ⟨HEe.out.1.alloc _, HEe.out.2.alloc _⟩
              go_wp2_with fail
              refine (HFt.out _).mono ?_
              rintro e w3 ⟨rfl, hB⟩
              have PE2 := hidb (show At w3 w.heap.size [.int .i64 (m : Int), .int .i64 B, .slice ad n cap] ∧ Gr w w3 from ⟨At.below hB.out PE.out.1, Gr.step PE.out.2 hB.out⟩)
              clear hB PE
              go_wp2
              go_roundw
              case rel => exact ⟨k + 1, H1.out, by go_num, hidb ⟨HY2.out, PE2.out⟩⟩
              case measure => have := H1.out; simp [intOf]; omega
            · rw [decide_eq_false hf] at HFt
              have HE := hidb (HNo.out hf)
              clear hf HNo HYe HSl
              generalize (snX l k).f = f at *
              generalize (snX l k).t = t at *
              generalize (snX l k).u = u at *
              generalize (snX l k).w = gw at *
              have PE : Hid (Gr w (wr.alloc (.cells #[.int .i64 f, .int .i64 t, .int .i64 u, .int .i64 gw] 47))) := HEe.out.2.alloc _
              go_wp2_with fail
              refine (HFt.out _).mono ?_
              rintro e w3 ⟨rfl, hB⟩
              have PE2 := hidb (Gr.step PE.out hB.out)
              have cE : w3.cell? ⟨1, 0, none⟩ = some (errV g 2) := (HL.out.below PE2.out.out).cell 2 (by decide)
              clear hB PE
              go_wp2
              go_ret
              exact ⟨by rw [HE.out]; rfl, PE2.out⟩
      · rw [decide_eq_false d2] at HBd
        have HE : Hid (evc g (svc M B l) = errV g 2) := by show _ = _; rw [svc_3 HC.out (.inr d2)]; rfl
        clear d2
        clear e3
        go_enter Tryd.func13, Tryd.ntmps13
        go_wp2_with fail
        refine (HBd.out _).mono ?_
        rintro e w2 ⟨rfl, hB⟩
        have G2 := hidb (Gr.step PX.out.2 hB.out)
        have cE : w2.cell? ⟨1, 0, none⟩ = some (errV g 2) := (HL.out.below G2.out.out).cell 2 (by decide)
        clear hB z0 z1 z2
        go_wp2
        go_ret
        exact ⟨by rw [HE.out]; rfl, G2.out⟩
end Go.Proofs.YtecmkjefoppbiaaDoor
namespace Go.Proofs.YtecmkjefoppbiaaDoor
open Go.RowKit
attribute [local go_sem ↓] Go.wp_at_zero Go.wp_at_succ

/-- What a search found that came to its end, in memory; what the survey holds. -/
structure TR (w : World) (WB M : Nat) (l : List Sn) (s : BS) : Prop where
  y : At w WB (ir s.wy)
  i : SrI (edL l) M s
  f : FT M l
  m : 1 ≤ M ∧ M ≤ 12
  n : l.length ≤ 60
theorem TR.below {w w' : World} {WB M : Nat} {l : List Sn} {s : BS} (h : TR w WB M l s) (hB : Below w.heap.size w w') : TR w' WB M l s := ⟨At.below hB h.y, h.i, h.f, h.m, h.n⟩
theorem TR.a {w : World} {WB M : Nat} {l : List Sn} {s : BS} (h : TR w WB M l s) {x : Nat} (hx : x < M) : w.cell? ⟨WB, x, none⟩ = some (.int .i64 (wX s x)) := by
  have hl := h.i.l
  have := (h.y.1 x (by simpa [ir, hl] using hx)).1
  simpa [ir, wX, hl, hx] using this
/-- Where a way begins. -/
theorem fr_sn {M : Nat} {l : List Sn} (h : FT M l) {w : Int} (h0 : ¬ w = 0) (hw : w.natAbs ≤ l.length) : ((frW (edL l) w : Nat) : Int) = if w < 0 then (snX l (-w - 1).toNat).t else (snX l (w - 1).toNat).f := by
  unfold frW
  by_cases c : 0 < w
  · rw [if_pos c, if_neg (by omega), eX_ed (by omega)]
    have := (h (w - 1).toNat (by omega)).1
    unfold mkP at this
    dsimp only
    omega
  · rw [if_neg c, if_pos (by omega), eX_ed (by omega)]
    have := (h (-w - 1).toNat (by omega)).2.1
    unfold mkP at this
    dsimp only
    omega
section
variable {l : List Sn} {M : Nat} {ad : Option Addr} {b o cap : Nat}
set_option maxRecDepth 4000 in
set_option maxHeartbeats 4000000 in
theorem sstart_any (w : World) (h : SeL 32 w ad b o cap l) (hl : l.length ≤ 60) (hF : FT M l) (B : Int) {y : Int} (h0 : ¬ y = 0) (hy : y.natAbs ≤ l.length) : Calls Tryd.prog 36 #[svV M B (.slice ad l.length cap), .int .i64 y] w fun e w' => e = .returned (.int .i64 (frW (edL l) y : Nat)) ∧ Gr w w' := by
  have HFr := hidb (fr_sn hF h0 hy)
  have HG : Hid (Gr w (w.alloc (.cells #[.int .i64 (M : Int), .int .i64 B, .slice ad l.length cap] 34))) := (Gr.refl w).alloc _
  obtain ⟨z0, z1, z2⟩ := (At.new3 w (.int .i64 (M : Int)) (.int .i64 B) (.slice ad l.length cap) 34).c3
  unfold svV
  by_cases c : y < 0
  · rw [if_pos c] at HFr
    have e1 : IntKind.i64.wrap (-y) = -y := wr_in (by omega) (by omega)
    have e2 : IntKind.i64.wrap (-y - 1) = (((-y - 1).toNat : Nat) : Int) := by rw [show (((-y - 1).toNat : Nat) : Int) = -y - 1 by omega]; exact wr_in (by omega) (by omega)
    have hk : (-y - 1).toNat < l.length := by omega
    generalize (-y - 1).toNat = k at *
    have ix := h.ix k hk
    obtain ⟨⟨-, c1, -, -⟩, -⟩ := (h.below HG.out.out).row k hk
    generalize (snX l k).t = t at *
    rw [HFr.out]
    generalize l.length = n at *
    clear h hl hF hy hk h0
    go_enter Tryd.func36, Tryd.ntmps36
    go_wp2
    go_ret
    exact ⟨rfl, HG.out⟩
  · rw [if_neg c] at HFr
    have e2 : IntKind.i64.wrap (y - 1) = (((y - 1).toNat : Nat) : Int) := by rw [show (((y - 1).toNat : Nat) : Int) = y - 1 by omega]; exact wr_in (by omega) (by omega)
    have hk : (y - 1).toNat < l.length := by omega
    generalize (y - 1).toNat = k at *
    have ix := h.ix k hk
    obtain ⟨⟨c1, -, -, -⟩, -⟩ := (h.below HG.out.out).row k hk
    generalize (snX l k).f = t at *
    rw [HFr.out]
    generalize l.length = n at *
    clear h hl hF hy hk h0
    go_enter Tryd.func36, Tryd.ntmps36
    go_wp2
    go_ret
    exact ⟨rfl, HG.out⟩
/-- The ways home. -/
def hoL (E : List Ed) (s : BS) (x : Nat) : List Int := (phE E s s.ord.length x).map fun v => -wX s v
theorem ho_zero (E : List Ed) (s : BS) : hoL E s 0 = [] := by
  unfold hoL
  cases s.ord.length with
  | zero => rfl
  | succ n => simp [phE]
theorem ho_step {E : List Ed} {M : Nat} {s : BS} (h : SrI E M s) {x : Nat} (hx : x ∈ s.ord) (h0 : ¬ x = 0) : hoL E s x = -wX s x :: hoL E s (paE E s x) ∧ paE E s x ∈ s.ord ∧ ¬ wX s x = 0 ∧ (wX s x).natAbs ≤ E.length := by
  obtain ⟨p1, p2⟩ := ph_step h hx h0 (Nat.le_refl _)
  obtain ⟨j, hj, e⟩ := ord_at hx
  have hj0 : 0 < j := by
    rcases Nat.eq_zero_or_pos j with c | c
    · subst c; rw [h.z.2] at e; exact absurd e.symm h0
    · exact c
  obtain ⟨w1, w2, -⟩ := wy_at h hj0 hj
  rw [e] at w1 w2
  exact ⟨by unfold hoL; rw [p1, List.map_cons], p2, w1, w2⟩
theorem ho_len {E : List Ed} {M : Nat} {s : BS} (h : SrI E M s) {x : Nat} (hx : x ∈ s.ord) : (hoL E s x).length ≤ M := by
  unfold hoL
  rw [List.length_map]
  refine nodup_len (ph_nd h (Nat.le_refl _) hx) fun v hv => ?_
  obtain ⟨j, hj, rfl⟩ := ord_at hx
  obtain ⟨P, Q, e⟩ := List.append_of_mem hv
  exact h.lt v (ph_tail h (Nat.le_refl _) j hj P v Q e).2.1
end
end Go.Proofs.YtecmkjefoppbiaaDoor
namespace Go.Proofs.YtecmkjefoppbiaaDoor
open Go.RowKit
attribute [local go_sem ↓] Go.wp_at_zero Go.wp_at_succ

theorem own_sh {w : World} {base : Nat} {v : Value} {n e : Nat} {xs : List Value} (h : w.ownsRow base e 1 v n xs) : ∃ ad cap, v = .slice ad n cap := by
  obtain ⟨_, ⟨rfl, rfl⟩ | ⟨g, cap, cur, hv, _⟩⟩ := h
  · exact ⟨none, 0, rfl⟩
  · exact ⟨_, _, hv⟩
/-- A row that a call owns, while a box stays. -/
structure OB (w W : World) (SB base : Nat) (bx : List Value) (v : Value) (L : List Int) : Prop where
  x : At W SB bx
  r : W.ownsRow base 3 1 v L.length (ir L)
  gr : Gr w W
  b : SB < base ∧ w.heap.size ≤ base ∧ base ≤ W.heap.size
theorem OB.below {w W w' : World} {SB base : Nat} {bx : List Value} {v : Value} {L : List Int} (h : OB w W SB base bx v L) (hB : Below W.heap.size W w') : OB w w' SB base bx v L :=
  ⟨At.below hB h.x, own_kept h.r hB, Gr.step h.gr hB, h.b.1, h.b.2.1, Nat.le_trans h.b.2.2 hB.size⟩
theorem OB.app {w W w' : World} {SB base g2 cap2 : Nat} {bx : List Value} {v : Value} {L : List Int} {ob : Obj} {x : Int} (h : OB w W SB base bx v L) (hO : w'.ownsRow base 3 1 (.slice (some ⟨g2, 0, none⟩) (L.length + 1) cap2) (L.length + 1) (ir (L ++ [x]))) (hg : (W.alloc ob).grownBy w' v.ownBlock) : OB w w' SB base bx (.slice (some ⟨g2, 0, none⟩) (L.length + 1) cap2) (L ++ [x]) := by
  have hs := hg.size
  have hB : Below base (W.alloc ob) w' := (Below.refl base _).grown hg (by have := h.b.2.2; simp; omega) (fun k e => (h.r.lt k e).1)
  have hs1 : W.heap.size ≤ (W.alloc ob).heap.size := by simp
  refine ⟨At.belN hB h.b.1 hs (h.x.alloc ob), by rw [List.length_append]; exact hO, ?_, h.b.1, h.b.2.1, by have := h.b.2.2; omega⟩
  exact Below.grown (h.gr.alloc ob).out hg (by have := h.gr.out.size; omega) (fun k e => Nat.le_trans h.b.2.1 (h.r.lt k e).1)
section
variable {l : List Sn} {M : Nat} {ad : Option Addr} {b o cap : Nat}
set_option maxRecDepth 4000 in
set_option maxHeartbeats 8000000 in
theorem shome_any (w : World) (h : SeL 32 w ad b o cap l) {WB : Nat} {s : BS} (hT : TR w WB M l s) (B : Int) {x : Nat} (hx : x ∈ s.ord) : Calls Tryd.prog 25 #[svV M B (.slice ad l.length cap), .slice (some ⟨WB, 0, none⟩) M M, .int .i64 (x : Int)] w fun e w' => ∃ v base, e = .returned v ∧ w'.ownsRow base 3 1 v (hoL (edL l) s x).length (ir (hoL (edL l) s x)) ∧ w.heap.size ≤ base ∧ base ≤ w'.heap.size ∧ Gr w w' := by
  have HRow := hidb h
  have HT := hidb hT
  have HSt := hidb (fun (W : World) (hG : Gr w W) (y : Int) (h0 : ¬ y = 0) (hy : y.natAbs ≤ l.length) => sstart_any W (h.below hG.out) hT.n hT.f B h0 hy)
  have HHl := hidb (ho_len hT.i hx)
  have HX := hidb hx
  unfold svV at HSt ⊢
  obtain ⟨n, hn⟩ : ∃ n, n = l.length := ⟨_, rfl⟩
  have HNl := hidb hn
  rw [← hn] at HSt ⊢
  have HED : Hid ((edL l).length = n) := by show _ = _; rw [ed_len, hn]
  clear hn h hT hx
  have PX : Hid (At (w.alloc (.cells #[.int .i64 (M : Int), .int .i64 B, .slice ad n cap] 34)) w.heap.size [.int .i64 (M : Int), .int .i64 B, .slice ad n cap] ∧ Gr w (w.alloc (.cells #[.int .i64 (M : Int), .int .i64 B, .slice ad n cap] 34)) ∧ (w.alloc (.cells #[.int .i64 (M : Int), .int .i64 B, .slice ad n cap] 34)).heap.size = w.heap.size + 1) := ⟨At.new3 _ _ _ _ _, (Gr.refl w).alloc _, by simp⟩
  go_enter Tryd.func25, Tryd.ntmps25
  go_upto_region 1 with fail
  generalize w.alloc (.cells #[.int .i64 (M : Int), .int .i64 B, .slice ad n cap] 34) = w1 at *
  obtain ⟨SB, hSB⟩ : ∃ z, z = w.heap.size := ⟨_, rfl⟩
  have HSB := hidb hSB
  rw [← hSB] at PX ⊢
  have E0 : Hid (OB w w1 SB (SB + 1) [.int .i64 (M : Int), .int .i64 B, .slice ad n cap] (.slice none 0 0) []) := ⟨PX.out.1, World.ownsRow_nil _ _ _ _, PX.out.2.1, by omega, by omega, by rw [PX.out.2.2]; omega⟩
  clear PX hSB
  go_wp2
  go_loopw [2, 7] (fun t v wr => ∃ (y : Nat) (L : List Int) (q : Nat), y ∈ s.ord ∧ q = L.length ∧ t = .int .i64 (y : Int) ∧ Hid (OB w wr SB (SB + 1) [.int .i64 (M : Int), .int .i64 B, .slice ad n cap] v L ∧ hoL (edL l) s x = L ++ hoL (edL l) s y)) (fun t _ _ => (hoL (edL l) s (intOf t).toNat).length)
  case atStart => exact ⟨x, [], 0, HX.out, rfl, rfl, hidb ⟨E0.out, rfl⟩⟩
  case round =>
    clear E0
    obtain ⟨y, L, q, hy, hq, rfl, E⟩ := hrel
    by_cases h0 : y = 0
    · subst h0
      have HZ : Hid (wr.ownsRow (SB + 1) 3 1 u7 (hoL (edL l) s x).length (ir (hoL (edL l) s x)) ∧ w.heap.size ≤ SB + 1 ∧ SB + 1 ≤ wr.heap.size ∧ Gr w wr) := by
        have e := E.out.2
        rw [ho_zero, List.append_nil] at e
        rw [e]
        exact ⟨E.out.1.r, E.out.1.b.2.1, E.out.1.b.2.2, E.out.1.gr⟩
      clear E hy hq
      go_wp2
      go_ret
      exact ⟨_, SB + 1, rfl, HZ.out⟩
    · obtain ⟨k1, k2, k3, k4⟩ := ho_step HT.out.i hy h0
      have hyM := HT.out.i.lt y hy
      have HW : Hid ((wX s y).natAbs ≤ n) := by show _ ≤ _; rw [← HED.out]; exact k4
      have e1 : IntKind.i64.wrap (-wX s y) = -wX s y := by
        have := HW.out; have h6 := HT.out.n; have := HNl.out
        exact wr_in (by omega) (by omega)
      have ixy := indexI WB M M y hyM
      have cy := (HT.out.below E.out.1.gr.out).a hyM
      obtain ⟨ad1, cap1, rfl⟩ := own_sh E.out.1.r
      have HQ := hidb hq
      rw [← hq] at E ⊢
      have HK : Hid (hoL (edL l) s x = L ++ [-wX s y] ++ hoL (edL l) s (paE (edL l) s y) ∧ paE (edL l) s y ∈ s.ord ∧ (hoL (edL l) s (paE (edL l) s y)).length < (hoL (edL l) s y).length) := ⟨by rw [E.out.2, k1, List.append_assoc]; rfl, k2, by rw [k1]; simp⟩
      have HQl : Hid (q ≤ 20000) := by
        have := HHl.out
        rw [E.out.2, List.length_append, ← hq] at this
        have := HT.out.m
        show _ ≤ _
        omega
      have HWn := hidb k3
      have HPa : Hid (frW (edL l) (wX s y) = paE (edL l) s y) := rfl
      have h0' : ¬ (y : Int) = 0 := by omega
      generalize paE (edL l) s y = p at *
      generalize wX s y = z at *
      clear k1 k2 k3 k4 hyM hq hy
      have HR : Hid (wr.ownsRow (SB + 1) 3 1 (.slice ad1 q cap1) q (ir L) ∧ SB + 1 ≤ wr.heap.size) := ⟨by have := E.out.1.r; rw [← HQ.out] at this; exact this, E.out.1.b.2.2⟩
      go_upto_region 5 with (at_builtin; refine wpList_in _ (SB + 1) (.slice ad1 q cap1) L (-z) q wr.heap.size _ _ rfl rfl rfl rfl HQl.out (own_kept HR.out.1 ((Below.refl _ _).alloc (Nat.le_refl _) _)) (At.at1 rfl _ _) (by have := HR.out.2; simp; omega) (wr.heap.size + 1) (by simp) ?_; intro g2 cap3 w3 hown hgrow)
      have E2 := hidb (OB.app E.out.1 (by rw [← HQ.out]; exact hown.out) hgrow.out)
      rw [← HQ.out] at E2
      clear hown hgrow HR
      obtain ⟨z0, z1, z2⟩ := E2.out.x.c3
      go_wp2_with fail
      refine (HSt.out _ E2.out.gr z HWn.out (by have := HW.out; have := HNl.out; omega)).mono ?_
      rintro e w4 ⟨rfl, hB⟩
      have E4 := hidb (E2.out.below hB.out)
      clear hB E2 z0 z1 z2
      rw [HPa.out]
      go_wp2
      go_roundw
      case rel => exact ⟨p, L ++ [-z], q + 1, HK.out.2.1, by rw [List.length_append, HQ.out]; rfl, rfl, hidb ⟨E4.out, HK.out.1⟩⟩
      case measure => have := HK.out.2.2; simpa [intOf] using this
end
end Go.Proofs.YtecmkjefoppbiaaDoor
