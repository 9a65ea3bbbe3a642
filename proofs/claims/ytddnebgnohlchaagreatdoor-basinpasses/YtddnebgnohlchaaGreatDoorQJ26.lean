/-
  basin.Joined: what its walk wants beforehand. No Go text.; basin.Joined.; basin.Passes and basin.Joined where the raster is bad; the short ways of BasinPasses.; BasinPasses: the basins that belong together as the statement looks for them, one by one. No Go text.
-/
import Derived.Test.YtddnebgnohlchaaGreatDoorQPsI
import Derived.Test.YtddnebgnohlchaaGreatDoorQJ24
import Derived.Test.YtddnebgnohlchaaGreatDoorQJ17
import Derived.Test.YtddnebgnohlchaaGreatDoorQJ25
namespace Go.Proofs.YtddnebgnohlchaaGreatDoor
open Go.RowKit

/-- The firsts, when so many passes have been looked at. -/
def joN (G : Nn → Int) (lv : Int) (L : List Nn) : Nat → Nat := L.foldl (fun ρ p => if G p ≤ lv then jnR ρ p.1 p.2 else ρ) id
theorem joN_snoc (G : Nn → Int) (lv : Int) (L : List Nn) (p : Nn) : joN G lv (L ++ [p]) = if G p ≤ lv then jnR (joN G lv L) p.1 p.2 else joN G lv L := by unfold joN; rw [List.foldl_append]; rfl
/-- Each one's first. -/
structure JI (m n : Nat) (ρ : Nat → Nat) : Prop where
  le : ∀ i, ρ i ≤ i
  im : ∀ i, ρ (ρ i) = ρ i
  rm : ∀ i, rim m n i → rim m n (ρ i)
theorem JI.zero (m n : Nat) : JI m n id := ⟨fun _ => Nat.le_refl _, fun _ => rfl, fun _ h => h⟩
theorem JI.join {m n : Nat} {ρ : Nat → Nat} (h : JI m n ρ) {x y : Nat} (hx : rim m n x) (hy : rim m n y) : JI m n (jnR ρ x y) := by
  have hmm : (min (ρ x) (ρ y) = ρ x ∨ min (ρ x) (ρ y) = ρ y) := by omega
  have hfix : ρ (min (ρ x) (ρ y)) = min (ρ x) (ρ y) := by
    rcases hmm with e | e
    · rw [e]; exact h.im x
    · rw [e]; exact h.im y
  have hrim : rim m n (min (ρ x) (ρ y)) := by
    rcases hmm with e | e
    · rw [e]; exact h.rm x hx
    · rw [e]; exact h.rm y hy
  refine ⟨fun i => ?_, fun i => ?_, fun i hi => ?_⟩
  · have := h.le i
    unfold jnR
    split <;> omega
  · unfold jnR
    by_cases c : ρ i = max (ρ x) (ρ y)
    · rw [if_pos c, hfix]
      split <;> rfl
    · rw [if_neg c, h.im, if_neg c]
  · unfold jnR
    split
    · exact hrim
    · exact h.rm i hi
theorem JI.all {m n : Nat} {G : Nn → Int} {lv : Int} (L : List Nn) (hL : ∀ p ∈ L, rim m n p.1 ∧ rim m n p.2) : JI m n (joN G lv L) := by
  induction L using snocInd with
  | h0 => exact JI.zero m n
  | h1 L p ih =>
    have h := ih (fun q hq => hL q (List.mem_append.2 (.inl hq)))
    rw [joN_snoc]
    split
    · exact h.join (hL p (by simp)).1 (hL p (by simp)).2
    · exact h
theorem rmK_mem {m n k x : Nat} : x ∈ rmK m n k ↔ x < k ∧ rim m n x := by unfold rmK; rw [List.mem_filter, List.mem_range, decide_eq_true_iff]
theorem JI.mem {m n N : Nat} {ρ : Nat → Nat} (h : JI m n ρ) : Mem ρ (rmK m n N) := by
  refine ⟨List.Pairwise.filter _ List.pairwise_lt_range, fun x hx => ?_⟩
  obtain ⟨h1, h2⟩ := rmK_mem.1 hx
  exact ⟨rmK_mem.2 ⟨Nat.lt_of_le_of_lt (h.le x) h1, h.rm x h2⟩, h.le x, h.im x⟩
theorem hom_rim {m n : Nat} {l : List Int} (ok : Ok l m n) {x : Nat} (hx : x < l.length) : hom m n l x = x ↔ rim m n x := by
  constructor
  · intro h
    have := hom_fix m n l ok.m1 ok.len hx
    rw [h] at this
    exact (tw_fix m n l ok.m1 ok.len hx).1 this
  · exact fun h => hom_self m n l ((tw_fix m n l ok.m1 ok.len hx).2 h)
theorem psQ_key {m n : Nat} {l : List Int} (ok : Ok l m n) {p : Nn} (hp : p ∈ psQ (gP2 m n l) l.length l.length 0) : p.1 < l.length ∧ p.2 < l.length ∧ rim m n p.1 ∧ rim m n p.2 := by
  obtain ⟨h1, h2, h3, h4⟩ := (psQ_mem _ _).1 hp
  have k := gP2_key ok h4
  exact ⟨h1, h2, (hom_rim ok h1).1 k.2.2.1, (hom_rim ok h2).1 k.2.2.2⟩
theorem TSl.onl {W w' : World} {G : Nat × Nat → Int} {ad : Option Addr} {b cap A : Nat} {L : List (Nat × Nat)} (h : TSl W G ad b cap L) (k : Onl A W w') (hA : ∀ j, j < L.length → b ≠ A) : TSl w' G ad b cap L :=
  ⟨fun j hj => by
    obtain ⟨⟨h1, h2, h4⟩, h3⟩ := h.row j hj
    have hb := k.block b h3 (fun e => hA j hj (Option.some.inj e))
    exact ⟨⟨(World.cell?_of_block (w := W) (a := ⟨b, j * 3, none⟩) hb).trans h1, (World.cell?_of_block (w := W) (a := ⟨b, j * 3 + 1, none⟩) hb).trans h2, (World.cell?_of_block (w := W) (a := ⟨b, j * 3 + 2, none⟩) hb).trans h4⟩, Nat.lt_of_lt_of_le h3 k.size⟩, h.ix, h.ad⟩
/-- What lies in memory while basins are joined. -/
structure LJ (w W : World) (G : Nn → Int) (ad : Option Addr) (b cap GB N : Nat) (Q : List Nn) (ρ : Nat → Nat) : Prop where
  p : TSl W G ad b cap Q
  g : ∃ LG q, At W GB (ir LG) ∧ Gs LG N q ∧ ∀ i, rt q i = ρ i
  gr : Gr w W
  b : (∀ j, j < Q.length → b ≠ GB) ∧ w.heap.size < GB
theorem LJ.join {w W w' : World} {G : Nn → Int} {ad : Option Addr} {b cap GB N : Nat} {Q : List Nn} {ρ ρ' : Nat → Nat} (h : LJ w W G ad b cap GB N Q ρ) (k : Onl GB W w') (hg : ∃ LG q, At w' GB (ir LG) ∧ Gs LG N q ∧ ∀ i, rt q i = ρ' i) : LJ w w' G ad b cap GB N Q ρ' :=
  ⟨h.p.onl k h.b.1, hg, h.gr.onl k (Nat.le_of_lt h.b.2), h.b⟩
theorem LJ.below {w W w' : World} {G : Nn → Int} {ad : Option Addr} {b cap GB N : Nat} {Q : List Nn} {ρ : Nat → Nat} (h : LJ w W G ad b cap GB N Q ρ) (hB : Below W.heap.size W w') : LJ w w' G ad b cap GB N Q ρ := by
  obtain ⟨LG, q, a1, a2, a3⟩ := h.g
  exact ⟨h.p.below hB, ⟨LG, q, At.below hB a1, a2, a3⟩, Gr.step h.gr hB, h.b⟩
theorem jo_join {p q ρ : Nat → Nat} {x y : Nat} (hp : ∀ i, rt p i = ρ i) (hq : ∀ i, rt q i = jn p x y i) (i : Nat) : rt q i = jnR ρ x y i := by
  rw [hq]
  unfold jn jnR
  rw [hp, hp, hp]
end Go.Proofs.YtddnebgnohlchaaGreatDoor
namespace Go.Proofs.YtddnebgnohlchaaGreatDoor
open Go.RowKit
attribute [local go_sem ↓] Go.wp_at_zero Go.wp_at_succ

/-- The basins' lists. -/
def jnL (m n : Nat) (l : List Int) (lv : Int) : List (List Int) := lsK (joN (fun p => (gP2 m n l p).getD 0) lv (psQ (gP2 m n l) l.length l.length 0)) (rmK m n l.length) (rmK m n l.length).length
set_option maxRecDepth 4000 in
set_option maxHeartbeats 16000000 in
theorem joined_ok (g : Nat → Addr) {m n Lb Lo Lcap : Nat} {l : List Int} (lv : Int) (w : World) (hR : Rs w Lb Lo Lcap l) (ok : Ok l m n) (hv : vcode m n l = 0) (hl : Lai w g) : Calls Tryz.prog 8 #[raV m n (.slice (some ⟨Lb, Lo, none⟩) l.length Lcap), .int .i64 lv] w fun e w' => ∃ v, e = .returned (.tuple #[v, .nilIface]) ∧ ∃ base vs, RR w' base v vs (jnL m n l lv) ∧ w.heap.size ≤ base ∧ Gr w w' := by
  have hlen := ok.len_le
  have PX : Hid (PF w (w.alloc (.cells #[.int .i64 (m : Int), .int .i64 (n : Int), .slice (some ⟨Lb, Lo, none⟩) l.length Lcap] 32)) w.heap.size [.int .i64 (m : Int), .int .i64 (n : Int), .slice (some ⟨Lb, Lo, none⟩) l.length Lcap]) := ⟨At.new3 _ _ _ _ _, (Gr.refl w).alloc _⟩
  have C1 : Hid (∀ W, Gr w W → Calls Tryz.prog 7 #[raV m n (.slice (some ⟨Lb, Lo, none⟩) l.length Lcap)] W fun e w' => PsA m n l W w' e) := fun W hG => passes_ok g W (hR.below hG.out) ok hv (hl.below hG.out)
  have HAp := hidb (fun W => apart_any l.length (by omega) W)
  have C3 := hidb (fun W => rim_any (Lb := Lb) (Lo := Lo) (Lcap := Lcap) W ok)
  have HKy := hidb (fun p (hp : p ∈ psQ (gP2 m n l) l.length l.length 0) => psQ_key ok hp)
  obtain ⟨Q, hQ⟩ : ∃ Q, Q = psQ (gP2 m n l) l.length l.length 0 := ⟨_, rfl⟩
  obtain ⟨G, hG⟩ : ∃ G : Nn → Int, G = fun p => (gP2 m n l p).getD 0 := ⟨_, rfl⟩
  have HJL : Hid (jnL m n l lv = lsK (joN G lv Q) (rmK m n l.length) (rmK m n l.length).length) := by show _ = _; rw [hQ, hG]; rfl
  have HPs : Hid (∀ W w' e, PsA m n l W w' e → ∃ ad b cap, e = .returned (.tuple #[.slice ad Q.length cap, .nilIface]) ∧ TSl w' G ad b cap Q ∧ Gr W w' ∧ Q.length ≤ 65536) := fun W w' e h => by rw [hQ, hG]; exact h
  rw [← hQ] at HKy
  obtain ⟨N, hN⟩ : ∃ N, N = l.length := ⟨_, rfl⟩
  rw [← hN] at PX C1 HAp C3 HKy HJL hlen ⊢
  have HL := hidb hlen
  clear hR ok hv hl hlen hQ hG hN
  show Calls Tryz.prog 8 #[.agg #[.int .i64 (m : Int), .int .i64 (n : Int), .slice (some ⟨Lb, Lo, none⟩) N Lcap], .int .i64 lv] w _
  go_enter Tryz.func8, Tryz.ntmps8
  obtain ⟨q0, q1, q2⟩ := PX.out.a.c3
  go_wp2_with fail
  refine (C1.out _ PX.out.gr).mono ?_
  intro e w1 hps
  obtain ⟨ad, b, cap, rfl, hT, hB, hQl⟩ := HPs.out _ _ _ hps
  have HPl := hidb hQl
  replace PX := hidb (PX.out.below hB.out)
  have HTx := hidb hT.ix
  have HT := hidb hT
  obtain ⟨K, hK⟩ : ∃ K, K = Q.length := ⟨_, rfl⟩
  have HK := hidb hK
  rw [← hK] at HTx HPl ⊢
  clear hps hT hB q0 q1 q2 C1 HPs hK hQl
  have hPX1 := PX.out.a.lt
  obtain ⟨q0, q1, q2⟩ := PX.out.a.c3
  go_wp2_with fail
  refine (HAp.out _).mono ?_
  rintro e w2 ⟨GB, rfl, hGA, hGB, hB⟩
  replace PX := hidb (PX.out.below hB.out)
  have E0 : Hid (LJ w w2 G ad b cap GB N Q (joN G lv (Q.take 0))) := ⟨HT.out.below hB.out, ⟨_, id, hGA, idK_gs N, fun i => rt_id i⟩, PX.out.gr, ⟨fun j hj => by have := (HT.out.row j hj).2; omega, by omega⟩⟩
  have HGw := hidb E0.out.b.2
  clear hB hGA hGB q0 q1 q2 HAp HT hPX1
  go_wp2
  go_loopw [25] (fun t wr => ∃ j : Nat, j ≤ K ∧ t = .int .i64 (j : Int) ∧ Hid (LJ w wr G ad b cap GB N Q (joN G lv (Q.take j))) ∧ Hid (PF w wr w.heap.size [.int .i64 (m : Int), .int .i64 (n : Int), .slice (some ⟨Lb, Lo, none⟩) N Lcap])) (fun t _ => K - (intOf t).toNat)
  case atStart => exact ⟨0, Nat.zero_le _, rfl, E0, PX⟩
  case round =>
    clear E0 PX
    obtain ⟨j, hj, rfl, E, X⟩ := hrel
    by_cases h1 : ¬ j < K
    · have h1' : ¬ (j : Int) < (K : Int) := by omega
      obtain rfl : j = K := by omega
      obtain ⟨q0, q1, q2⟩ := X.out.a.c3
      have HJ2 : Hid (joN G lv (Q.take j) = joN G lv Q) := by show _ = _; rw [HK.out, List.take_length]
      have HMe : Hid (Mem (joN G lv Q) (rmK m n N)) := hidb (JI.all Q (fun p hp => (HKy.out p hp).2.2)).mem
      clear h1 h1'
      go_wp2_with fail
      refine (C3.out _).mono ?_
      rintro e w3 ⟨v, rfl, base, hown, hb, hB⟩
      obtain ⟨ad2, b2, cap2, rfl, hS, hSb⟩ := own_islb hown
      have hat : GB < wr.heap.size := by obtain ⟨_, _, a1, _, _⟩ := E.out.g; exact a1.lt
      replace E := hidb (E.out.below hB.out)
      obtain ⟨LG, p, a1, a2, a3⟩ := E.out.g
      have a3' : rt p = joN G lv Q := by rw [← HJ2.out]; exact funext a3
      have HLi := hidb (lists_any (M := rmK m n N) w3 HL.out a1 a2 hS (by omega) (Nat.le_trans (rmK_len m n N) HL.out) (fun x hx => (rmK_mem.1 hx).1) (by rw [a3']; exact HMe.out))
      rw [a3', ← HJL.out] at HLi
      have hon : (on (rmK m n N)).length = (rmK m n N).length := by simp [on]
      rw [hon]
      clear hown hb hB hS hSb a1 a2 a3 a3' hat q0 q1 q2 hon
      go_wp2_with fail
      refine HLi.out.mono ?_
      rintro e w5 ⟨v, rfl, base, vs, k1, k2, k3⟩
      have HZ := hidb (show RR w5 base v vs (jnL m n l lv) ∧ w.heap.size ≤ base ∧ Gr w w5 from ⟨k1, by have := E.out.gr.out.size; omega, E.out.gr.onl k3 (Nat.le_of_lt E.out.b.2)⟩)
      clear k1 k2 k3 HLi E
      go_wp2
      go_ret2
      exact ⟨v, rfl, base, vs, HZ.out⟩
    · have h1' : (j : Int) < (K : Int) := by omega
      have hjK : j < K := by omega
      have HjK := hidb hjK
      have hjQ : j < Q.length := by rw [← HK.out]; exact hjK
      have e1 : IntKind.i64.wrap ((j : Int) + 1) = ((j + 1 : Nat) : Int) := by rw [show (j : Int) + 1 = ((j + 1 : Nat) : Int) by omega]; exact wrap_in (by have := HPl.out; omega) (by have := HPl.out; omega)
      have ix := HTx.out j hjK
      obtain ⟨⟨c0, c1, c2⟩, -⟩ := E.out.p.row j hjQ
      have hmem : tx Q j ∈ Q := by rw [← tx_get hjQ]; exact List.getElem_mem hjQ
      have HSn : Hid (joN G lv (Q.take (j + 1)) = if G (tx Q j) ≤ lv then jnR (joN G lv (Q.take j)) (tx Q j).1 (tx Q j).2 else joN G lv (Q.take j)) := by show _ = _; rw [List.take_succ_eq_append_getElem hjQ, joN_snoc, tx_get hjQ]
      obtain ⟨hx, hy, -, -⟩ := HKy.out _ hmem
      have HJn := hidb (fun (W : World) LG q (h1 : At W GB (ir LG)) (h2 : Gs LG N q) => join_any (tx Q j).1 (tx Q j).2 hx hy W h1 h2)
      generalize (tx Q j).1 = x at *
      generalize (tx Q j).2 = y at *
      generalize G (tx Q j) = h at *
      clear hmem hx hy hjQ hjK h1
      have FP := hidb (At.new3 wr (.int .i64 (x : Int)) (.int .i64 (y : Int)) (.int .i64 h) 45)
      have HG := hidb ((Gr.refl wr).alloc (.cells #[.int .i64 (x : Int), .int .i64 (y : Int), .int .i64 h] 45))
      go_upto_region 8 with fail
      obtain ⟨R, hRd⟩ : ∃ R, R = wr.heap.size := ⟨_, rfl⟩
      rw [← hRd] at FP ⊢
      generalize wr.alloc (.cells #[.int .i64 (x : Int), .int .i64 (y : Int), .int .i64 h] 45) = W1 at *
      replace E := hidb (E.out.below HG.out)
      replace X := hidb (X.out.below HG.out)
      clear HG hRd c0 c1 c2 ix
      obtain ⟨r0, r1, r2⟩ := FP.out.c3
      by_cases hh : h ≤ lv
      · obtain ⟨LG, q, g1, g2, g3⟩ := E.out.g
        have HJ2 := hidb (HJn.out _ LG q g1 g2)
        have HS2 : Hid (joN G lv (Q.take (j + 1)) = jnR (joN G lv (Q.take j)) x y) := by show _ = _; rw [HSn.out, if_pos hh]
        clear g1 g2 HJn HSn
        go_wp2_with fail
        refine HJ2.out.mono ?_
        rintro e w5 ⟨rfl, L2, q2, k1, k2, k3, k4⟩
        have HE5 := hidb (E.out.join (ρ' := joN G lv (Q.take (j + 1))) k4 ⟨L2, q2, k1, k2, fun i => by rw [HS2.out]; exact jo_join g3 k3 i⟩)
        have HX5 : Hid (PF w w5 w.heap.size [.int .i64 (m : Int), .int .i64 (n : Int), .slice (some ⟨Lb, Lo, none⟩) N Lcap]) := ⟨X.out.a.onl k4 (by have := HGw.out; omega), HE5.out.gr⟩
        clear k1 k2 k3 k4 g3 HJ2 E X r0 r1 r2 FP
        go_wp2
        go_roundw
        case rel => exact ⟨j + 1, HjK.out, by go_num, HE5, HX5⟩
        case measure => have := HjK.out; simp [intOf]; omega
      · have HS2 : Hid (joN G lv (Q.take (j + 1)) = joN G lv (Q.take j)) := by show _ = _; rw [HSn.out, if_neg hh]
        go_wp2
        go_roundw
        case rel => exact ⟨j + 1, HjK.out, by go_num, by rw [HS2.out]; exact E, X⟩
        case measure => have := HjK.out; simp [intOf]; omega
end Go.Proofs.YtddnebgnohlchaaGreatDoor
namespace Go.Proofs.YtddnebgnohlchaaGreatDoor
open Go.RowKit
attribute [local go_sem ↓] Go.wp_at_zero Go.wp_at_succ

set_option maxRecDepth 4000 in
set_option maxHeartbeats 8000000 in
theorem passes_no (g : Nat → Addr) {W H : Int} {ad : Option Addr} {b o cap : Nat} {l : List Int} (w : World) (h : ISl w ad b o cap l) (ll : l.length ≤ 20000) (hl : Lai w g) (hv : ¬ vcode W H l = 0) : Calls Tryz.prog 7 #[raV W H (.slice ad l.length cap)] w fun e w' => e = .returned (.tuple #[.slice none 0 0, evc g (vcode W H l)]) ∧ Gr w w' := by
  have PX : Hid (PF w (w.alloc (.cells #[.int .i64 W, .int .i64 H, .slice ad l.length cap] 32)) w.heap.size [.int .i64 W, .int .i64 H, .slice ad l.length cap]) := ⟨At.new3 _ _ _ _ _, (Gr.refl w).alloc _⟩
  have C1 := hidb (basins_no g _ (h.below PX.out.gr.out) ll (hl.below PX.out.gr.out) hv)
  rw [evc_of hv] at C1 ⊢
  generalize vcode W H l - 1 = ei at *
  clear h ll hl hv
  go_enter Tryz.func7, Tryz.ntmps7
  obtain ⟨q0, q1, q2⟩ := PX.out.a.c3
  go_wp2_with fail
  refine C1.out.mono ?_
  rintro e w1 ⟨rfl, hB⟩
  clear q0 q1 q2
  go_wp2
  go_ret2
  exact ⟨rfl, Gr.step PX.out.gr hB.out⟩
set_option maxRecDepth 4000 in
set_option maxHeartbeats 8000000 in
theorem joined_no (g : Nat → Addr) {W H : Int} (lv : Int) {ad : Option Addr} {b o cap : Nat} {l : List Int} (w : World) (h : ISl w ad b o cap l) (ll : l.length ≤ 20000) (hl : Lai w g) (hv : ¬ vcode W H l = 0) : Calls Tryz.prog 8 #[raV W H (.slice ad l.length cap), .int .i64 lv] w fun e w' => e = .returned (.tuple #[.slice none 0 0, evc g (vcode W H l)]) ∧ Gr w w' := by
  have PX : Hid (PF w (w.alloc (.cells #[.int .i64 W, .int .i64 H, .slice ad l.length cap] 32)) w.heap.size [.int .i64 W, .int .i64 H, .slice ad l.length cap]) := ⟨At.new3 _ _ _ _ _, (Gr.refl w).alloc _⟩
  have C1 := hidb (passes_no g _ (h.below PX.out.gr.out) ll (hl.below PX.out.gr.out) hv)
  rw [evc_of hv] at C1 ⊢
  generalize vcode W H l - 1 = ei at *
  clear h ll hl hv
  go_enter Tryz.func8, Tryz.ntmps8
  obtain ⟨q0, q1, q2⟩ := PX.out.a.c3
  go_wp2_with fail
  refine C1.out.mono ?_
  rintro e w1 ⟨rfl, hB⟩
  clear q0 q1 q2
  go_wp2
  go_ret2
  exact ⟨rfl, Gr.step PX.out.gr hB.out⟩
set_option maxRecDepth 4000 in
set_option maxHeartbeats 4000000 in
theorem passesL_no (g : Nat → Addr) (u v : Value) (w : World) (hl : Laid w g) (h1 : ∀ W, Gr w W → Calls Tryz.prog 6 #[u] W fun e w' => e = .returned (.bool false) ∧ w' = W) : Calls Tryz.prog 3 #[u, v] w fun e w' => e = .returned (.bool true) ∧ Gr w w' := by
  have CR := hidb (based_any g w hl.lai)
  have S1 := hidb h1
  clear hl h1
  go_enter Tryz.func3, Tryz.ntmps3
  go_wp2_with fail
  refine CR.out.mono ?_
  rintro e w1 ⟨rfl, hB⟩
  have G := hidb hB
  clear hB
  go_wp2_with fail
  refine (S1.out _ G.out).mono ?_
  rintro e w2 ⟨rfl, rfl⟩
  go_wp2
  go_ret
  exact ⟨rfl, G.out⟩
set_option maxRecDepth 4000 in
set_option maxHeartbeats 8000000 in
theorem passesL_A (g : Nat → Addr) {pb po : Nat} {W H : Int} {ad : Option Addr} {b o cap : Nat} {l : List Int} (lv : Int) (w : World) (hl : Laid w g) (hR : Rin w pb po W H ad b o cap l) (ll : l.length ≤ 80) (hv : ¬ vcode W H l = 0) : Calls Tryz.prog 3 #[.pointer (some ⟨pb, po, none⟩), .int .i64 lv] w fun e w' => e = .returned (.bool true) ∧ Gr w w' := by
  have CR := hidb (based_any g w hl.lai)
  have S1 := hidb (fun W1 (hG : Gr w W1) => small4_any pb po W H ad l.length cap W1 (hR.below hG).pt)
  rw [decide_eq_true ll] at S1
  have C1 := hidb (fun W1 (hG : Gr w W1) => passes_no g W1 (hR.below hG).sl (by omega) (hl.below hG.out).lai hv)
  have C2 := hidb (fun W1 (hG : Gr w W1) => joined_no g lv W1 (hR.below hG).sl (by omega) (hl.below hG.out).lai hv)
  have CW := hidb (fun W1 (hG : Gr w W1) => rasterError_any pb po W H ad b o cap l W1 (hR.below hG).pt (hR.below hG).sl (by omega))
  have hc8 : vcode W H l ≤ 8 := by unfold vcode; split; omega; split; omega; split <;> omega
  have CE := hidb (fun W1 (hG : Gr w W1) => coded_evc g (vcode W H l) hc8 W1 (hl.below hG.out))
  have HR := hidb hR
  have hv' : (0 : Int) < (vcode W H l : Int) := by omega
  obtain ⟨vc, hvc⟩ : ∃ z : Int, z = (vcode W H l : Int) := ⟨_, rfl⟩
  rw [← hvc] at CW CE hv'
  generalize vcode W H l = v at *
  generalize evc g v = ev at *
  clear hl hR ll hv hc8 hvc
  go_enter Tryz.func3, Tryz.ntmps3
  go_wp2_with fail
  refine CR.out.mono ?_
  rintro e w1 ⟨rfl, hB⟩
  have G := hidb hB
  clear hB
  go_wp2_with fail
  refine (S1.out _ G.out).mono ?_
  rintro e w2 ⟨rfl, rfl⟩
  obtain ⟨p0, p1, p2⟩ := (HR.out.below G.out).pt.all
  go_wp2_with fail
  refine (C1.out _ G.out).mono ?_
  rintro e w3 ⟨rfl, hB3⟩
  replace G := hidb (Gr.step G.out hB3.out)
  clear hB3 p0 p1 p2
  obtain ⟨p0, p1, p2⟩ := (HR.out.below G.out).pt.all
  go_wp2_with fail
  refine (C2.out _ G.out).mono ?_
  rintro e w5 ⟨rfl, hB5⟩
  replace G := hidb (Gr.step G.out hB5.out)
  clear hB5 p0 p1 p2
  go_wp2_with fail
  refine (CW.out _ G.out).mono ?_
  rintro e w7 ⟨rfl, hB7⟩
  replace G := hidb (Gr.step G.out hB7.out)
  clear hB7
  go_wp2_with fail
  refine (CE.out _ G.out).mono ?_
  rintro e w8 ⟨rfl, hB8⟩
  replace G := hidb (Gr.step G.out hB8.out)
  clear hB8
  go_wp2_with fail
  refine (CE.out _ G.out).mono ?_
  rintro e w9 ⟨rfl, hB9⟩
  replace G := hidb (Gr.step G.out hB9.out)
  clear hB9
  go_wp2
  go_ret
  exact ⟨rfl, G.out⟩
end Go.Proofs.YtddnebgnohlchaaGreatDoor
namespace Go.Proofs.YtddnebgnohlchaaGreatDoor
open Go.RowKit

theorem rmK_succ' (m n k : Nat) : rmK m n (k + 1) = rmK m n k ++ if rim m n k then [k] else [] := by
  rw [rmK_succ]
  split
  · rfl
  · rw [List.append_nil]
section
variable (m n : Nat) (ρ : Nat → Nat)
/-- The first ones below i; the basins below j of one. -/
def fsP (i : Nat) : List Nat := (rmK m n i).filter (fun x => decide (ρ x = x))
def wnP (r j : Nat) : List Nat := (rmK m n j).filter (fun x => decide (ρ x = r))
def lkP (N : Nat) : List (List Int) := lsK ρ (rmK m n N) (rmK m n N).length
theorem fsP_succ (i : Nat) : fsP m n ρ (i + 1) = fsP m n ρ i ++ if rim m n i ∧ ρ i = i then [i] else [] := by
  unfold fsP
  rw [rmK_succ', List.filter_append]
  by_cases c : rim m n i
  · by_cases d : ρ i = i
    · simp [c, d]
    · simp [c, d]
  · simp [c]
theorem wnP_succ (r j : Nat) : wnP m n ρ r (j + 1) = wnP m n ρ r j ++ if rim m n j ∧ ρ j = r then [j] else [] := by
  unfold wnP
  rw [rmK_succ', List.filter_append]
  by_cases c : rim m n j
  · by_cases d : ρ j = r
    · simp [c, d]
    · simp [c, d]
  · simp [c]
theorem fsP_pre (i : Nat) : ∀ d, fsP m n ρ i <+: fsP m n ρ (i + d)
  | 0 => List.prefix_refl _
  | d + 1 => by
    rw [← Nat.add_assoc, fsP_succ]
    exact (fsP_pre i d).trans (List.prefix_append _ _)
theorem lkP_eq (N : Nat) : lkP m n ρ N = (fsP m n ρ N).map fun r => on (wnP m n ρ r N) := by
  unfold lkP lsK rsK grK fsP wnP
  rw [List.take_length]
theorem fsP_len (i : Nat) : (fsP m n ρ i).length ≤ i := Nat.le_trans (List.length_filter_le _ _) (rmK_len m n i)
theorem wnP_len (r j : Nat) : (wnP m n ρ r j).length ≤ j := Nat.le_trans (List.length_filter_le _ _) (rmK_len m n j)
variable {m n ρ}
theorem wnP_low (h : ∀ i, ρ i ≤ i) (r : Nat) : wnP m n ρ r r = [] := by
  unfold wnP
  rw [List.filter_eq_nil_iff]
  intro x hx
  have h1 := (rmK_mem.1 hx).1
  have h2 := h x
  rw [decide_eq_true_iff]
  omega
theorem fsP_get {N i : Nat} (hi : i < N) (h : rim m n i ∧ ρ i = i) : (fsP m n ρ i).length < (lkP m n ρ N).length ∧ lx (lkP m n ρ N) (fsP m n ρ i).length = on (wnP m n ρ i N) := by
  have hp := fsP_pre m n ρ (i + 1) (N - (i + 1))
  rw [show i + 1 + (N - (i + 1)) = N by omega, fsP_succ, if_pos h] at hp
  obtain ⟨t, ht⟩ := hp
  have e : lkP m n ρ N = ((fsP m n ρ i).map fun r => on (wnP m n ρ r N)) ++ on (wnP m n ρ i N) :: (t.map fun r => on (wnP m n ρ r N)) := by
    rw [lkP_eq, ← ht]
    simp
  have h1 : (fsP m n ρ i).length < (lkP m n ρ N).length := by rw [e]; simp
  have h2 : (lkP m n ρ N)[(fsP m n ρ i).length]'h1 = on (wnP m n ρ i N) := by
    simp only [e]
    rw [List.getElem_append_right (by simp)]
    simp
  exact ⟨h1, by rw [← lx_get h1]; exact h2⟩
theorem fsP_end (N : Nat) : (fsP m n ρ N).length = (lkP m n ρ N).length := by rw [lkP_eq]; simp
end
/-- The next pass in the statement's order. -/
theorem psQ_at {G : Nn → Option Int} {N x y : Nat} (hx : x < N) (hxy : x < y) (hy : y < N) (hg : (G (x, y)).isSome = true) : (psQ G N x y).length < (psQ G N N 0).length ∧ tx (psQ G N N 0) (psQ G N x y).length = (x, y) ∧ psQ G N x (y + 1) = psQ G N x y ++ [(x, y)] := by
  have h1 := psQ_yes G N hxy hg
  obtain ⟨t, ht⟩ := psQ_pre G N (x := x) (y := y + 1) hx hy
  rw [h1] at ht
  refine ⟨by rw [← ht]; simp, by rw [← ht]; unfold tx; simp, h1⟩
theorem idK_rh (N : Nat) : idK N N = rhL id N := by
  unfold idK rhL
  refine List.map_congr_left (fun i hi => ?_)
  rw [if_pos (List.mem_range.1 hi)]
  rfl
end Go.Proofs.YtddnebgnohlchaaGreatDoor
