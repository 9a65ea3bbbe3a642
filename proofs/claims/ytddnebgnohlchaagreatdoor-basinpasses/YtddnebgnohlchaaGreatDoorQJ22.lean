/-
  mercatorref4.PassOf.; mercatorlaw4.joinAll; basin.rim.
-/
import Derived.Test.YtddnebgnohlchaaGreatDoorQJ19
import Derived.Test.YtddnebgnohlchaaGreatDoorQJ17
import Derived.Test.YtddnebgnohlchaaGreatDoorQJ18
namespace Go.Proofs.YtddnebgnohlchaaGreatDoor
open Go.RowKit
attribute [local go_sem ↓] Go.wp_at_zero Go.wp_at_succ

/-- The heights where two basins touch, as far as it has come. -/
def SR (m n : Nat) (l : List Int) (x y i k : Nat) (v : Int) : Prop := ∃ i' k', i' < l.length ∧ k' < l.length ∧ (i' < i ∨ i' = i ∧ k' < k) ∧ tch m i' k' ∧ hom m n l i' = x ∧ hom m n l k' = y ∧ v = max (gl l i') (gl l k')
theorem SR.zero {m n : Nat} {l : List Int} {x y : Nat} : Lst (SR m n l x y 0 0) none := fun v ⟨i', k', _, _, h, _⟩ => by omega
theorem Lst.same {S T : Int → Prop} {o : Option Int} (h : Lst S o) (hs : ∀ v, T v ↔ S v) : Lst T o := by
  cases o with
  | none => exact fun v hv => h v ((hs v).1 hv)
  | some u => exact ⟨(hs u).2 h.1, fun v hv => h.2 v ((hs v).1 hv)⟩
theorem SR.row {m n : Nat} {l : List Int} {x y i : Nat} (v : Int) : SR m n l x y (i + 1) 0 v ↔ SR m n l x y i l.length v := by
  constructor
  · rintro ⟨i', k', h1, h2, h3, h4⟩
    exact ⟨i', k', h1, h2, by omega, h4⟩
  · rintro ⟨i', k', h1, h2, h3, h4⟩
    exact ⟨i', k', h1, h2, by omega, h4⟩
theorem SR.skip {m n : Nat} {l : List Int} {x y i : Nat} (h : ¬ hom m n l i = x) (v : Int) : SR m n l x y (i + 1) 0 v ↔ SR m n l x y i 0 v := by
  constructor
  · rintro ⟨i', k', h1, h2, h3, h4, h5, h6⟩
    by_cases e : i' = i
    · rw [e] at h5; exact absurd h5 h
    · exact ⟨i', k', h1, h2, by omega, h4, h5, h6⟩
  · rintro ⟨i', k', h1, h2, h3, h4⟩
    exact ⟨i', k', h1, h2, by omega, h4⟩
theorem SR.no {m n : Nat} {l : List Int} {x y i k : Nat} (h : ¬ (tch m i k ∧ hom m n l k = y)) (v : Int) : SR m n l x y i (k + 1) v ↔ SR m n l x y i k v := by
  constructor
  · rintro ⟨i', k', h1, h2, h3, h4, h5, h6, h7⟩
    by_cases e : i' = i ∧ k' = k
    · rw [e.1, e.2] at h4; rw [e.2] at h6; exact absurd ⟨h4, h6⟩ h
    · exact ⟨i', k', h1, h2, by omega, h4, h5, h6, h7⟩
  · rintro ⟨i', k', h1, h2, h3, h4⟩
    exact ⟨i', k', h1, h2, by omega, h4⟩
theorem SR.yes {m n : Nat} {l : List Int} {x y i k : Nat} (hi : i < l.length) (hk : k < l.length) (ht : tch m i k) (hx : hom m n l i = x) (hy : hom m n l k = y) (v : Int) : SR m n l x y i (k + 1) v ↔ SR m n l x y i k v ∨ v = max (gl l i) (gl l k) := by
  constructor
  · rintro ⟨i', k', h1, h2, h3, h4, h5, h6, h7⟩
    by_cases e : i' = i ∧ k' = k
    · rw [e.1, e.2] at h7; exact .inr h7
    · exact .inl ⟨i', k', h1, h2, by omega, h4, h5, h6, h7⟩
  · rintro (⟨i', k', h1, h2, h3, h4⟩ | rfl)
    · exact ⟨i', k', h1, h2, by omega, h4⟩
    · exact ⟨i, k, hi, hk, by omega, ht, hx, hy, rfl⟩
/-- The lesser one. -/
def lsI : Option Int → Int → Int
  | none, h => h
  | some b, h => if h < b then h else b
theorem Lst.more {S T : Int → Prop} {o : Option Int} {h : Int} (hl : Lst S o) (hs : ∀ v, T v ↔ S v ∨ v = h) : Lst T (some (lsI o h)) := by
  cases o with
  | none => exact ⟨(hs h).2 (.inr rfl), fun v hv => ((hs v).1 hv).elim (fun k => absurd k (hl v)) (fun e => by rw [e]; exact Int.le_refl _)⟩
  | some b =>
    show Lst T (some (if h < b then h else b))
    split
    · exact ⟨(hs h).2 (.inr rfl), fun v hv => ((hs v).1 hv).elim (fun k => by have := hl.2 v k; omega) (fun e => by omega)⟩
    · exact ⟨(hs b).2 (.inl hl.1), fun v hv => ((hs v).1 hv).elim (fun k => hl.2 v k) (fun e => by omega)⟩
/-- What PassOf answers. -/
def PfA (m n : Nat) (l : List Int) (x y : Nat) (w w' : World) (e : Ending) : Prop := ∃ o : Option Int, e = .returned (.tuple #[.int .i64 (o.getD 0), .bool o.isSome]) ∧ Lst (Sxy m n l x y) o ∧ Gr w w'
theorem gl_hm {m n : Nat} {l : List Int} {i : Nat} (h : i < l.length) : gl (hmL m n l) i = (hom m n l i : Int) := by unfold hmL; exact gl_map h
set_option maxRecDepth 4000 in
set_option maxHeartbeats 8000000 in
theorem passOf_any {m n pb po Lb Lo Lcap hb ho hcap : Nat} {had : Option Addr} {l : List Int} (x y : Nat) (w : World) (hp : PtR w pb po m n (.slice (some ⟨Lb, Lo, none⟩) l.length Lcap)) (hR : Rs w Lb Lo Lcap l) (ok : Ok l m n) (hH : ISl w had hb ho hcap (hmL m n l)) : Calls Tryz.prog 13 #[.pointer (some ⟨pb, po, none⟩), .slice had l.length hcap, .int .i64 (x : Int), .int .i64 (y : Int)] w fun e w' => PfA m n l x y w w' e := by
  have hlen := ok.len_le
  have HTo := hidb (fun i k (hi : i < l.length) (hk : k < l.length) W (hG : Gr w W) => touchOf_any (pb := pb) (po := po) i k ok.m1 (by omega) (by omega) W (hp.below hG.out))
  have HPt := hidb (fun W (hG : Gr w W) => (hp.below hG.out).all)
  have HRs := hidb (fun W (hG : Gr w W) => hR.below hG.out)
  have HHc : Hid (∀ k, k < l.length → ∀ W, Gr w W → W.cell? ⟨hb, ho + k, none⟩ = some (.int .i64 (hom m n l k : Int))) := fun k hk W hG => by
    have hk' : k < (hmL m n l).length := by rw [hmL_len]; exact hk
    have := (hH.below hG.out).cell hk'
    rw [gl_get hk', gl_hm hk] at this
    exact this
  have HHx : Hid (∀ k : Nat, k < l.length → ∀ w, (Instr.indexAt 30 (.slice had l.length hcap) (.int .i64 k)).run Tryz.prog w = .ok (.pointer (some ⟨hb, ho + k, none⟩)) w) := fun k hk W => by
    have := hH.ix k (by rw [hmL_len]; exact hk) W
    rw [hmL_len] at this
    exact this
  have HL := hidb hlen
  obtain ⟨N, hN⟩ : ∃ N, N = l.length := ⟨_, rfl⟩
  have HN := hidb hN
  rw [← hN] at HTo HPt HHc HHx HL ⊢
  clear hp hR ok hH hlen hN
  go_enter Tryz.func13, Tryz.ntmps13
  go_wp2
  go_loopw [10, 11, 12] (fun s t u wr => ∃ (i : Nat) (o : Option Int), i ≤ N ∧ s = .int .i64 (o.getD 0) ∧ t = .bool o.isSome ∧ u = .int .i64 (i : Int) ∧ Hid (Lst (SR m n l x y i 0) o ∧ Gr w wr)) (fun _ _ u _ => N - (intOf u).toNat)
  case atStart => exact ⟨0, none, Nat.zero_le _, rfl, rfl, rfl, hidb ⟨SR.zero, Gr.refl w⟩⟩
  case round =>
    obtain ⟨i, o, hi, rfl, rfl, rfl, E⟩ := hrel
    obtain ⟨p0, p1, p2⟩ := HPt.out _ E.out.2
    by_cases h1 : ¬ i < N
    · have h1' : ¬ (i : Int) < (N : Int) := by omega
      have HZ : Hid (Lst (Sxy m n l x y) o) := by
        refine E.out.1.same (fun v => ?_)
        have hiN : i = l.length := by have := HN.out; omega
        constructor
        · rintro ⟨i', k', h1, h2, h3⟩
          exact ⟨i', k', h1, h2, by omega, h3⟩
        · rintro ⟨i', k', h1, h2, h3, h4⟩
          exact ⟨i', k', h1, h2, h4⟩
      clear h1
      go_wp2
      go_ret2
      exact ⟨o, rfl, HZ.out, E.out.2⟩
    · have h1' : (i : Int) < (N : Int) := by omega
      have hiN : i < N := by omega
      have HiN := hidb hiN
      have e1 : IntKind.i64.wrap ((i : Int) + 1) = ((i + 1 : Nat) : Int) := by rw [show (i : Int) + 1 = ((i + 1 : Nat) : Int) by omega]; exact wrap_in (by have := HL.out; omega) (by have := HL.out; omega)
      have HE1 := hidb e1
      have ixH := HHx.out i hiN
      have cH := HHc.out i hiN _ E.out.2
      have cL := (HRs.out _ E.out.2).get (i := i) (by rw [← HN.out]; exact hiN)
      by_cases hx : hom m n l i = x
      · have Hx := hidb hx
        rw [hx] at cH
        have E0 : Hid (Lst (SR m n l x y i 0) o ∧ Gr w wr) := E.out
        clear h1 hiN cL hx e1 E
        go_wp2
        go_loopw [10, 11, 13] (fun s t u wr => ∃ (k : Nat) (o : Option Int), k ≤ N ∧ s = .int .i64 (o.getD 0) ∧ t = .bool o.isSome ∧ u = .int .i64 (k : Int) ∧ Hid (Lst (SR m n l x y i k) o ∧ Gr w wr)) (fun _ _ u _ => N - (intOf u).toNat)
        case atStart => exact ⟨0, o, Nat.zero_le _, rfl, rfl, rfl, E0⟩
        case round =>
          clear E0 p0 p1 p2 cH ixH
          obtain ⟨k, o, hk, rfl, rfl, rfl, E⟩ := hrel
          obtain ⟨p0, p1, p2⟩ := HPt.out _ E.out.2
          by_cases h2 : ¬ k < N
          · have h2' : ¬ (k : Int) < (N : Int) := by omega
            obtain rfl : k = N := by omega
            have HZ : Hid (Lst (SR m n l x y (i + 1) 0) o) := E.out.1.same (fun v => by rw [HN.out]; exact SR.row v)
            have e1 := HE1.out
            clear h2
            go_wp2
            go_roundw
            case rel => exact ⟨i + 1, o, HiN.out, rfl, rfl, by go_num, hidb ⟨HZ.out, E.out.2⟩⟩
            case measure => have := HiN.out; simp [intOf]; omega
          · have h2' : (k : Int) < (N : Int) := by omega
            have hkN : k < N := by omega
            have HkN := hidb hkN
            have e2 : IntKind.i64.wrap ((k : Int) + 1) = ((k + 1 : Nat) : Int) := by rw [show (k : Int) + 1 = ((k + 1 : Nat) : Int) by omega]; exact wrap_in (by have := HL.out; omega) (by have := HL.out; omega)
            have HT := hidb (HTo.out i k HiN.out hkN _ E.out.2)
            by_cases ht : tch m i k
            · rw [decide_eq_true ht] at HT
              have Ht := hidb ht
              clear h2 ht
              go_wp2_with fail
              refine HT.out.mono ?_
              rintro e w5 ⟨rfl, hB5⟩
              replace E := hidb (show Lst (SR m n l x y i k) o ∧ Gr w w5 from ⟨E.out.1, Gr.step E.out.2 hB5.out⟩)
              clear hB5 p0 p1 p2 HT
              obtain ⟨p0, p1, p2⟩ := HPt.out _ E.out.2
              have ixK := HHx.out k hkN
              have cK := HHc.out k hkN _ E.out.2
              by_cases hy : hom m n l k = y
              · rw [hy] at cK
                have ixL1 := iindex Lb Lo N Lcap i HiN.out
                have ixL2 := iindex Lb Lo N Lcap k hkN
                have cL1 := (HRs.out _ E.out.2).get (i := i) (by rw [← HN.out]; exact HiN.out)
                have cL2 := (HRs.out _ E.out.2).get (i := k) (by rw [← HN.out]; exact hkN)
                have HM : Hid (Lst (SR m n l x y i (k + 1)) (some (lsI o (max (gl l i) (gl l k))))) := E.out.1.more (fun v => SR.yes (by rw [← HN.out]; exact HiN.out) (by rw [← HN.out]; exact HkN.out) Ht.out Hx.out hy v)
                have HG := hidb E.out.2
                generalize gl l i = a at *
                generalize gl l k = b at *
                clear hkN hy E
                cases o with
                | none =>
                  dsimp only [lsI] at HM
                  by_cases hab : a < b
                  · have hm : max a b = b := by omega
                    rw [hm] at HM
                    clear hm
                    go_wp2
                    go_roundw
                    case rel => exact ⟨k + 1, some b, HkN.out, rfl, rfl, by go_num, hidb ⟨HM.out, HG.out⟩⟩
                    case measure => have := HkN.out; simp [intOf]; omega
                  · have hm : max a b = a := by omega
                    rw [hm] at HM
                    clear hm
                    go_wp2
                    go_roundw
                    case rel => exact ⟨k + 1, some a, HkN.out, rfl, rfl, by go_num, hidb ⟨HM.out, HG.out⟩⟩
                    case measure => have := HkN.out; simp [intOf]; omega
                | some u =>
                  dsimp only [lsI] at HM
                  by_cases hab : a < b
                  · have hm : max a b = b := by omega
                    rw [hm] at HM
                    clear hm
                    by_cases hu : b < u
                    · rw [if_pos hu] at HM
                      go_wp2
                      go_roundw
                      case rel => exact ⟨k + 1, some b, HkN.out, rfl, rfl, by go_num, hidb ⟨HM.out, HG.out⟩⟩
                      case measure => have := HkN.out; simp [intOf]; omega
                    · rw [if_neg hu] at HM
                      go_wp2
                      go_roundw
                      case rel => exact ⟨k + 1, some u, HkN.out, rfl, rfl, by go_num, hidb ⟨HM.out, HG.out⟩⟩
                      case measure => have := HkN.out; simp [intOf]; omega
                  · have hm : max a b = a := by omega
                    rw [hm] at HM
                    clear hm
                    by_cases hu : a < u
                    · rw [if_pos hu] at HM
                      go_wp2
                      go_roundw
                      case rel => exact ⟨k + 1, some a, HkN.out, rfl, rfl, by go_num, hidb ⟨HM.out, HG.out⟩⟩
                      case measure => have := HkN.out; simp [intOf]; omega
                    · rw [if_neg hu] at HM
                      go_wp2
                      go_roundw
                      case rel => exact ⟨k + 1, some u, HkN.out, rfl, rfl, by go_num, hidb ⟨HM.out, HG.out⟩⟩
                      case measure => have := HkN.out; simp [intOf]; omega
              · have HM := hidb (E.out.1.same (fun v => SR.no (x := x) (fun h => hy h.2) v))
                have HG := hidb E.out.2
                have hyI : ¬ ((hom m n l k : Nat) : Int) = (y : Int) := by omega
                have hyB : (((hom m n l k : Nat) : Int) == (y : Int)) = false := by simpa using hyI
                generalize hom m n l k = hk0 at *
                clear hy hkN E
                go_wp2
                go_roundw
                case rel => exact ⟨k + 1, o, HkN.out, rfl, rfl, by go_num, hidb ⟨HM.out, HG.out⟩⟩
                case measure => have := HkN.out; simp [intOf]; omega
            · rw [decide_eq_false ht] at HT
              have HM := hidb (E.out.1.same (fun v => SR.no (x := x) (fun h => ht h.1) v))
              clear h2 ht hkN
              go_wp2_with fail
              refine HT.out.mono ?_
              rintro e w5 ⟨rfl, hB5⟩
              have HG := hidb (Gr.step E.out.2 hB5.out)
              clear hB5 p0 p1 p2 HT E
              go_wp2
              go_roundw
              case rel => exact ⟨k + 1, o, HkN.out, rfl, rfl, by go_num, hidb ⟨HM.out, HG.out⟩⟩
              case measure => have := HkN.out; simp [intOf]; omega
      · have HZ : Hid (Lst (SR m n l x y (i + 1) 0) o) := E.out.1.same (SR.skip hx)
        have hxI : ¬ ((hom m n l i : Nat) : Int) = (x : Int) := by omega
        have hxB : (((hom m n l i : Nat) : Int) == (x : Int)) = false := by simpa using hxI
        generalize hom m n l i = hi0 at *
        clear h1 hiN cL hx
        go_wp2
        go_roundw
        case rel => exact ⟨i + 1, o, HiN.out, rfl, rfl, by go_num, hidb ⟨HZ.out, E.out.2⟩⟩
        case measure => have := HiN.out; simp [intOf]; omega
end Go.Proofs.YtddnebgnohlchaaGreatDoor
namespace Go.Proofs.YtddnebgnohlchaaGreatDoor
open Go.RowKit
attribute [local go_sem ↓] Go.wp_at_zero Go.wp_at_succ

/-- Whose each one is: a row. -/
def rhL (ρ : Nat → Nat) (N : Nat) : List Int := (List.range N).map (fun i => (ρ i : Int))
theorem rhL_len (ρ : Nat → Nat) (N : Nat) : (rhL ρ N).length = N := by simp [rhL]
theorem rhL_get {ρ : Nat → Nat} {N i : Nat} (h : i < N) : gl (rhL ρ N) i = (ρ i : Int) := by unfold rhL; exact gl_map h
/-- Two groups are one. -/
def jnR (ρ : Nat → Nat) (x y i : Nat) : Nat := if ρ i = max (ρ x) (ρ y) then min (ρ x) (ρ y) else ρ i
def jnK (ρ : Nat → Nat) (a b k i : Nat) : Nat := if i < k then (if ρ i = b then a else ρ i) else ρ i
theorem jnK_same {ρ : Nat → Nat} {a b k : Nat} (h : ¬ ρ k = b) : jnK ρ a b (k + 1) = jnK ρ a b k := by
  funext i
  unfold jnK
  by_cases e : i = k
  · subst e; rw [if_pos (by omega), if_neg h, if_neg (by omega)]
  · by_cases c : i < k
    · rw [if_pos c, if_pos (by omega)]
    · rw [if_neg c, if_neg (by omega)]
theorem jnK_set {ρ : Nat → Nat} {a b k N : Nat} (h : ρ k = b) (_hk : k < N) : (ir (rhL (jnK ρ a b k) N)).set k (.int .i64 (a : Int)) = ir (rhL (jnK ρ a b (k + 1)) N) := by
  apply List.ext_getElem
  · simp [ir, rhL]
  · intro i h1 h2
    have hi : i < N := by simpa [ir, rhL] using h2
    rw [List.getElem_set]
    by_cases e : k = i
    · subst e
      simp [ir, rhL, jnK, h]
    · rw [if_neg e]
      simp only [ir, rhL, List.map_map, List.getElem_map, List.getElem_range, Function.comp_apply]
      have : jnK ρ a b (k + 1) i = jnK ρ a b k i := by
        unfold jnK
        by_cases c : i < k
        · rw [if_pos c, if_pos (by omega)]
        · rw [if_neg c, if_neg (by omega)]
      rw [this]
set_option maxRecDepth 4000 in
set_option maxHeartbeats 4000000 in
theorem joinAll_any {OB N : Nat} {ρ : Nat → Nat} (x y : Nat) (hx : x < N) (hy : y < N) (hN : N ≤ 20000) (w : World) (hA : At w OB (ir (rhL ρ N))) : Calls Tryz.prog 14 #[.slice (some ⟨OB, 0, none⟩) N N, .int .i64 (x : Int), .int .i64 (y : Int)] w fun e w' => e = .returned (.tuple #[]) ∧ At w' OB (ir (rhL (jnR ρ x y) N)) ∧ Onl OB w w' := by
  have ixx := iindex OB 0 N N x hx
  have ixy := iindex OB 0 N N y hy
  rw [Nat.zero_add] at ixx ixy
  obtain ⟨cx, -⟩ := hA.get (j := x) (by rw [rhL_len]; exact hx)
  obtain ⟨cy, -⟩ := hA.get (j := y) (by rw [rhL_len]; exact hy)
  rw [gl_get (by rw [rhL_len]; exact hx), rhL_get hx] at cx
  rw [gl_get (by rw [rhL_len]; exact hy), rhL_get hy] at cy
  have HL := hidb hN
  have E0 : ∀ a b, Hid (At w OB (ir (rhL (jnK ρ a b 0) N)) ∧ Onl OB w w) := fun a b => ⟨by
    have : jnK ρ a b 0 = ρ := by funext i; unfold jnK; rw [if_neg (by omega)]
    rw [this]; exact hA, Onl.refl _ _⟩
  have HEnd : Hid (∀ a b, a = min (ρ x) (ρ y) → b = max (ρ x) (ρ y) → rhL (jnK ρ a b N) N = rhL (jnR ρ x y) N) := fun a b ha hb => by
    unfold rhL
    refine List.map_congr_left (fun i hi => ?_)
    have := List.mem_range.1 hi
    unfold jnK jnR
    rw [if_pos this, ha, hb]
  obtain ⟨a, b, ha, hb⟩ : ∃ a b, a = min (ρ x) (ρ y) ∧ b = max (ρ x) (ρ y) := ⟨_, _, rfl, rfl⟩
  have HE := hidb (HEnd.out a b ha hb)
  have E := E0 a b
  clear HEnd E0 hA hN
  by_cases hgt : ρ y < ρ x
  · have h1 : ((ρ y : Nat) : Int) < ((ρ x : Nat) : Int) := by omega
    obtain rfl : a = ρ y := by omega
    obtain rfl : b = ρ x := by omega
    generalize hbI : ρ x = b at *
    generalize haI : ρ y = a at *
    clear ha hb hgt hbI haI
    go_enter Tryz.func14, Tryz.ntmps14
    go_wp2
    clear cx cy ixx ixy
    go_loopw [8] (fun t wr => ∃ k : Nat, k ≤ N ∧ t = .int .i64 (k : Int) ∧ Hid (At wr OB (ir (rhL (jnK ρ a b k) N)) ∧ Onl OB w wr)) (fun t _ => N - (intOf t).toNat)
    case atStart => exact ⟨0, Nat.zero_le _, rfl, E⟩
    case round =>
      clear E
      obtain ⟨k, hk, rfl, E⟩ := hrel
      by_cases h2 : ¬ k < N
      · have h2' : ¬ (k : Int) < (N : Int) := by omega
        obtain rfl : k = N := by omega
        rw [HE.out] at E
        clear h2
        go_wp2
        go_end0
        exact ⟨rfl, E.out⟩
      · have h2' : (k : Int) < (N : Int) := by omega
        have hkN : k < N := by omega
        have HkN := hidb hkN
        have e1 : IntKind.i64.wrap ((k : Int) + 1) = ((k + 1 : Nat) : Int) := by rw [show (k : Int) + 1 = ((k + 1 : Nat) : Int) by omega]; exact wrap_in (by have := HL.out; omega) (by have := HL.out; omega)
        have ixk := iindex OB 0 N N k hkN
        rw [Nat.zero_add] at ixk
        obtain ⟨ck, fk⟩ := E.out.1.get (j := k) (by rw [rhL_len]; exact hkN)
        rw [gl_get (by rw [rhL_len]; exact hkN), rhL_get hkN, show jnK ρ a b k k = ρ k by unfold jnK; rw [if_neg (by omega)]] at ck
        by_cases hb : ρ k = b
        · have HA2 : Hid (At (wr.setCell ⟨OB, k, none⟩ (.int .i64 (a : Int))) OB (ir (rhL (jnK ρ a b (k + 1)) N)) ∧ Onl OB w (wr.setCell ⟨OB, k, none⟩ (.int .i64 (a : Int)))) := ⟨by rw [← jnK_set hb hkN]; exact E.out.1.put k _, E.out.2.set _ _⟩
          rw [hb] at ck
          clear h2 hkN hb E
          go_wp2
          go_roundw
          case rel => exact ⟨k + 1, HkN.out, by go_num, HA2⟩
          case measure => have := HkN.out; simp [intOf]; omega
        · have HJ := hidb (jnK_same (a := a) hb)
          have hbI : ¬ ((ρ k : Nat) : Int) = (b : Int) := by omega
          have hbB : (((ρ k : Nat) : Int) == (b : Int)) = false := by simpa using hbI
          clear h2 hkN hb
          go_wp2
          go_roundw
          case rel => exact ⟨k + 1, HkN.out, by go_num, by rw [HJ.out]; exact E⟩
          case measure => have := HkN.out; simp [intOf]; omega
  · have h1 : ¬ ((ρ y : Nat) : Int) < ((ρ x : Nat) : Int) := by omega
    obtain rfl : a = ρ x := by omega
    obtain rfl : b = ρ y := by omega
    generalize hbI : ρ y = b at *
    generalize haI : ρ x = a at *
    clear ha hb hgt hbI haI
    go_enter Tryz.func14, Tryz.ntmps14
    go_wp2
    clear cx cy ixx ixy
    go_loopw [8] (fun t wr => ∃ k : Nat, k ≤ N ∧ t = .int .i64 (k : Int) ∧ Hid (At wr OB (ir (rhL (jnK ρ a b k) N)) ∧ Onl OB w wr)) (fun t _ => N - (intOf t).toNat)
    case atStart => exact ⟨0, Nat.zero_le _, rfl, E⟩
    case round =>
      clear E
      obtain ⟨k, hk, rfl, E⟩ := hrel
      by_cases h2 : ¬ k < N
      · have h2' : ¬ (k : Int) < (N : Int) := by omega
        obtain rfl : k = N := by omega
        rw [HE.out] at E
        clear h2
        go_wp2
        go_end0
        exact ⟨rfl, E.out⟩
      · have h2' : (k : Int) < (N : Int) := by omega
        have hkN : k < N := by omega
        have HkN := hidb hkN
        have e1 : IntKind.i64.wrap ((k : Int) + 1) = ((k + 1 : Nat) : Int) := by rw [show (k : Int) + 1 = ((k + 1 : Nat) : Int) by omega]; exact wrap_in (by have := HL.out; omega) (by have := HL.out; omega)
        have ixk := iindex OB 0 N N k hkN
        rw [Nat.zero_add] at ixk
        obtain ⟨ck, fk⟩ := E.out.1.get (j := k) (by rw [rhL_len]; exact hkN)
        rw [gl_get (by rw [rhL_len]; exact hkN), rhL_get hkN, show jnK ρ a b k k = ρ k by unfold jnK; rw [if_neg (by omega)]] at ck
        by_cases hb : ρ k = b
        · have HA2 : Hid (At (wr.setCell ⟨OB, k, none⟩ (.int .i64 (a : Int))) OB (ir (rhL (jnK ρ a b (k + 1)) N)) ∧ Onl OB w (wr.setCell ⟨OB, k, none⟩ (.int .i64 (a : Int)))) := ⟨by rw [← jnK_set hb hkN]; exact E.out.1.put k _, E.out.2.set _ _⟩
          rw [hb] at ck
          clear h2 hkN hb E
          go_wp2
          go_roundw
          case rel => exact ⟨k + 1, HkN.out, by go_num, HA2⟩
          case measure => have := HkN.out; simp [intOf]; omega
        · have HJ := hidb (jnK_same (a := a) hb)
          have hbI : ¬ ((ρ k : Nat) : Int) = (b : Int) := by omega
          have hbB : (((ρ k : Nat) : Int) == (b : Int)) = false := by simpa using hbI
          clear h2 hkN hb
          go_wp2
          go_roundw
          case rel => exact ⟨k + 1, HkN.out, by go_num, by rw [HJ.out]; exact E⟩
          case measure => have := HkN.out; simp [intOf]; omega
/-- The cells of the rim, of the first k. -/
def rmK (m n k : Nat) : List Nat := (List.range k).filter (fun i => decide (rim m n i))
theorem rmK_succ (m n k : Nat) : rmK m n (k + 1) = if rim m n k then rmK m n k ++ [k] else rmK m n k := by
  unfold rmK
  rw [List.range_succ, List.filter_append]
  by_cases h : rim m n k <;> simp [h]
theorem rmK_len (m n k : Nat) : (rmK m n k).length ≤ k := by
  unfold rmK
  have := List.length_filter_le (fun i => decide (rim m n i)) (List.range k)
  simpa using this
set_option maxRecDepth 4000 in
set_option maxHeartbeats 4000000 in
theorem rim_any {m n Lb Lo Lcap : Nat} {l : List Int} (w : World) (ok : Ok l m n) : Calls Tryz.prog 29 #[raV m n (.slice (some ⟨Lb, Lo, none⟩) l.length Lcap)] w fun e w' => ∃ v, e = .returned v ∧ ∃ base, w'.ownsRow base 3 1 v (rmK m n l.length).length (ir (on (rmK m n l.length))) ∧ w.heap.size ≤ base ∧ Gr w w' := by
  have hlen := ok.len_le
  have HO : Hid (∀ k, k < l.length → ∀ W, Calls Tryz.prog 36 #[.agg #[.int .i64 (m : Int), .int .i64 (n : Int), .slice (some ⟨Lb, Lo, none⟩) l.length Lcap], .int .i64 (k : Int)] W fun e w' => e = .returned (.bool (decide (rim m n k))) ∧ Gr W w') := fun k hk W => onRim_any (m := m) (n := n) (some ⟨Lb, Lo, none⟩) l.length Lcap k ok.m1 ok.m2 ok.n2 (by rw [← ok.len]; exact hk) ok.len W
  have PX : Hid (PF w (w.alloc (.cells #[.int .i64 (m : Int), .int .i64 (n : Int), .slice (some ⟨Lb, Lo, none⟩) l.length Lcap] 32)) w.heap.size [.int .i64 (m : Int), .int .i64 (n : Int), .slice (some ⟨Lb, Lo, none⟩) l.length Lcap]) := ⟨At.new3 _ _ _ _ _, (Gr.refl w).alloc _⟩
  obtain ⟨N, hN⟩ : ∃ N, N = l.length := ⟨_, rfl⟩
  rw [← hN] at HO PX hlen ⊢
  have HL := hidb hlen
  obtain ⟨Rn, hRn⟩ : ∃ Rn, Rn = ir (on (rmK m n N)) := ⟨_, rfl⟩
  have HRn := hidb hRn
  rw [← hRn]
  clear ok hN hlen hRn
  show Calls Tryz.prog 29 #[.agg #[.int .i64 (m : Int), .int .i64 (n : Int), .slice (some ⟨Lb, Lo, none⟩) N Lcap]] w _
  go_enter Tryz.func29, Tryz.ntmps29
  obtain ⟨q0, q1, q2⟩ := PX.out.a.c3
  go_wp2
  generalize w.alloc (.cells #[.int .i64 (m : Int), .int .i64 (n : Int), .slice (some ⟨Lb, Lo, none⟩) N Lcap] 32) = w1 at *
  have HG1 := hidb PX.out.gr
  have HA1 := hidb PX.out.a
  clear q0 q1 q2 PX
  go_loopw [3, 8] (fun s t wr => ∃ (k q : Nat), k ≤ N ∧ t = .int .i64 (k : Int) ∧ Hid (wr.ownsRow w1.heap.size 3 1 s q (ir (on (rmK m n k))) ∧ (on (rmK m n k)).length = q ∧ Gr w1 wr)) (fun _ t _ => N - (intOf t).toNat)
  case atStart => exact ⟨0, 0, Nat.zero_le _, rfl, hidb ⟨World.ownsRow_nil _ _ _ _, rfl, Gr.refl _⟩⟩
  case round =>
    obtain ⟨k, q, hk, rfl, E⟩ := hrel
    obtain ⟨ad1, cap1, rfl⟩ := own_shape1' E.out.1
    by_cases h1 : ¬ k < N
    · have h1' : ¬ (k : Int) < (N : Int) := by omega
      obtain rfl : k = N := by omega
      have HZ : Hid (wr.ownsRow w1.heap.size 3 1 (.slice ad1 q cap1) (rmK m n k).length Rn ∧ w.heap.size ≤ w1.heap.size ∧ Gr w wr) := by
        have := E.out.2.1
        rw [List.length_map] at this
        rw [this, HRn.out]
        exact ⟨E.out.1, HG1.out.out.size, Gr.step HG1.out E.out.2.2.out⟩
      clear h1
      go_wp2
      go_ret
      exact ⟨.slice ad1 q cap1, rfl, w1.heap.size, HZ.out⟩
    · have h1' : (k : Int) < (N : Int) := by omega
      have hkN : k < N := by omega
      have HkN := hidb hkN
      have e1 : IntKind.i64.wrap ((k : Int) + 1) = ((k + 1 : Nat) : Int) := by rw [show (k : Int) + 1 = ((k + 1 : Nat) : Int) by omega]; exact wrap_in (by have := HL.out; omega) (by have := HL.out; omega)
      obtain ⟨q0, q1, q2⟩ := (At.below E.out.2.2.out HA1.out).c3
      have HC := hidb (HO.out k hkN)
      have HSc := hidb (rmK_succ m n k)
      have HLn := hidb (rmK_len m n k)
      by_cases hr : rim m n k
      · rw [decide_eq_true hr] at HC
        have HS2 : Hid (on (rmK m n (k + 1)) = on (rmK m n k) ++ [(k : Int)]) := by show _ = _; rw [HSc.out, if_pos hr]; simp [on]
        have HQl : Hid ((on (rmK m n k)).length = q ∧ q ≤ 20000) := ⟨E.out.2.1, by have := E.out.2.1; rw [List.length_map] at this; have := HLn.out; have := HL.out; omega⟩
        clear h1 hkN hr
        go_wp2_with fail
        refine (HC.out _).mono ?_
        rintro e w2 ⟨rfl, hB⟩
        replace E := hidb (show w2.ownsRow w1.heap.size 3 1 (.slice ad1 q cap1) q (ir (on (rmK m n k))) ∧ Gr w1 w2 from ⟨own_keep E.out.1 hB.out, Gr.step E.out.2.2 hB.out⟩)
        clear hB q0 q1 q2
        go_wp2_with (at_builtin; refine wpList_i1 _ w1.heap.size (.slice ad1 q cap1) (on (rmK m n k)) (k : Int) q w2.heap.size _ _ rfl rfl rfl rfl HQl.out.1 HQl.out.2 (E.out.1.alloc _) (At.new1 _ _ _) (by have := E.out.2.out.size; simp; omega) ?_; intro g3 cap3 w12 hown hgrow)
        have G12 := hidb (gr_app E.out.2 E.out.1 (Nat.le_refl _) hgrow.out)
        rw [← HS2.out] at hown
        clear hgrow
        go_wp2
        go_roundw
        case rel => exact ⟨k + 1, q + 1, HkN.out, by go_num, hidb ⟨hown.out, by rw [HS2.out, List.length_append, HQl.out.1]; rfl, G12.out⟩⟩
        case measure => have := HkN.out; simp [intOf]; omega
      · rw [decide_eq_false hr] at HC
        have HS2 : Hid (rmK m n (k + 1) = rmK m n k) := by show _ = _; rw [HSc.out, if_neg hr]
        clear h1 hkN hr
        go_wp2_with fail
        refine (HC.out _).mono ?_
        rintro e w2 ⟨rfl, hB⟩
        replace E := hidb (show w2.ownsRow w1.heap.size 3 1 (.slice ad1 q cap1) q (ir (on (rmK m n k))) ∧ (on (rmK m n k)).length = q ∧ Gr w1 w2 from ⟨own_keep E.out.1 hB.out, E.out.2.1, Gr.step E.out.2.2 hB.out⟩)
        clear hB q0 q1 q2
        go_wp2
        go_roundw
        case rel => exact ⟨k + 1, q, HkN.out, by go_num, by rw [HS2.out]; exact E⟩
        case measure => have := HkN.out; simp [intOf]; omega
end Go.Proofs.YtddnebgnohlchaaGreatDoor
