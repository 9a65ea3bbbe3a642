/-
  mercatorref4.IsRise, at what rise answers.
-/
import Derived.Test.YtddnebgnohlchaaGreatDoorQRiH
import Derived.Test.YtddnebgnohlchaaGreatDoorQJ21
namespace Go.Proofs.YtddnebgnohlchaaGreatDoor
open Go.RowKit
attribute [local go_sem ↓] Go.wp_at_zero Go.wp_at_succ

/-- What is wet below a height, in memory. -/
def WtOk (w w' : World) (m _n N : Nat) (l : List Int) (t : Int) (c : Nat) (B : Nat) (L : List Bool) : Prop := (At w' B (br L) ∧ L.length = N ∧ Gr w w') ∧ ∀ k, glb L k = true ↔ Rch m l t c k
set_option maxRecDepth 4000 in
set_option maxHeartbeats 8000000 in
theorem isRise_lo {m n pb po Lb Lo Lcap : Nat} {l : List Int} (c : Nat) (water : Int) (hc : c < l.length) (hN : l.length ≤ 1000) (hs : Stp m n l c water (gl l c)) (w : World) (hp : PtR w pb po m n (.slice (some ⟨Lb, Lo, none⟩) l.length Lcap)) (hR : Rs w Lb Lo Lcap l) (ok : Ok l m n) : Calls Tryz.prog 18 #[.pointer (some ⟨pb, po, none⟩), .int .i64 (c : Int), .int .i64 water, .agg #[.int .i64 (gl l c), .int .i64 1]] w fun e w' => e = .returned (.bool true) ∧ Gr w w' := by
  have hlen := ok.len_le
  have HIr := hidb (fun W => isRight_any (gl l c) (1) W)
  have HPt := hidb (fun W (hG : Gr w W) => (hp.below hG.out).all)
  have HRs := hidb (fun W (hG : Gr w W) => hR.below hG.out)
  have HHd : Hid (∀ (num den : Int), (-1125899906842624 ≤ num ∧ num ≤ 1125899906842624) → (1 ≤ den ∧ den ≤ 1048576) → ∀ (B : Nat) (L : List Bool) W, Gr w W → L.length = l.length → At W B (br L) → Calls Tryz.prog 39 #[.pointer (some ⟨pb, po, none⟩), .slice (some ⟨B, 0, none⟩) l.length l.length, .int .i64 num, .int .i64 den] W fun e w' => HAns m n l.length l L num den W w' e) := fun num den h1 h2 B L W hG hL hB => held_any num den h1 h2 rfl hN hL W (hp.below hG.out) (hR.below hG.out) ok hB
  have HWt : Hid (∀ (num den t : Int) (too : Bool), (1 ≤ den ∧ den ≤ 1048576) → (∀ h, lwB num den too h = decide (h ≤ t)) → ∀ W, Gr w W → Calls Tryz.prog 19 #[.pointer (some ⟨pb, po, none⟩), .int .i64 (c : Int), .int .i64 num, .int .i64 den, .bool too] W fun e w' => ∃ B, e = .returned (.slice (some ⟨B, 0, none⟩) l.length l.length) ∧ ∃ L, WtOk W w' m n l.length l t c B L) := fun num den t too h1 h2 W hG => (wet_gen c num den too t h1 h2 hc W (hp.below hG.out) (hR.below hG.out) ok).mono (fun e w' ⟨B, e1, L, h3, h4⟩ => ⟨B, e1, L, ⟨h3.d, h3.len, h3.gr⟩, h4⟩)
  have ixc := iindex Lb Lo l.length Lcap c hc
  have HL := hidb (show l.length ≤ 1000 ∧ c < l.length ∧ hiI (gl l c) from ⟨hN, hc, ok.hi c⟩)
  have HEnd : Hid (∀ L : List Bool, (∀ k, glb L k = true ↔ Rch m l (gl l c) c k) → (∃ k ∈ wtL L l.length, rim m n k) ∨ water ≤ gl l c * (wtL L l.length).length - sL l (wtL L l.length)) := fun L hL => by
    have hmem : ∀ k, k ∈ wtL L l.length ↔ Rch m l (gl l c) c k := fun k => by
      unfold wtL
      rw [List.mem_filter, List.mem_range, ← hL]
      exact ⟨fun h => h.2, fun h => ⟨((hL k).1 h).le.2, h⟩⟩
    rcases hs with ⟨r, h1, h2⟩ | ⟨S, h1, h2, h3⟩
    · exact .inl ⟨r, (hmem r).2 h1, h2⟩
    · right
      have := vol_sub (l := l) (h := gl l c) h1 (fun k hk => (hmem k).2 (h2 k hk)) (fun k hk => ((hmem k).1 hk).le.1)
      rw [vol_sL l (gl l c) (wtL L l.length)] at this
      omega
  have Hrg : Hid (decide (Rgt (gl l c) 1) = true) := by
    refine decide_eq_true ⟨by have := HL.out.2.2; unfold hiI at this; omega, by simp⟩
  obtain ⟨lo, hlo⟩ : ∃ z, z = gl l c := ⟨_, rfl⟩
  have HRc := hidb (fun W (hG : Gr w W) => (hR.below hG.out).get hc)
  obtain ⟨N, hNe⟩ : ∃ N, N = l.length := ⟨_, rfl⟩
  have HN := hidb hNe
  rw [← hlo] at HEnd HIr HL HRc Hrg
  rw [← hNe] at HHd HWt ixc HL HPt HEnd hlen
  rw [← hlo]
  have Hlb : Hid (-1048576 ≤ lo ∧ lo ≤ 1048576) := HL.out.2.2
  have Hlt : Hid (∀ h, lwB lo 1 true h = decide (h ≤ lo)) := fun h => by unfold lwB; rw [if_pos rfl, Int.mul_one]
  have c1 : ¬ (1125899906842624 < lo) := by have := Hlb.out; omega
  have c2 : ¬ (lo < -1125899906842624) := by have := Hlb.out; omega
  have eL : IntKind.i64.wrap (lo * 1) = lo := by rw [Int.mul_one]; exact wrap_in (by have := Hlb.out; omega) (by have := Hlb.out; omega)
  have AF := At.new2 w (.int .i64 lo) (.int .i64 1) 50
  have G := (Gr.refl w).alloc (.cells #[.int .i64 lo, .int .i64 1] 50)
  clear hc hN hs hp hR ok hlen hlo hNe
  go_enter Tryz.func18, Tryz.ntmps18
  go_wp2_with fail
  refine (HIr.out _).mono ?_
  rintro e w2 ⟨rfl, hB2⟩
  rw [Hrg.out]
  replace AF := At.below hB2 AF
  replace G := Gr.step G hB2
  clear hB2
  obtain ⟨f0, f1⟩ := AF.c2
  obtain ⟨p0, p1, p2⟩ := HPt.out _ G
  have cL := HRc.out _ G
  go_upto_region 4 with fail
  refine wp_region_held_drew (S := (fun w' => (w'.cell? ⟨w.heap.size, 0, none⟩ = some (.int .i64 lo) ∧ w'.cell? ⟨w.heap.size, 1, none⟩ = some (.int .i64 1)) ∧ w'.cell? ⟨pb, po + 2, none⟩ = some (.slice (some ⟨Lb, Lo, none⟩) N Lcap) ∧ w'.cell? ⟨Lb, Lo + c, none⟩ = some (.int .i64 lo))) (by kernel_rfl) ?_ (fun hHeld => ?_)
  · (try dsimp only); (exact ⟨⟨f0, f1⟩, p2, cL⟩)
  refine wpAnyH_take (i := 0) (v := ?vl40x2) rfl (by kernel_rfl) (by kernel_rfl) (by kernel_rfl) (fun _ _ _ h => h) (Or.inl ⟨by kernel_rfl, ?hl40x2⟩) (by assumption) ?rl40x2
  case hl40x2 => (intro w hSw; (try dsimp only at hSw); go_simp; try with_reducible rfl)
  (try simp only [Act.put, List.getElem_toArray, List.getElem_cons_zero, List.setIfInBounds_toArray, List.set_cons_zero, List.set_cons_succ])
  refine wpAnyH_take (i := 1) (v := ?vl41x5) rfl (by kernel_rfl) (by kernel_rfl) (by kernel_rfl) (fun _ _ _ h => h) (Or.inl ⟨by kernel_rfl, ?hl41x5⟩) (by assumption) ?rl41x5
  case hl41x5 => (intro w hSw; (try dsimp only at hSw); go_simp; try with_reducible rfl)
  (try simp only [Act.put, List.getElem_toArray, List.getElem_cons_zero, List.getElem_cons_succ, List.setIfInBounds_toArray, List.set_cons_zero, List.set_cons_succ])
  refine wpAnyH_take (i := 2) (v := ?vl42x8) rfl (by kernel_rfl) (by kernel_rfl) (by kernel_rfl) (fun _ _ _ h => h) (Or.inl ⟨by kernel_rfl, ?hl42x8⟩) (by assumption) ?rl42x8
  case hl42x8 => (intro w hSw; (try dsimp only at hSw); go_simp; try with_reducible rfl)
  (try simp only [Act.put, List.getElem_toArray, List.getElem_cons_zero, List.getElem_cons_succ, List.setIfInBounds_toArray, List.set_cons_zero, List.set_cons_succ])
  refine wpAnyH_take (i := 3) (v := ?vl43x11) rfl (by kernel_rfl) (by kernel_rfl) (by kernel_rfl) (fun _ _ _ h => h) (Or.inl ⟨by kernel_rfl, ?hl43x11⟩) (by assumption) ?rl43x11
  case hl43x11 => (intro w hSw; (try dsimp only at hSw); go_simp; try with_reducible rfl)
  (try simp only [Act.put, List.getElem_toArray, List.getElem_cons_zero, List.getElem_cons_succ, List.setIfInBounds_toArray, List.set_cons_zero, List.set_cons_succ])
  refine wpAnyH_take (i := 4) (v := ?vl44x14) rfl (by kernel_rfl) (by kernel_rfl) (by kernel_rfl) (fun _ _ _ h => h) (Or.inl ⟨by kernel_rfl, ?hl44x14⟩) (by assumption) ?rl44x14
  case hl44x14 => (intro w hSw; (try dsimp only at hSw); go_simp; try with_reducible rfl)
  (try simp only [Act.put, List.getElem_toArray, List.getElem_cons_zero, List.getElem_cons_succ, List.setIfInBounds_toArray, List.set_cons_zero, List.set_cons_succ])
  refine wpAnyH_take (i := 5) (v := ?vl45x17) rfl (by kernel_rfl) (by kernel_rfl) (by kernel_rfl) (fun _ _ _ h => h) (Or.inl ⟨by kernel_rfl, ?hl45x17⟩) (by assumption) ?rl45x17
  case hl45x17 => (intro w hSw; (try dsimp only at hSw); go_simp; try with_reducible rfl)
  (try simp only [Act.put, List.getElem_toArray, List.getElem_cons_zero, List.getElem_cons_succ, List.setIfInBounds_toArray, List.set_cons_zero, List.set_cons_succ])
  refine wpAnyH_take (i := 6) (v := ?vl46x20) rfl (by kernel_rfl) (by kernel_rfl) (by kernel_rfl) (fun _ _ _ h => h) (Or.inl ⟨by kernel_rfl, ?hl46x20⟩) (by assumption) ?rl46x20
  case hl46x20 => (intro w hSw; (try dsimp only at hSw); go_simp; try with_reducible rfl)
  (try simp only [Act.put, List.getElem_toArray, List.getElem_cons_zero, List.getElem_cons_succ, List.setIfInBounds_toArray, List.set_cons_zero, List.set_cons_succ])
  refine wpAnyH_take (i := 7) (v := ?vl47x23) rfl (by kernel_rfl) (by kernel_rfl) (by kernel_rfl) (fun _ _ _ h => h) (Or.inl ⟨by kernel_rfl, ?hl47x23⟩) (by assumption) ?rl47x23
  case hl47x23 => (intro w hSw; (try dsimp only at hSw); go_simp; try with_reducible rfl)
  (try simp only [Act.put, List.getElem_toArray, List.getElem_cons_zero, List.getElem_cons_succ, List.setIfInBounds_toArray, List.set_cons_zero, List.set_cons_succ])
  refine wpAnyH_take (i := 8) (v := ?vl48x26) rfl (by kernel_rfl) (by kernel_rfl) (by kernel_rfl) (fun _ _ _ h => h) (Or.inl ⟨by kernel_rfl, ?hl48x26⟩) (by assumption) ?rl48x26
  case hl48x26 => (intro w hSw; (try dsimp only at hSw); go_simp; try with_reducible rfl)
  (try simp only [Act.put, List.getElem_toArray, List.getElem_cons_zero, List.getElem_cons_succ, List.setIfInBounds_toArray, List.set_cons_zero, List.set_cons_succ])
  refine wpAnyH_take (i := 9) (v := ?vl49x29) rfl (by kernel_rfl) (by kernel_rfl) (by kernel_rfl) (fun _ _ _ h => h) (Or.inl ⟨by kernel_rfl, ?hl49x29⟩) (by assumption) ?rl49x29
  case hl49x29 => (intro w hSw; (try dsimp only at hSw); go_simp; try with_reducible rfl)
  (try simp only [Act.put, List.getElem_toArray, List.getElem_cons_zero, List.getElem_cons_succ, List.setIfInBounds_toArray, List.set_cons_zero, List.set_cons_succ])
  refine wpAnyH_take (i := 10) (v := ?vl410x32) rfl (by kernel_rfl) (by kernel_rfl) (by kernel_rfl) (fun _ _ _ h => h) (Or.inl ⟨by kernel_rfl, ?hl410x32⟩) (by assumption) ?rl410x32
  case hl410x32 => (intro w hSw; (try dsimp only at hSw); go_simp; try with_reducible rfl)
  (try simp only [Act.put, List.getElem_toArray, List.getElem_cons_zero, List.getElem_cons_succ, List.setIfInBounds_toArray, List.set_cons_zero, List.set_cons_succ])
  refine wpAnyH_take (i := 11) (v := ?vl411x35) rfl (by kernel_rfl) (by kernel_rfl) (by kernel_rfl) (fun _ _ _ h => h) (Or.inl ⟨by kernel_rfl, ?hl411x35⟩) (by assumption) ?rl411x35
  case hl411x35 => (intro w hSw; (try dsimp only at hSw); go_simp; try with_reducible rfl)
  (try simp only [Act.put, List.getElem_toArray, List.getElem_cons_zero, List.getElem_cons_succ, List.setIfInBounds_toArray, List.set_cons_zero, List.set_cons_succ])
  refine wpAnyH_take (i := 12) (v := ?vl412x38) rfl (by kernel_rfl) (by kernel_rfl) (by kernel_rfl) (fun _ _ _ h => h) (Or.inl ⟨by kernel_rfl, ?hl412x38⟩) (by assumption) ?rl412x38
  case hl412x38 => (intro w hSw; (try dsimp only at hSw); go_simp; try with_reducible rfl)
  (try simp only [Act.put, List.getElem_toArray, List.getElem_cons_zero, List.getElem_cons_succ, List.setIfInBounds_toArray, List.set_cons_zero, List.set_cons_succ])
  refine wpAnyH_take (i := 13) (v := ?vl413x41) rfl (by kernel_rfl) (by kernel_rfl) (by kernel_rfl) (fun _ _ _ h => h) (Or.inl ⟨by kernel_rfl, ?hl413x41⟩) (by assumption) ?rl413x41
  case hl413x41 => (intro w hSw; (try dsimp only at hSw); go_simp; try with_reducible rfl)
  (try simp only [Act.put, List.getElem_toArray, List.getElem_cons_zero, List.getElem_cons_succ, List.setIfInBounds_toArray, List.set_cons_zero, List.set_cons_succ])
  refine wpAnyH_take (i := 14) (v := ?vl414x44) rfl (by kernel_rfl) (by kernel_rfl) (by kernel_rfl) (fun _ _ _ h => h) (Or.inl ⟨by kernel_rfl, ?hl414x44⟩) (by assumption) ?rl414x44
  case hl414x44 => (intro w hSw; (try dsimp only at hSw); go_simp; try with_reducible rfl)
  (try simp only [Act.put, List.getElem_toArray, List.getElem_cons_zero, List.getElem_cons_succ, List.setIfInBounds_toArray, List.set_cons_zero, List.set_cons_succ])
  refine wpAnyH_done (by kernel_rfl) ?_ _
  replace G := G.drew
  replace AF := AF.drew
  clear f0 f1 p0 p1 p2 cL
  generalize w2.drew = w2d at *
  obtain ⟨f0, f1⟩ := AF.c2
  go_upto_region 5 with fail
  refine wp_region_held_drew (S := (fun w' => w'.cell? ⟨w.heap.size, 0, none⟩ = some (.int .i64 lo) ∧ w'.cell? ⟨w.heap.size, 1, none⟩ = some (.int .i64 1))) (by kernel_rfl) ?_ (fun hHeld => ?_)
  · (try dsimp only); (first | exact AF.c2 | exact AF.drew.c2)
  refine wpAnyH_take (i := 0) (v := ?vl50x2) rfl (by kernel_rfl) (by kernel_rfl) (by kernel_rfl) (fun _ _ _ h => h) (Or.inl ⟨by kernel_rfl, ?hl50x2⟩) (by assumption) ?rl50x2
  case hl50x2 => (intro w hSw; (try dsimp only at hSw); go_simp; try with_reducible rfl)
  (try simp only [Act.put, List.getElem_toArray, List.getElem_cons_zero, List.setIfInBounds_toArray, List.set_cons_zero, List.set_cons_succ])
  refine wpAnyH_take (i := 1) (v := ?vl51x5) rfl (by kernel_rfl) (by kernel_rfl) (by kernel_rfl) (fun _ _ _ h => h) (Or.inl ⟨by kernel_rfl, ?hl51x5⟩) (by assumption) ?rl51x5
  case hl51x5 => (intro w hSw; (try dsimp only at hSw); go_simp; try with_reducible rfl)
  (try simp only [Act.put, List.getElem_toArray, List.getElem_cons_zero, List.getElem_cons_succ, List.setIfInBounds_toArray, List.set_cons_zero, List.set_cons_succ])
  refine wpAnyH_take (i := 2) (v := ?vl52x8) rfl (by kernel_rfl) (by kernel_rfl) (by kernel_rfl) (fun _ _ _ h => h) (Or.inl ⟨by kernel_rfl, ?hl52x8⟩) (by assumption) ?rl52x8
  case hl52x8 => (intro w hSw; (try dsimp only at hSw); go_simp; try with_reducible rfl)
  (try simp only [Act.put, List.getElem_toArray, List.getElem_cons_zero, List.getElem_cons_succ, List.setIfInBounds_toArray, List.set_cons_zero, List.set_cons_succ])
  refine wpAnyH_take (i := 3) (v := ?vl53x11) rfl (by kernel_rfl) (by kernel_rfl) (by kernel_rfl) (fun _ _ _ h => h) (Or.inl ⟨by kernel_rfl, ?hl53x11⟩) (by assumption) ?rl53x11
  case hl53x11 => (intro w hSw; (try dsimp only at hSw); go_simp; try with_reducible rfl)
  (try simp only [Act.put, List.getElem_toArray, List.getElem_cons_zero, List.getElem_cons_succ, List.setIfInBounds_toArray, List.set_cons_zero, List.set_cons_succ])
  refine wpAnyH_take (i := 4) (v := ?vl54x14) rfl (by kernel_rfl) (by kernel_rfl) (by kernel_rfl) (fun _ _ _ h => h) (Or.inl ⟨by kernel_rfl, ?hl54x14⟩) (by assumption) ?rl54x14
  case hl54x14 => (intro w hSw; (try dsimp only at hSw); go_simp; try with_reducible rfl)
  (try simp only [Act.put, List.getElem_toArray, List.getElem_cons_zero, List.getElem_cons_succ, List.setIfInBounds_toArray, List.set_cons_zero, List.set_cons_succ])
  refine wpAnyH_take (i := 6) (v := ?vl56x17) rfl (by kernel_rfl) (by kernel_rfl) (by kernel_rfl) (fun _ _ _ h => h) (Or.inl ⟨by kernel_rfl, ?hl56x17⟩) (by assumption) ?rl56x17
  case hl56x17 => (intro w hSw; (try dsimp only at hSw); go_simp; try with_reducible rfl)
  (try simp only [Act.put, List.getElem_toArray, List.getElem_cons_zero, List.getElem_cons_succ, List.setIfInBounds_toArray, List.set_cons_zero, List.set_cons_succ])
  refine wpAnyH_take (i := 7) (v := ?vl57x20) rfl (by kernel_rfl) (by kernel_rfl) (by kernel_rfl) (fun _ _ _ h => h) (Or.inl ⟨by kernel_rfl, ?hl57x20⟩) (by assumption) ?rl57x20
  case hl57x20 => (intro w hSw; (try dsimp only at hSw); go_simp; try with_reducible rfl)
  (try simp only [Act.put, List.getElem_toArray, List.getElem_cons_zero, List.getElem_cons_succ, List.setIfInBounds_toArray, List.set_cons_zero, List.set_cons_succ])
  refine wpAnyH_ready (rs := [5]) (by kernel_rfl) (by simp) ?_
  refine AllReadyH.cons rfl (fun K hK => ?_) AllReadyH.nil
  go_simp
  go_wp2_with ((go_at_call 19; refine (HWt.out lo 1 lo true ⟨by decide, by decide⟩ Hlt.out _ (by with_reducible first | exact G | exact G.drew)).mono ?_; rintro e w3 ⟨B3, rfl, L3, hW3⟩))
  have HW3 := hidb hW3
  replace AF := At.below (by first | exact HW3.out.1.2.2.out | exact undr HW3.out.1.2.2.out) AF
  replace G : Gr w w3 := Gr.step G (by first | exact HW3.out.1.2.2.out | exact undr HW3.out.1.2.2.out)
  clear hW3
  obtain ⟨f0, f1⟩ := AF.c2
  refine hK.out _ _ ?_ (fun hHeld => ?_)
  · (try dsimp only); (first | exact AF.c2 | exact AF.drew.c2)
  clear hK K
  refine wpAnyH_ready (rs := [8]) (by kernel_rfl) (by simp) ?_
  refine AllReadyH.cons rfl (fun K hK => ?_) AllReadyH.nil
  go_simp
  go_wp2_with ((go_at_call 39; refine (HHd.out lo 1 (by have := Hlb.out; omega) ⟨by decide, by decide⟩ B3 L3 _ G HW3.out.1.2.1 HW3.out.1.1).mono ?_; rintro e w4 ⟨r4, rfl, hr4, hG4⟩))
  have HR4 := hidb hr4
  replace AF := At.below hG4.out AF
  replace G := Gr.step G hG4.out
  clear hr4 hG4
  obtain ⟨f0, f1⟩ := AF.c2
  refine hK.out _ _ ?_ (fun hHeld => ?_)
  · (try dsimp only); (first | exact AF.c2 | exact AF.drew.c2)
  clear hK K
  refine wpAnyH_take (i := 9) (v := ?vl59x47) rfl (by kernel_rfl) (by kernel_rfl) (by kernel_rfl) (fun _ _ _ h => h) (Or.inl ⟨by kernel_rfl, ?hl59x47⟩) (by assumption) ?rl59x47
  case hl59x47 => (intro w hSw; (try dsimp only at hSw); go_simp; try with_reducible rfl)
  (try simp only [Act.put, List.getElem_toArray, List.getElem_cons_zero, List.getElem_cons_succ, List.setIfInBounds_toArray, List.set_cons_zero, List.set_cons_succ])
  refine wpAnyH_take (i := 10) (v := ?vl510x50) rfl (by kernel_rfl) (by kernel_rfl) (by kernel_rfl) (fun _ _ _ h => h) (Or.inl ⟨by kernel_rfl, ?hl510x50⟩) (by assumption) ?rl510x50
  case hl510x50 => (intro w hSw; (try dsimp only at hSw); go_simp; try with_reducible rfl)
  (try simp only [Act.put, List.getElem_toArray, List.getElem_cons_zero, List.getElem_cons_succ, List.setIfInBounds_toArray, List.set_cons_zero, List.set_cons_succ])
  refine wpAnyH_take (i := 12) (v := ?vl512x53) rfl (by kernel_rfl) (by kernel_rfl) (by kernel_rfl) (fun _ _ _ h => h) (Or.inl ⟨by kernel_rfl, ?hl512x53⟩) (by assumption) ?rl512x53
  case hl512x53 => (intro w hSw; (try dsimp only at hSw); go_simp; try with_reducible rfl)
  (try simp only [Act.put, List.getElem_toArray, List.getElem_cons_zero, List.getElem_cons_succ, List.setIfInBounds_toArray, List.set_cons_zero, List.set_cons_succ])
  refine wpAnyH_take (i := 11) (v := ?vl511x56) rfl (by kernel_rfl) (by kernel_rfl) (by kernel_rfl) (fun _ _ _ h => h) (Or.inl ⟨by kernel_rfl, ?hl511x56⟩) (by assumption) ?rl511x56
  case hl511x56 => (intro w hSw; (try dsimp only at hSw); go_simp; try with_reducible rfl)
  (try simp only [Act.put, List.getElem_toArray, List.getElem_cons_zero, List.getElem_cons_succ, List.setIfInBounds_toArray, List.set_cons_zero, List.set_cons_succ])
  refine wpAnyH_take (i := 13) (v := ?vl513x59) rfl (by kernel_rfl) (by kernel_rfl) (by kernel_rfl) (fun _ _ _ h => h) (Or.inl ⟨by kernel_rfl, ?hl513x59⟩) (by assumption) ?rl513x59
  case hl513x59 => (intro w hSw; (try dsimp only at hSw); go_simp; try with_reducible rfl)
  (try simp only [Act.put, List.getElem_toArray, List.getElem_cons_zero, List.getElem_cons_succ, List.setIfInBounds_toArray, List.set_cons_zero, List.set_cons_succ])
  refine wpAnyH_done (by kernel_rfl) ?_ _
  have HE := hidb (HEnd.out L3 HW3.out.2)
  obtain ⟨x, hx⟩ : ∃ x, x = lo * ((wtL L3 N).length : Int) - sL l (wtL L3 N) := ⟨_, rfl⟩
  rw [← hx] at HE ⊢
  have HG := hidb G
  clear hx
  cases r4 with
  | true =>
    go_wp2
    go_ret
    exact ⟨rfl, HG.out⟩
  | false =>
    have hwx : water ≤ x := by
      rcases HE.out with h | h
      · have := HR4.out.2 h; cases this
      · exact h
    go_wp2
    go_ret
    exact ⟨rfl, HG.out⟩
set_option maxRecDepth 4000 in
set_option maxHeartbeats 16000000 in
theorem isRise_up {m n pb po Lb Lo Lcap : Nat} {l : List Int} (c : Nat) (water top a b : Int) (O : List Nat) (hc : c < l.length) (hN : l.length ≤ 1000) (hw : 0 ≤ water ∧ water ≤ 1099511627776) (po' : Pool m n l c water (top - 1) O) (hs : Stp m n l c water top) (hu : UpF l c water top a b O) (w : World) (hp : PtR w pb po m n (.slice (some ⟨Lb, Lo, none⟩) l.length Lcap)) (hR : Rs w Lb Lo Lcap l) (ok : Ok l m n) : Calls Tryz.prog 18 #[.pointer (some ⟨pb, po, none⟩), .int .i64 (c : Int), .int .i64 water, .agg #[.int .i64 a, .int .i64 b]] w fun e w' => e = .returned (.bool true) ∧ Gr w w' := by
  have hlen := ok.len_le
  have HIr := hidb (fun W => isRight_any (a) (b) W)
  have HPt := hidb (fun W (hG : Gr w W) => (hp.below hG.out).all)
  have HRs := hidb (fun W (hG : Gr w W) => hR.below hG.out)
  have HHd : Hid (∀ (num den : Int), (-1125899906842624 ≤ num ∧ num ≤ 1125899906842624) → (1 ≤ den ∧ den ≤ 1048576) → ∀ (B : Nat) (L : List Bool) W, Gr w W → L.length = l.length → At W B (br L) → Calls Tryz.prog 39 #[.pointer (some ⟨pb, po, none⟩), .slice (some ⟨B, 0, none⟩) l.length l.length, .int .i64 num, .int .i64 den] W fun e w' => HAns m n l.length l L num den W w' e) := fun num den h1 h2 B L W hG hL hB => held_any num den h1 h2 rfl hN hL W (hp.below hG.out) (hR.below hG.out) ok hB
  have HWt : Hid (∀ (num den t : Int) (too : Bool), (1 ≤ den ∧ den ≤ 1048576) → (∀ h, lwB num den too h = decide (h ≤ t)) → ∀ W, Gr w W → Calls Tryz.prog 19 #[.pointer (some ⟨pb, po, none⟩), .int .i64 (c : Int), .int .i64 num, .int .i64 den, .bool too] W fun e w' => ∃ B, e = .returned (.slice (some ⟨B, 0, none⟩) l.length l.length) ∧ ∃ L, WtOk W w' m n l.length l t c B L) := fun num den t too h1 h2 W hG => (wet_gen c num den too t h1 h2 hc W (hp.below hG.out) (hR.below hG.out) ok).mono (fun e w' ⟨B, e1, L, h3, h4⟩ => ⟨B, e1, L, ⟨h3.d, h3.len, h3.gr⟩, h4⟩)
  have ixc := iindex Lb Lo l.length Lcap c hc
  have HL := hidb (show l.length ≤ 1000 ∧ c < l.length ∧ hiI (gl l c) from ⟨hN, hc, ok.hi c⟩)
  have HEnd : Hid (∀ L : List Bool, (∀ k, glb L k = true ↔ Rch m l top c k) → (∃ k ∈ wtL L l.length, rim m n k) ∨ water ≤ top * (wtL L l.length).length - sL l (wtL L l.length)) := fun L hL => by
    have hmem : ∀ k, k ∈ wtL L l.length ↔ Rch m l top c k := fun k => by
      unfold wtL
      rw [List.mem_filter, List.mem_range, ← hL]
      exact ⟨fun h => h.2, fun h => ⟨((hL k).1 h).le.2, h⟩⟩
    rcases hs with ⟨r, h1, h2⟩ | ⟨S, h1, h2, h3⟩
    · exact .inl ⟨r, (hmem r).2 h1, h2⟩
    · right
      have := vol_sub (l := l) (h := top) h1 (fun k hk => (hmem k).2 (h2 k hk)) (fun k hk => ((hmem k).1 hk).le.1)
      rw [vol_sL l top (wtL L l.length)] at this
      omega
  have HFst : Hid (∀ L : List Bool, (∀ k, glb L k = true ↔ Rch m l (top - 1) c k) → (¬ ∃ k ∈ wtL L l.length, rim m n k) ∧ a * (wtL L l.length).length - b * sL l (wtL L l.length) ≤ water * b ∧ (a * (wtL L l.length).length - b * sL l (wtL L l.length) = water * b ∨ (a = top ∧ b = 1))) := fun L hL => by
    have hpm := wtL_perm rfl hL po'.nd po'.all
    rw [hpm.length_eq, sL_perm hpm]
    exact ⟨fun ⟨k, h1, h2⟩ => po'.rim k (hpm.mem_iff.1 h1) h2, hu.sum, hu.eq⟩
  have Hrg : Hid (decide (Rgt a b) = true) := decide_eq_true hu.rgt
  have HThr := hidb hu.thr
  have HU := hidb (show (-1125899906842624 ≤ a ∧ a ≤ 1125899906842624) ∧ (1 ≤ b ∧ b ≤ 1048576) ∧ gl l c * b < a ∧ 0 ≤ water ∧ water ≤ 1099511627776 from ⟨hu.a1, hu.b1, hu.lo, hw.1, hw.2⟩)
  obtain ⟨lo, hlo⟩ : ∃ z, z = gl l c := ⟨_, rfl⟩
  have HRc := hidb (fun W (hG : Gr w W) => (hR.below hG.out).get hc)
  obtain ⟨N, hNe⟩ : ∃ N, N = l.length := ⟨_, rfl⟩
  have HN := hidb hNe
  rw [← hlo] at HL HRc HU
  rw [← hNe] at HHd HWt ixc HL HPt HEnd HFst hlen
  have Hlb : Hid (-1048576 ≤ lo ∧ lo ≤ 1048576) := HL.out.2.2
  have Hlt : Hid (∀ h, lwB top 1 true h = decide (h ≤ top)) := fun h => by unfold lwB; rw [if_pos rfl, Int.mul_one]
  have c1 : ¬ (1125899906842624 < a) := by have := HU.out; omega
  have c2 : ¬ (a < -1125899906842624) := by have := HU.out; omega
  have c3 : ¬ (1048576 < b) := by have := HU.out; omega
  have hlb : -1152921504606846976 ≤ lo * b ∧ lo * b ≤ 1152921504606846976 := mulB (A := 1048576) (B := 1048576) (by have := Hlb.out; omega) (by have := Hlb.out; omega) (by have := HU.out; omega) (by have := HU.out; omega) (by decide)
  have hwb : -1152921504606846976 ≤ water * b ∧ water * b ≤ 1152921504606846976 := mulB (A := 1099511627776) (B := 1048576) (by have := HU.out; omega) (by have := HU.out; omega) (by have := HU.out; omega) (by have := HU.out; omega) (by decide)
  obtain ⟨lb, hlbe, eL⟩ : ∃ z, z = lo * b ∧ IntKind.i64.wrap (lo * b) = z := ⟨_, rfl, wrap_in (by omega) (by omega)⟩
  obtain ⟨wb, hwbe, eW⟩ : ∃ z, z = water * b ∧ IntKind.i64.wrap (water * b) = z := ⟨_, rfl, wrap_in (by omega) (by omega)⟩
  have Hwb := hidb hwbe
  have c4 : ¬ (a ≤ lb) := by have := HU.out; omega
  have Hne : Hid (b = 1 → (a == lo) = false) := fun hb => by rw [hb] at hlbe; have := HU.out; rw [hb] at this; simp; omega
  have AF := At.new2 w (.int .i64 a) (.int .i64 b) 50
  have G := (Gr.refl w).alloc (.cells #[.int .i64 a, .int .i64 b] 50)
  clear hc hN hs hp hR ok hlen hlo hNe hu po' hw hlb hwb hlbe hwbe
  go_enter Tryz.func18, Tryz.ntmps18
  go_wp2_with fail
  refine (HIr.out _).mono ?_
  rintro e w2 ⟨rfl, hB2⟩
  rw [Hrg.out]
  replace AF := At.below hB2 AF
  replace G := Gr.step G hB2
  clear hB2
  obtain ⟨f0, f1⟩ := AF.c2
  obtain ⟨p0, p1, p2⟩ := HPt.out _ G
  have cL := HRc.out _ G
  go_upto_region 4 with fail
  simp only [show decide ((1125899906842624 : Int) < a) = false from decide_eq_false (by omega), show decide (a < (-1125899906842624 : Int)) = false from decide_eq_false (by omega), show decide ((1048576 : Int) < b) = false from decide_eq_false (by omega)]
  go_cut [49] from 35 to 50 (fun s49 wx => s49 = .bool false ∧ Hid (At wx w.heap.size [.int .i64 a, .int .i64 b] ∧ Gr w wx))
  case first =>
    by_cases hb1 : b = 1
    · have hne := Hne.out hb1
      subst hb1
      refine wp_region_held_drew (S := (fun w' => (w'.cell? ⟨w.heap.size, 0, none⟩ = some (.int .i64 a) ∧ w'.cell? ⟨w.heap.size, 1, none⟩ = some (.int .i64 1)) ∧ w'.cell? ⟨pb, po + 2, none⟩ = some (.slice (some ⟨Lb, Lo, none⟩) N Lcap) ∧ w'.cell? ⟨Lb, Lo + c, none⟩ = some (.int .i64 lo))) (by kernel_rfl) ?_ (fun hHeld => ?_)
      · (try dsimp only); (exact ⟨⟨f0, f1⟩, p2, cL⟩)
      refine wpAnyH_take (i := 0) (v := ?vu40x2) rfl (by kernel_rfl) (by kernel_rfl) (by kernel_rfl) (fun _ _ _ h => h) (Or.inl ⟨by kernel_rfl, ?hu40x2⟩) (by assumption) ?ru40x2
      case hu40x2 => (intro w hSw; (try dsimp only at hSw); go_simp; try with_reducible rfl)
      (try simp only [Act.put, List.getElem_toArray, List.getElem_cons_zero, List.setIfInBounds_toArray, List.set_cons_zero, List.set_cons_succ])
      refine wpAnyH_take (i := 1) (v := ?vu41x5) rfl (by kernel_rfl) (by kernel_rfl) (by kernel_rfl) (fun _ _ _ h => h) (Or.inl ⟨by kernel_rfl, ?hu41x5⟩) (by assumption) ?ru41x5
      case hu41x5 => (intro w hSw; (try dsimp only at hSw); go_simp; try with_reducible rfl)
      (try simp only [Act.put, List.getElem_toArray, List.getElem_cons_zero, List.getElem_cons_succ, List.setIfInBounds_toArray, List.set_cons_zero, List.set_cons_succ])
      refine wpAnyH_take (i := 2) (v := ?vu42x8) rfl (by kernel_rfl) (by kernel_rfl) (by kernel_rfl) (fun _ _ _ h => h) (Or.inl ⟨by kernel_rfl, ?hu42x8⟩) (by assumption) ?ru42x8
      case hu42x8 => (intro w hSw; (try dsimp only at hSw); go_simp; try with_reducible rfl)
      (try simp only [Act.put, List.getElem_toArray, List.getElem_cons_zero, List.getElem_cons_succ, List.setIfInBounds_toArray, List.set_cons_zero, List.set_cons_succ])
      refine wpAnyH_take (i := 3) (v := ?vu43x11) rfl (by kernel_rfl) (by kernel_rfl) (by kernel_rfl) (fun _ _ _ h => h) (Or.inl ⟨by kernel_rfl, ?hu43x11⟩) (by assumption) ?ru43x11
      case hu43x11 => (intro w hSw; (try dsimp only at hSw); go_simp; try with_reducible rfl)
      (try simp only [Act.put, List.getElem_toArray, List.getElem_cons_zero, List.getElem_cons_succ, List.setIfInBounds_toArray, List.set_cons_zero, List.set_cons_succ])
      refine wpAnyH_take (i := 4) (v := ?vu44x14) rfl (by kernel_rfl) (by kernel_rfl) (by kernel_rfl) (fun _ _ _ h => h) (Or.inl ⟨by kernel_rfl, ?hu44x14⟩) (by assumption) ?ru44x14
      case hu44x14 => (intro w hSw; (try dsimp only at hSw); go_simp; try with_reducible rfl)
      (try simp only [Act.put, List.getElem_toArray, List.getElem_cons_zero, List.getElem_cons_succ, List.setIfInBounds_toArray, List.set_cons_zero, List.set_cons_succ])
      refine wpAnyH_take (i := 5) (v := ?vu45x17) rfl (by kernel_rfl) (by kernel_rfl) (by kernel_rfl) (fun _ _ _ h => h) (Or.inl ⟨by kernel_rfl, ?hu45x17⟩) (by assumption) ?ru45x17
      case hu45x17 => (intro w hSw; (try dsimp only at hSw); go_simp; try with_reducible rfl)
      (try simp only [Act.put, List.getElem_toArray, List.getElem_cons_zero, List.getElem_cons_succ, List.setIfInBounds_toArray, List.set_cons_zero, List.set_cons_succ])
      refine wpAnyH_take (i := 6) (v := ?vu46x20) rfl (by kernel_rfl) (by kernel_rfl) (by kernel_rfl) (fun _ _ _ h => h) (Or.inl ⟨by kernel_rfl, ?hu46x20⟩) (by assumption) ?ru46x20
      case hu46x20 => (intro w hSw; (try dsimp only at hSw); go_simp; try with_reducible rfl)
      (try simp only [Act.put, List.getElem_toArray, List.getElem_cons_zero, List.getElem_cons_succ, List.setIfInBounds_toArray, List.set_cons_zero, List.set_cons_succ])
      refine wpAnyH_take (i := 7) (v := ?vu47x23) rfl (by kernel_rfl) (by kernel_rfl) (by kernel_rfl) (fun _ _ _ h => h) (Or.inl ⟨by kernel_rfl, ?hu47x23⟩) (by assumption) ?ru47x23
      case hu47x23 => (intro w hSw; (try dsimp only at hSw); go_simp; try with_reducible rfl)
      (try simp only [Act.put, List.getElem_toArray, List.getElem_cons_zero, List.getElem_cons_succ, List.setIfInBounds_toArray, List.set_cons_zero, List.set_cons_succ])
      refine wpAnyH_take (i := 8) (v := ?vu48x26) rfl (by kernel_rfl) (by kernel_rfl) (by kernel_rfl) (fun _ _ _ h => h) (Or.inl ⟨by kernel_rfl, ?hu48x26⟩) (by assumption) ?ru48x26
      case hu48x26 => (intro w hSw; (try dsimp only at hSw); go_simp; try with_reducible rfl)
      (try simp only [Act.put, List.getElem_toArray, List.getElem_cons_zero, List.getElem_cons_succ, List.setIfInBounds_toArray, List.set_cons_zero, List.set_cons_succ])
      refine wpAnyH_take (i := 9) (v := ?vu49x29) rfl (by kernel_rfl) (by kernel_rfl) (by kernel_rfl) (fun _ _ _ h => h) (Or.inl ⟨by kernel_rfl, ?hu49x29⟩) (by assumption) ?ru49x29
      case hu49x29 => (intro w hSw; (try dsimp only at hSw); go_simp; try with_reducible rfl)
      (try simp only [Act.put, List.getElem_toArray, List.getElem_cons_zero, List.getElem_cons_succ, List.setIfInBounds_toArray, List.set_cons_zero, List.set_cons_succ])
      refine wpAnyH_take (i := 10) (v := ?vu410x32) rfl (by kernel_rfl) (by kernel_rfl) (by kernel_rfl) (fun _ _ _ h => h) (Or.inl ⟨by kernel_rfl, ?hu410x32⟩) (by assumption) ?ru410x32
      case hu410x32 => (intro w hSw; (try dsimp only at hSw); go_simp; try with_reducible rfl)
      (try simp only [Act.put, List.getElem_toArray, List.getElem_cons_zero, List.getElem_cons_succ, List.setIfInBounds_toArray, List.set_cons_zero, List.set_cons_succ])
      refine wpAnyH_take (i := 11) (v := ?vu411x35) rfl (by kernel_rfl) (by kernel_rfl) (by kernel_rfl) (fun _ _ _ h => h) (Or.inl ⟨by kernel_rfl, ?hu411x35⟩) (by assumption) ?ru411x35
      case hu411x35 => (intro w hSw; (try dsimp only at hSw); go_simp; try with_reducible rfl)
      (try simp only [Act.put, List.getElem_toArray, List.getElem_cons_zero, List.getElem_cons_succ, List.setIfInBounds_toArray, List.set_cons_zero, List.set_cons_succ])
      refine wpAnyH_take (i := 12) (v := ?vu412x38) rfl (by kernel_rfl) (by kernel_rfl) (by kernel_rfl) (fun _ _ _ h => h) (Or.inl ⟨by kernel_rfl, ?hu412x38⟩) (by assumption) ?ru412x38
      case hu412x38 => (intro w hSw; (try dsimp only at hSw); go_simp; try with_reducible rfl)
      (try simp only [Act.put, List.getElem_toArray, List.getElem_cons_zero, List.getElem_cons_succ, List.setIfInBounds_toArray, List.set_cons_zero, List.set_cons_succ])
      refine wpAnyH_take (i := 13) (v := ?vu413x41) rfl (by kernel_rfl) (by kernel_rfl) (by kernel_rfl) (fun _ _ _ h => h) (Or.inl ⟨by kernel_rfl, ?hu413x41⟩) (by assumption) ?ru413x41
      case hu413x41 => (intro w hSw; (try dsimp only at hSw); go_simp; try with_reducible rfl)
      (try simp only [Act.put, List.getElem_toArray, List.getElem_cons_zero, List.getElem_cons_succ, List.setIfInBounds_toArray, List.set_cons_zero, List.set_cons_succ])
      refine wpAnyH_take (i := 14) (v := ?vu414x44) rfl (by kernel_rfl) (by kernel_rfl) (by kernel_rfl) (fun _ _ _ h => h) (Or.inl ⟨by kernel_rfl, ?hu414x44⟩) (by assumption) ?ru414x44
      case hu414x44 => (intro w hSw; (try dsimp only at hSw); go_simp; try with_reducible rfl)
      (try simp only [Act.put, List.getElem_toArray, List.getElem_cons_zero, List.getElem_cons_succ, List.setIfInBounds_toArray, List.set_cons_zero, List.set_cons_succ])
      refine wpAnyH_done (by kernel_rfl) ?_ _
      go_wp2
      go_meet
      exact ⟨rfl, hidb ⟨AF.drew, G.drew⟩⟩
    · have hb2 : (b == 1) = false := by simpa using hb1
      refine wp_region_held_drew (S := (fun w' => (w'.cell? ⟨w.heap.size, 0, none⟩ = some (.int .i64 a) ∧ w'.cell? ⟨w.heap.size, 1, none⟩ = some (.int .i64 b)) ∧ w'.cell? ⟨pb, po + 2, none⟩ = some (.slice (some ⟨Lb, Lo, none⟩) N Lcap) ∧ w'.cell? ⟨Lb, Lo + c, none⟩ = some (.int .i64 lo))) (by kernel_rfl) ?_ (fun hHeld => ?_)
      · (try dsimp only); (exact ⟨⟨f0, f1⟩, p2, cL⟩)
      refine wpAnyH_take (i := 0) (v := ?vv40x2) rfl (by kernel_rfl) (by kernel_rfl) (by kernel_rfl) (fun _ _ _ h => h) (Or.inl ⟨by kernel_rfl, ?hv40x2⟩) (by assumption) ?rv40x2
      case hv40x2 => (intro w hSw; (try dsimp only at hSw); go_simp; try with_reducible rfl)
      (try simp only [Act.put, List.getElem_toArray, List.getElem_cons_zero, List.setIfInBounds_toArray, List.set_cons_zero, List.set_cons_succ])
      refine wpAnyH_take (i := 1) (v := ?vv41x5) rfl (by kernel_rfl) (by kernel_rfl) (by kernel_rfl) (fun _ _ _ h => h) (Or.inl ⟨by kernel_rfl, ?hv41x5⟩) (by assumption) ?rv41x5
      case hv41x5 => (intro w hSw; (try dsimp only at hSw); go_simp; try with_reducible rfl)
      (try simp only [Act.put, List.getElem_toArray, List.getElem_cons_zero, List.getElem_cons_succ, List.setIfInBounds_toArray, List.set_cons_zero, List.set_cons_succ])
      refine wpAnyH_take (i := 2) (v := ?vv42x8) rfl (by kernel_rfl) (by kernel_rfl) (by kernel_rfl) (fun _ _ _ h => h) (Or.inl ⟨by kernel_rfl, ?hv42x8⟩) (by assumption) ?rv42x8
      case hv42x8 => (intro w hSw; (try dsimp only at hSw); go_simp; try with_reducible rfl)
      (try simp only [Act.put, List.getElem_toArray, List.getElem_cons_zero, List.getElem_cons_succ, List.setIfInBounds_toArray, List.set_cons_zero, List.set_cons_succ])
      refine wpAnyH_take (i := 3) (v := ?vv43x11) rfl (by kernel_rfl) (by kernel_rfl) (by kernel_rfl) (fun _ _ _ h => h) (Or.inl ⟨by kernel_rfl, ?hv43x11⟩) (by assumption) ?rv43x11
      case hv43x11 => (intro w hSw; (try dsimp only at hSw); go_simp; try with_reducible rfl)
      (try simp only [Act.put, List.getElem_toArray, List.getElem_cons_zero, List.getElem_cons_succ, List.setIfInBounds_toArray, List.set_cons_zero, List.set_cons_succ])
      refine wpAnyH_take (i := 4) (v := undef) rfl (by kernel_rfl) (by kernel_rfl) (by kernel_rfl) (fun _ _ _ h => h) (Or.inr ⟨by kernel_rfl, rfl⟩) (by assumption) ?_
      (try simp only [Act.put, List.getElem_toArray, List.getElem_cons_zero, List.getElem_cons_succ, List.setIfInBounds_toArray, List.set_cons_zero, List.set_cons_succ])
      refine wpAnyH_take (i := 5) (v := undef) rfl (by kernel_rfl) (by kernel_rfl) (by kernel_rfl) (fun _ _ _ h => h) (Or.inr ⟨by kernel_rfl, rfl⟩) (by assumption) ?_
      (try simp only [Act.put, List.getElem_toArray, List.getElem_cons_zero, List.getElem_cons_succ, List.setIfInBounds_toArray, List.set_cons_zero, List.set_cons_succ])
      refine wpAnyH_take (i := 6) (v := undef) rfl (by kernel_rfl) (by kernel_rfl) (by kernel_rfl) (fun _ _ _ h => h) (Or.inr ⟨by kernel_rfl, rfl⟩) (by assumption) ?_
      (try simp only [Act.put, List.getElem_toArray, List.getElem_cons_zero, List.getElem_cons_succ, List.setIfInBounds_toArray, List.set_cons_zero, List.set_cons_succ])
      refine wpAnyH_take (i := 7) (v := undef) rfl (by kernel_rfl) (by kernel_rfl) (by kernel_rfl) (fun _ _ _ h => h) (Or.inr ⟨by kernel_rfl, rfl⟩) (by assumption) ?_
      (try simp only [Act.put, List.getElem_toArray, List.getElem_cons_zero, List.getElem_cons_succ, List.setIfInBounds_toArray, List.set_cons_zero, List.set_cons_succ])
      refine wpAnyH_take (i := 8) (v := undef) rfl (by kernel_rfl) (by kernel_rfl) (by kernel_rfl) (fun _ _ _ h => h) (Or.inr ⟨by kernel_rfl, rfl⟩) (by assumption) ?_
      (try simp only [Act.put, List.getElem_toArray, List.getElem_cons_zero, List.getElem_cons_succ, List.setIfInBounds_toArray, List.set_cons_zero, List.set_cons_succ])
      refine wpAnyH_take (i := 9) (v := undef) rfl (by kernel_rfl) (by kernel_rfl) (by kernel_rfl) (fun _ _ _ h => h) (Or.inr ⟨by kernel_rfl, rfl⟩) (by assumption) ?_
      (try simp only [Act.put, List.getElem_toArray, List.getElem_cons_zero, List.getElem_cons_succ, List.setIfInBounds_toArray, List.set_cons_zero, List.set_cons_succ])
      refine wpAnyH_take (i := 10) (v := undef) rfl (by kernel_rfl) (by kernel_rfl) (by kernel_rfl) (fun _ _ _ h => h) (Or.inr ⟨by kernel_rfl, rfl⟩) (by assumption) ?_
      (try simp only [Act.put, List.getElem_toArray, List.getElem_cons_zero, List.getElem_cons_succ, List.setIfInBounds_toArray, List.set_cons_zero, List.set_cons_succ])
      refine wpAnyH_take (i := 11) (v := undef) rfl (by kernel_rfl) (by kernel_rfl) (by kernel_rfl) (fun _ _ _ h => h) (Or.inr ⟨by kernel_rfl, rfl⟩) (by assumption) ?_
      (try simp only [Act.put, List.getElem_toArray, List.getElem_cons_zero, List.getElem_cons_succ, List.setIfInBounds_toArray, List.set_cons_zero, List.set_cons_succ])
      refine wpAnyH_take (i := 12) (v := undef) rfl (by kernel_rfl) (by kernel_rfl) (by kernel_rfl) (fun _ _ _ h => h) (Or.inr ⟨by kernel_rfl, rfl⟩) (by assumption) ?_
      (try simp only [Act.put, List.getElem_toArray, List.getElem_cons_zero, List.getElem_cons_succ, List.setIfInBounds_toArray, List.set_cons_zero, List.set_cons_succ])
      refine wpAnyH_take (i := 13) (v := undef) rfl (by kernel_rfl) (by kernel_rfl) (by kernel_rfl) (fun _ _ _ h => h) (Or.inr ⟨by kernel_rfl, rfl⟩) (by assumption) ?_
      (try simp only [Act.put, List.getElem_toArray, List.getElem_cons_zero, List.getElem_cons_succ, List.setIfInBounds_toArray, List.set_cons_zero, List.set_cons_succ])
      refine wpAnyH_take (i := 14) (v := ?vv414x34) rfl (by kernel_rfl) (by kernel_rfl) (by kernel_rfl) (fun _ _ _ h => h) (Or.inl ⟨by kernel_rfl, ?hv414x34⟩) (by assumption) ?rv414x34
      case hv414x34 => (intro w hSw; (try dsimp only at hSw); go_simp; try with_reducible rfl)
      (try simp only [Act.put, List.getElem_toArray, List.getElem_cons_zero, List.getElem_cons_succ, List.setIfInBounds_toArray, List.set_cons_zero, List.set_cons_succ])
      refine wpAnyH_done (by kernel_rfl) ?_ _
      go_wp2
      go_meet
      exact ⟨rfl, hidb ⟨AF.drew, G.drew⟩⟩
  case rest =>
    obtain ⟨rfl, hcut⟩ := hcut
    have HCt := hidb hcut.out
    clear hcut AF G f0 f1 p0 p1 p2 cL
    obtain ⟨AF, G⟩ := HCt.out
    obtain ⟨f0, f1⟩ := AF.c2
    obtain ⟨p0, p1, p2⟩ := HPt.out _ G
    have cL := HRc.out _ G
    go_upto_region 7 with fail
    refine wp_region_held_drew (S := (fun w' => (w'.cell? ⟨w.heap.size, 0, none⟩ = some (.int .i64 a) ∧ w'.cell? ⟨w.heap.size, 1, none⟩ = some (.int .i64 b)) ∧ w'.cell? ⟨pb, po + 2, none⟩ = some (.slice (some ⟨Lb, Lo, none⟩) N Lcap) ∧ w'.cell? ⟨Lb, Lo + c, none⟩ = some (.int .i64 lo))) (by kernel_rfl) ?_ (fun hHeld => ?_)
    · (try dsimp only); (exact ⟨⟨f0, f1⟩, p2, cL⟩)
    refine wpAnyH_take (i := 0) (v := ?vu70x2) rfl (by kernel_rfl) (by kernel_rfl) (by kernel_rfl) (fun _ _ _ h => h) (Or.inl ⟨by kernel_rfl, ?hu70x2⟩) (by assumption) ?ru70x2
    case hu70x2 => (intro w hSw; (try dsimp only at hSw); go_simp; try with_reducible rfl)
    (try simp only [Act.put, List.getElem_toArray, List.getElem_cons_zero, List.setIfInBounds_toArray, List.set_cons_zero, List.set_cons_succ])
    refine wpAnyH_take (i := 1) (v := ?vu71x5) rfl (by kernel_rfl) (by kernel_rfl) (by kernel_rfl) (fun _ _ _ h => h) (Or.inl ⟨by kernel_rfl, ?hu71x5⟩) (by assumption) ?ru71x5
    case hu71x5 => (intro w hSw; (try dsimp only at hSw); go_simp; try with_reducible rfl)
    (try simp only [Act.put, List.getElem_toArray, List.getElem_cons_zero, List.getElem_cons_succ, List.setIfInBounds_toArray, List.set_cons_zero, List.set_cons_succ])
    refine wpAnyH_take (i := 2) (v := ?vu72x8) rfl (by kernel_rfl) (by kernel_rfl) (by kernel_rfl) (fun _ _ _ h => h) (Or.inl ⟨by kernel_rfl, ?hu72x8⟩) (by assumption) ?ru72x8
    case hu72x8 => (intro w hSw; (try dsimp only at hSw); go_simp; try with_reducible rfl)
    (try simp only [Act.put, List.getElem_toArray, List.getElem_cons_zero, List.getElem_cons_succ, List.setIfInBounds_toArray, List.set_cons_zero, List.set_cons_succ])
    refine wpAnyH_take (i := 3) (v := ?vu73x11) rfl (by kernel_rfl) (by kernel_rfl) (by kernel_rfl) (fun _ _ _ h => h) (Or.inl ⟨by kernel_rfl, ?hu73x11⟩) (by assumption) ?ru73x11
    case hu73x11 => (intro w hSw; (try dsimp only at hSw); go_simp; try with_reducible rfl)
    (try simp only [Act.put, List.getElem_toArray, List.getElem_cons_zero, List.getElem_cons_succ, List.setIfInBounds_toArray, List.set_cons_zero, List.set_cons_succ])
    refine wpAnyH_take (i := 4) (v := ?vu74x14) rfl (by kernel_rfl) (by kernel_rfl) (by kernel_rfl) (fun _ _ _ h => h) (Or.inl ⟨by kernel_rfl, ?hu74x14⟩) (by assumption) ?ru74x14
    case hu74x14 => (intro w hSw; (try dsimp only at hSw); go_simp; try with_reducible rfl)
    (try simp only [Act.put, List.getElem_toArray, List.getElem_cons_zero, List.getElem_cons_succ, List.setIfInBounds_toArray, List.set_cons_zero, List.set_cons_succ])
    refine wpAnyH_take (i := 5) (v := ?vu75x17) rfl (by kernel_rfl) (by kernel_rfl) (by kernel_rfl) (fun _ _ _ h => h) (Or.inl ⟨by kernel_rfl, ?hu75x17⟩) (by assumption) ?ru75x17
    case hu75x17 => (intro w hSw; (try dsimp only at hSw); go_simp; try with_reducible rfl)
    (try simp only [Act.put, List.getElem_toArray, List.getElem_cons_zero, List.getElem_cons_succ, List.setIfInBounds_toArray, List.set_cons_zero, List.set_cons_succ])
    refine wpAnyH_take (i := 6) (v := ?vu76x20) rfl (by kernel_rfl) (by kernel_rfl) (by kernel_rfl) (fun _ _ _ h => h) (Or.inl ⟨by kernel_rfl, ?hu76x20⟩) (by assumption) ?ru76x20
    case hu76x20 => (intro w hSw; (try dsimp only at hSw); go_simp; try with_reducible rfl)
    (try simp only [Act.put, List.getElem_toArray, List.getElem_cons_zero, List.getElem_cons_succ, List.setIfInBounds_toArray, List.set_cons_zero, List.set_cons_succ])
    refine wpAnyH_take (i := 7) (v := ?vu77x23) rfl (by kernel_rfl) (by kernel_rfl) (by kernel_rfl) (fun _ _ _ h => h) (Or.inl ⟨by kernel_rfl, ?hu77x23⟩) (by assumption) ?ru77x23
    case hu77x23 => (intro w hSw; (try dsimp only at hSw); go_simp; try with_reducible rfl)
    (try simp only [Act.put, List.getElem_toArray, List.getElem_cons_zero, List.getElem_cons_succ, List.setIfInBounds_toArray, List.set_cons_zero, List.set_cons_succ])
    refine wpAnyH_take (i := 8) (v := ?vu78x26) rfl (by kernel_rfl) (by kernel_rfl) (by kernel_rfl) (fun _ _ _ h => h) (Or.inl ⟨by kernel_rfl, ?hu78x26⟩) (by assumption) ?ru78x26
    case hu78x26 => (intro w hSw; (try dsimp only at hSw); go_simp; try with_reducible rfl)
    (try simp only [Act.put, List.getElem_toArray, List.getElem_cons_zero, List.getElem_cons_succ, List.setIfInBounds_toArray, List.set_cons_zero, List.set_cons_succ])
    refine wpAnyH_take (i := 9) (v := ?vu79x29) rfl (by kernel_rfl) (by kernel_rfl) (by kernel_rfl) (fun _ _ _ h => h) (Or.inl ⟨by kernel_rfl, ?hu79x29⟩) (by assumption) ?ru79x29
    case hu79x29 => (intro w hSw; (try dsimp only at hSw); go_simp; try with_reducible rfl)
    (try simp only [Act.put, List.getElem_toArray, List.getElem_cons_zero, List.getElem_cons_succ, List.setIfInBounds_toArray, List.set_cons_zero, List.set_cons_succ])
    refine wpAnyH_take (i := 10) (v := ?vu710x32) rfl (by kernel_rfl) (by kernel_rfl) (by kernel_rfl) (fun _ _ _ h => h) (Or.inl ⟨by kernel_rfl, ?hu710x32⟩) (by assumption) ?ru710x32
    case hu710x32 => (intro w hSw; (try dsimp only at hSw); go_simp; try with_reducible rfl)
    (try simp only [Act.put, List.getElem_toArray, List.getElem_cons_zero, List.getElem_cons_succ, List.setIfInBounds_toArray, List.set_cons_zero, List.set_cons_succ])
    refine wpAnyH_take (i := 11) (v := ?vu711x35) rfl (by kernel_rfl) (by kernel_rfl) (by kernel_rfl) (fun _ _ _ h => h) (Or.inl ⟨by kernel_rfl, ?hu711x35⟩) (by assumption) ?ru711x35
    case hu711x35 => (intro w hSw; (try dsimp only at hSw); go_simp; try with_reducible rfl)
    (try simp only [Act.put, List.getElem_toArray, List.getElem_cons_zero, List.getElem_cons_succ, List.setIfInBounds_toArray, List.set_cons_zero, List.set_cons_succ])
    refine wpAnyH_take (i := 12) (v := ?vu712x38) rfl (by kernel_rfl) (by kernel_rfl) (by kernel_rfl) (fun _ _ _ h => h) (Or.inl ⟨by kernel_rfl, ?hu712x38⟩) (by assumption) ?ru712x38
    case hu712x38 => (intro w hSw; (try dsimp only at hSw); go_simp; try with_reducible rfl)
    (try simp only [Act.put, List.getElem_toArray, List.getElem_cons_zero, List.getElem_cons_succ, List.setIfInBounds_toArray, List.set_cons_zero, List.set_cons_succ])
    refine wpAnyH_done (by kernel_rfl) ?_ _
    replace G := G.drew
    replace AF := AF.drew
    clear f0 f1 p0 p1 p2 cL
    generalize World.drew _ = w7 at *
    obtain ⟨f0, f1⟩ := AF.c2
    go_wp2_with fail
    refine (HWt.out a b (top - 1) false HU.out.2.1 HThr.out _ G).mono ?_
    rintro e w8 ⟨B8, rfl, L8, hW8⟩
    have HW8 := hidb hW8
    replace AF := At.below HW8.out.1.2.2.out AF
    replace G := Gr.step G HW8.out.1.2.2.out
    clear hW8
    obtain ⟨f0, f1⟩ := AF.c2
    have HF := hidb (HFst.out L8 HW8.out.2)
    obtain ⟨x, hx⟩ : ∃ x, x = a * ((wtL L8 N).length : Int) - b * sL l (wtL L8 N) := ⟨_, rfl⟩
    have HH8 := hidb (HHd.out a b HU.out.1 HU.out.2.1 B8 L8 w8 G HW8.out.1.2.1 HW8.out.1.1)
    rw [← hx] at HF
    go_wp2_with fail
    refine HH8.out.mono ?_
    rintro e w9 ⟨r9, rfl, hr9, hG9⟩
    rw [← hx]
    clear hx
    have hrf : r9 = false := by
      cases r9 with
      | false => rfl
      | true => exact absurd (hr9.1 rfl) HF.out.1
    subst hrf
    replace AF := At.below hG9.out AF
    replace G := Gr.step G hG9.out
    clear hr9 hG9 HH8
    obtain ⟨f0, f1⟩ := AF.c2
    have d1 : ¬ (wb < x) := by have := HF.out.2.1; have := Hwb.out; omega
    by_cases hxe : x = wb
    · have HG := hidb G
      go_wp2
      go_ret
      exact ⟨rfl, HG.out⟩
    · obtain ⟨ha, hb⟩ : a = top ∧ b = 1 := by
        rcases HF.out.2.2 with h | h
        · exact absurd (h.trans Hwb.out.symm) hxe
        · exact h
      subst hb
      subst ha
      obtain rfl : wb = water := by have := Hwb.out; omega
      have hxe2 : (x == wb) = false := by simpa using hxe
      rw [Int.mul_one] at eW
      have HUb := hidb HU.out.1
      go_upto_region 15 with fail
      refine wp_region_held_drew (S := (fun w' => w'.cell? ⟨w.heap.size, 0, none⟩ = some (.int .i64 a) ∧ w'.cell? ⟨w.heap.size, 1, none⟩ = some (.int .i64 1))) (by kernel_rfl) ?_ (fun hHeld => ?_)
      · (try dsimp only); (first | exact AF.c2 | exact AF.drew.c2)
      refine wpAnyH_take (i := 0) (v := ?vu150x2) rfl (by kernel_rfl) (by kernel_rfl) (by kernel_rfl) (fun _ _ _ h => h) (Or.inl ⟨by kernel_rfl, ?hu150x2⟩) (by assumption) ?ru150x2
      case hu150x2 => (intro w hSw; (try dsimp only at hSw); go_simp; try with_reducible rfl)
      (try simp only [Act.put, List.getElem_toArray, List.getElem_cons_zero, List.setIfInBounds_toArray, List.set_cons_zero, List.set_cons_succ])
      refine wpAnyH_take (i := 1) (v := ?vu151x5) rfl (by kernel_rfl) (by kernel_rfl) (by kernel_rfl) (fun _ _ _ h => h) (Or.inl ⟨by kernel_rfl, ?hu151x5⟩) (by assumption) ?ru151x5
      case hu151x5 => (intro w hSw; (try dsimp only at hSw); go_simp; try with_reducible rfl)
      (try simp only [Act.put, List.getElem_toArray, List.getElem_cons_zero, List.getElem_cons_succ, List.setIfInBounds_toArray, List.set_cons_zero, List.set_cons_succ])
      refine wpAnyH_take (i := 2) (v := ?vu152x8) rfl (by kernel_rfl) (by kernel_rfl) (by kernel_rfl) (fun _ _ _ h => h) (Or.inl ⟨by kernel_rfl, ?hu152x8⟩) (by assumption) ?ru152x8
      case hu152x8 => (intro w hSw; (try dsimp only at hSw); go_simp; try with_reducible rfl)
      (try simp only [Act.put, List.getElem_toArray, List.getElem_cons_zero, List.getElem_cons_succ, List.setIfInBounds_toArray, List.set_cons_zero, List.set_cons_succ])
      refine wpAnyH_take (i := 3) (v := ?vu153x11) rfl (by kernel_rfl) (by kernel_rfl) (by kernel_rfl) (fun _ _ _ h => h) (Or.inl ⟨by kernel_rfl, ?hu153x11⟩) (by assumption) ?ru153x11
      case hu153x11 => (intro w hSw; (try dsimp only at hSw); go_simp; try with_reducible rfl)
      (try simp only [Act.put, List.getElem_toArray, List.getElem_cons_zero, List.getElem_cons_succ, List.setIfInBounds_toArray, List.set_cons_zero, List.set_cons_succ])
      refine wpAnyH_take (i := 4) (v := ?vu154x14) rfl (by kernel_rfl) (by kernel_rfl) (by kernel_rfl) (fun _ _ _ h => h) (Or.inl ⟨by kernel_rfl, ?hu154x14⟩) (by assumption) ?ru154x14
      case hu154x14 => (intro w hSw; (try dsimp only at hSw); go_simp; try with_reducible rfl)
      (try simp only [Act.put, List.getElem_toArray, List.getElem_cons_zero, List.getElem_cons_succ, List.setIfInBounds_toArray, List.set_cons_zero, List.set_cons_succ])
      refine wpAnyH_take (i := 5) (v := ?vu155x17) rfl (by kernel_rfl) (by kernel_rfl) (by kernel_rfl) (fun _ _ _ h => h) (Or.inl ⟨by kernel_rfl, ?hu155x17⟩) (by assumption) ?ru155x17
      case hu155x17 => (intro w hSw; (try dsimp only at hSw); go_simp; try with_reducible rfl)
      (try simp only [Act.put, List.getElem_toArray, List.getElem_cons_zero, List.getElem_cons_succ, List.setIfInBounds_toArray, List.set_cons_zero, List.set_cons_succ])
      refine wpAnyH_take (i := 6) (v := ?vu156x20) rfl (by kernel_rfl) (by kernel_rfl) (by kernel_rfl) (fun _ _ _ h => h) (Or.inl ⟨by kernel_rfl, ?hu156x20⟩) (by assumption) ?ru156x20
      case hu156x20 => (intro w hSw; (try dsimp only at hSw); go_simp; try with_reducible rfl)
      (try simp only [Act.put, List.getElem_toArray, List.getElem_cons_zero, List.getElem_cons_succ, List.setIfInBounds_toArray, List.set_cons_zero, List.set_cons_succ])
      refine wpAnyH_take (i := 8) (v := ?vu158x23) rfl (by kernel_rfl) (by kernel_rfl) (by kernel_rfl) (fun _ _ _ h => h) (Or.inl ⟨by kernel_rfl, ?hu158x23⟩) (by assumption) ?ru158x23
      case hu158x23 => (intro w hSw; (try dsimp only at hSw); go_simp; try with_reducible rfl)
      (try simp only [Act.put, List.getElem_toArray, List.getElem_cons_zero, List.getElem_cons_succ, List.setIfInBounds_toArray, List.set_cons_zero, List.set_cons_succ])
      refine wpAnyH_take (i := 9) (v := ?vu159x26) rfl (by kernel_rfl) (by kernel_rfl) (by kernel_rfl) (fun _ _ _ h => h) (Or.inl ⟨by kernel_rfl, ?hu159x26⟩) (by assumption) ?ru159x26
      case hu159x26 => (intro w hSw; (try dsimp only at hSw); go_simp; try with_reducible rfl)
      (try simp only [Act.put, List.getElem_toArray, List.getElem_cons_zero, List.getElem_cons_succ, List.setIfInBounds_toArray, List.set_cons_zero, List.set_cons_succ])
      refine wpAnyH_take (i := 10) (v := ?vu1510x29) rfl (by kernel_rfl) (by kernel_rfl) (by kernel_rfl) (fun _ _ _ h => h) (Or.inl ⟨by kernel_rfl, ?hu1510x29⟩) (by assumption) ?ru1510x29
      case hu1510x29 => (intro w hSw; (try dsimp only at hSw); go_simp; try with_reducible rfl)
      (try simp only [Act.put, List.getElem_toArray, List.getElem_cons_zero, List.getElem_cons_succ, List.setIfInBounds_toArray, List.set_cons_zero, List.set_cons_succ])
      refine wpAnyH_take (i := 11) (v := ?vu1511x32) rfl (by kernel_rfl) (by kernel_rfl) (by kernel_rfl) (fun _ _ _ h => h) (Or.inl ⟨by kernel_rfl, ?hu1511x32⟩) (by assumption) ?ru1511x32
      case hu1511x32 => (intro w hSw; (try dsimp only at hSw); go_simp; try with_reducible rfl)
      (try simp only [Act.put, List.getElem_toArray, List.getElem_cons_zero, List.getElem_cons_succ, List.setIfInBounds_toArray, List.set_cons_zero, List.set_cons_succ])
      refine wpAnyH_ready (rs := [7]) (by kernel_rfl) (by simp) ?_
      refine AllReadyH.cons rfl (fun K hK => ?_) AllReadyH.nil
      go_simp
      go_wp2_with ((go_at_call 19; refine (HWt.out a 1 a true ⟨by decide, by decide⟩ Hlt.out _ (by with_reducible first | exact G | exact G.drew)).mono ?_; rintro e w3 ⟨B3, rfl, L3, hW3⟩))
      have HW3 := hidb hW3
      replace AF := At.below (by first | exact HW3.out.1.2.2.out | exact undr HW3.out.1.2.2.out) AF
      replace G : Gr w w3 := Gr.step G (by first | exact HW3.out.1.2.2.out | exact undr HW3.out.1.2.2.out)
      clear hW3
      obtain ⟨f0, f1⟩ := AF.c2
      refine hK.out _ _ ?_ (fun hHeld => ?_)
      · (try dsimp only); (first | exact AF.c2 | exact AF.drew.c2)
      clear hK K
      refine wpAnyH_ready (rs := [12]) (by kernel_rfl) (by simp) ?_
      refine AllReadyH.cons rfl (fun K hK => ?_) AllReadyH.nil
      go_simp
      go_wp2_with ((go_at_call 39; refine (HHd.out a 1 HUb.out ⟨by decide, by decide⟩ B3 L3 _ G HW3.out.1.2.1 HW3.out.1.1).mono ?_; rintro e w4 ⟨r4, rfl, hr4, hG4⟩))
      have HR4 := hidb hr4
      replace AF := At.below hG4.out AF
      replace G := Gr.step G hG4.out
      clear hr4 hG4
      obtain ⟨f0, f1⟩ := AF.c2
      refine hK.out _ _ ?_ (fun hHeld => ?_)
      · (try dsimp only); (first | exact AF.c2 | exact AF.drew.c2)
      clear hK K
      refine wpAnyH_take (i := 13) (v := ?vu1513x59) rfl (by kernel_rfl) (by kernel_rfl) (by kernel_rfl) (fun _ _ _ h => h) (Or.inl ⟨by kernel_rfl, ?hu1513x59⟩) (by assumption) ?ru1513x59
      case hu1513x59 => (intro w hSw; (try dsimp only at hSw); go_simp; try with_reducible rfl)
      (try simp only [Act.put, List.getElem_toArray, List.getElem_cons_zero, List.getElem_cons_succ, List.setIfInBounds_toArray, List.set_cons_zero, List.set_cons_succ])
      refine wpAnyH_take (i := 14) (v := ?vu1514x62) rfl (by kernel_rfl) (by kernel_rfl) (by kernel_rfl) (fun _ _ _ h => h) (Or.inl ⟨by kernel_rfl, ?hu1514x62⟩) (by assumption) ?ru1514x62
      case hu1514x62 => (intro w hSw; (try dsimp only at hSw); go_simp; try with_reducible rfl)
      (try simp only [Act.put, List.getElem_toArray, List.getElem_cons_zero, List.getElem_cons_succ, List.setIfInBounds_toArray, List.set_cons_zero, List.set_cons_succ])
      refine wpAnyH_take (i := 16) (v := ?vu1516x65) rfl (by kernel_rfl) (by kernel_rfl) (by kernel_rfl) (fun _ _ _ h => h) (Or.inl ⟨by kernel_rfl, ?hu1516x65⟩) (by assumption) ?ru1516x65
      case hu1516x65 => (intro w hSw; (try dsimp only at hSw); go_simp; try with_reducible rfl)
      (try simp only [Act.put, List.getElem_toArray, List.getElem_cons_zero, List.getElem_cons_succ, List.setIfInBounds_toArray, List.set_cons_zero, List.set_cons_succ])
      refine wpAnyH_take (i := 15) (v := ?vu1515x68) rfl (by kernel_rfl) (by kernel_rfl) (by kernel_rfl) (fun _ _ _ h => h) (Or.inl ⟨by kernel_rfl, ?hu1515x68⟩) (by assumption) ?ru1515x68
      case hu1515x68 => (intro w hSw; (try dsimp only at hSw); go_simp; try with_reducible rfl)
      (try simp only [Act.put, List.getElem_toArray, List.getElem_cons_zero, List.getElem_cons_succ, List.setIfInBounds_toArray, List.set_cons_zero, List.set_cons_succ])
      refine wpAnyH_take (i := 17) (v := ?vu1517x71) rfl (by kernel_rfl) (by kernel_rfl) (by kernel_rfl) (fun _ _ _ h => h) (Or.inl ⟨by kernel_rfl, ?hu1517x71⟩) (by assumption) ?ru1517x71
      case hu1517x71 => (intro w hSw; (try dsimp only at hSw); go_simp; try with_reducible rfl)
      (try simp only [Act.put, List.getElem_toArray, List.getElem_cons_zero, List.getElem_cons_succ, List.setIfInBounds_toArray, List.set_cons_zero, List.set_cons_succ])
      refine wpAnyH_done (by kernel_rfl) ?_ _
      have HE := hidb (HEnd.out L3 HW3.out.2)
      obtain ⟨y, hy⟩ : ∃ y, y = a * ((wtL L3 N).length : Int) - sL l (wtL L3 N) := ⟨_, rfl⟩
      rw [← hy] at HE ⊢
      have HG := hidb G
      clear hy
      cases r4 with
      | true =>
        go_wp2
        go_ret
        exact ⟨rfl, HG.out⟩
      | false =>
        have hwx : wb ≤ y := by
          rcases HE.out with h | h
          · have := HR4.out.2 h; cases this
          · exact h
        go_wp2
        go_ret
        exact ⟨rfl, HG.out⟩
end Go.Proofs.YtddnebgnohlchaaGreatDoor
