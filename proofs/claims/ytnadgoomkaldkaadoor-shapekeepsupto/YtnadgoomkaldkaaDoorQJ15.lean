/-
  mercatorref5.Thinner.; shape.thinner.round.
-/
import Derived.Test.YtnadgoomkaldkaaDoorQTgI
import Derived.Test.YtnadgoomkaldkaaDoorQTgN
import Derived.Test.YtnadgoomkaldkaaDoorQJ14
namespace Go.Proofs.YtnadgoomkaldkaaDoor
open Go.RowKit
attribute [local go_sem ↓] Go.wp_at_zero Go.wp_at_succ

theorem set_flat : ∀ (Ls : List (List Sp)) (i : Nat) (a' : List Sp), i < Ls.length → (Ls.set i a').flatten.length + (lx Ls i).length = Ls.flatten.length + a'.length
  | [], i, _, h => by simp at h
  | a :: Ls, 0, a', _ => by
    simp only [List.set_cons_zero, List.flatten_cons, List.length_append]
    have : (lx (a :: Ls) 0).length = a.length := rfl
    omega
  | a :: Ls, i + 1, a', h => by
    have ih := set_flat Ls i a' (by simpa using h)
    simp only [List.set_cons_succ, List.flatten_cons, List.length_append]
    have : (lx (a :: Ls) (i + 1)).length = (lx Ls i).length := rfl
    omega
theorem wo_flat {Ls : List (List Sp)} {i k : Nat} (hi : i < Ls.length) (hk : k < (lx Ls i).length) : (woM Ls i k).flatten.length < Ls.flatten.length := by
  have h1 := set_flat Ls i ((lx Ls i).eraseIdx k) hi
  have h2 := er_len hk
  unfold woM
  omega
/-- A map behind a pointer. -/
structure MP (w W : World) (pb po : Nat) (ad : Option Addr) (b o cap : Nat) (Ls : List (List Sp)) : Prop where
  c : W.cell? ⟨pb, po, none⟩ = some (.slice ad Ls.length cap)
  l : pb < W.heap.size
  d : LLd W ad b o cap Ls
  g : Gr w W
theorem MP.below {w W w' : World} {pb po : Nat} {ad : Option Addr} {b o cap : Nat} {Ls : List (List Sp)} (h : MP w W pb po ad b o cap Ls) (hB : Below W.heap.size W w') : MP w w' pb po ad b o cap Ls :=
  ⟨(hB.cell (p := ⟨pb, po, none⟩) h.l).trans h.c, Nat.lt_of_lt_of_le h.l hB.size, h.d.below hB, Gr.step h.g hB⟩
/-- Where a round is, with how many points it began. -/
structure TQ (most : Int) (s0 : ThS) (F0 N : Nat) (Ls : List (List Sp)) (x k : Nat) (f : Bool) : Prop where
  p : Pth most s0 ⟨Ls, x, k, f⟩
  m : mcd Ls = 0
  n : Ls.length = N
  k0 : 0 < k
  le : Ls.flatten.length ≤ F0
  lt : f = true → Ls.flatten.length < F0
section
variable {most : Int} {s0 : ThS} {F0 N : Nat} {Ls : List (List Sp)} {x k : Nat} {f : Bool}
theorem TQ.next (h : TQ most s0 F0 N Ls x k f) (hx : x < N) (hk : ¬ k + 1 < (lx Ls x).length) : TQ most s0 F0 N Ls (x + 1) 1 f :=
  ⟨.tail h.p (.next (by rw [h.n]; exact hx) hk), h.m, h.n, by omega, h.le, h.lt⟩
theorem TQ.drop (h : TQ most s0 F0 N Ls x k f) (hx : x < N) (hk : k + 1 < (lx Ls x).length) (hf : frP most Ls x k) : TQ most s0 F0 N (woM Ls x k) x k true := by
  have hx2 : x < Ls.length := by rw [h.n]; exact hx
  have hl := wo_flat (k := k) hx2 (by omega)
  have := h.le
  exact ⟨.tail h.p (.drop hx2 hk hf), fr_right h.m hx2 h.k0 hk hf, by rw [wo_len]; exact h.n, h.k0, by omega, fun _ => by omega⟩
theorem TQ.keep (h : TQ most s0 F0 N Ls x k f) (hx : x < N) (hk : k + 1 < (lx Ls x).length) (hf : ¬ frP most Ls x k) : TQ most s0 F0 N Ls x (k + 1) f :=
  ⟨.tail h.p (.keep (by rw [h.n]; exact hx) hk hf), h.m, h.n, by omega, h.le, h.lt⟩
end
/-- At the head of a round. -/
def TR (most : Int) (s0 : ThS) (N : Nat) (Ls : List (List Sp)) (ag : Bool) (gk : Nat) : Prop :=
  mcd Ls = 0 ∧ Ls.length = N ∧ ((ag = true ∧ Pth most s0 ⟨Ls, 0, 1, false⟩) ∨ (ag = false ∧ Pth most s0 ⟨Ls, N, 1, false⟩)) ∧ 2 * Ls.flatten.length + (if ag then 1 else 0) ≤ gk
theorem TQ.fin {most : Int} {s0 : ThS} {F0 N : Nat} {Ls : List (List Sp)} {f : Bool} (h : TQ most s0 F0 N Ls N 1 f) : TR most s0 N Ls f (2 * F0) := by
  refine ⟨h.m, h.n, ?_, ?_⟩
  · cases f with
    | true => exact .inl ⟨rfl, .tail h.p (.again (by rw [h.n]; omega))⟩
    | false => exact .inr ⟨rfl, h.p⟩
  · cases f with
    | true => have := h.lt rfl; show 2 * Ls.flatten.length + 1 ≤ 2 * F0; omega
    | false => have := h.le; show 2 * Ls.flatten.length + 0 ≤ 2 * F0; omega
end Go.Proofs.YtnadgoomkaldkaaDoor
namespace Go.Proofs.YtnadgoomkaldkaaDoor
open Go.RowKit
attribute [local go_sem ↓] Go.wp_at_zero Go.wp_at_succ

/-- What a round leaves. -/
def RdE (w w' : World) (T SP cS GO CL AR cA : Nat) (B cp : Nat → Nat) (most : Int) (S : List Sp) (s0 : ThS) (F0 N : Nat) (e : Ending) : Prop := ∃ (f : Bool) (A : List (List Nat)) (G : List Bool) (C : List Nat), e = .returned (.bool f) ∧ TH w w' T SP cS GO CL AR cA B cp most S A G C ∧ NI S A G C ∧ TQ most s0 F0 N (lsA S A) N 1 f
/-- The thinner and where it is. -/
structure TS (w W : World) (T SP cS GO CL AR cA : Nat) (B cp : Nat → Nat) (most : Int) (S : List Sp) (s0 : ThS) (F0 N : Nat) (A : List (List Nat)) (G : List Bool) (C : List Nat) (x k : Nat) (f : Bool) : Prop where
  t : TH w W T SP cS GO CL AR cA B cp most S A G C
  n : NI S A G C
  q : TQ most s0 F0 N (lsA S A) x k f
theorem TS.al {w W : World} {T SP cS GO CL AR cA : Nat} {B cp : Nat → Nat} {most : Int} {S : List Sp} {s0 : ThS} {F0 N : Nat} {A : List (List Nat)} {G : List Bool} {C : List Nat} {x k : Nat} {f : Bool} (h : TS w W T SP cS GO CL AR cA B cp most S s0 F0 N A G C x k f) : A.length = N := by have := h.q.n; rw [ls_len] at this; exact this
theorem TS.len {w W : World} {T SP cS GO CL AR cA : Nat} {B cp : Nat → Nat} {most : Int} {S : List Sp} {s0 : ThS} {F0 N : Nat} {A : List (List Nat)} {G : List Bool} {C : List Nat} {x k : Nat} {f : Bool} (h : TS w W T SP cS GO CL AR cA B cp most S s0 F0 N A G C x k f) {j : Nat} (hj : j < N) : (ax A j).length ≤ 4000 := by
  have hj2 : j < A.length := by rw [h.al]; exact hj
  have h1 := len_le (Ls := lsA S A) (i := j) (by rw [ls_len]; exact hj2)
  rw [lx_lsl hj2] at h1
  have := (mcd_ok h.q.m).2.1
  omega
set_option maxRecDepth 4000 in
set_option maxHeartbeats 16000000 in
theorem round_any {w W : World} {T SP cS GO CL AR cA : Nat} {B cp : Nat → Nat} {most : Int} {S : List Sp} {s0 : ThS} {F0 N : Nat} {A : List (List Nat)} {G : List Bool} {C : List Nat} (hS : ∀ y, y < S.length → okS (sx S y)) (hSl : S.length ≤ 5000) (h : TS w W T SP cS GO CL AR cA B cp most S s0 F0 N A G C 0 1 false) : Calls Tryd.prog 34 #[.pointer (some ⟨T, 0, none⟩)] W fun e w' => RdE w w' T SP cS GO CL AR cA B cp most S s0 F0 N e := by
  have HNb := hidb (show N ≤ 60 by rw [← h.q.n]; exact (mcd_ok h.q.m).1)
  have HFr := hidb (fun W A G C x k f (hT : TS w W T SP cS GO CL AR cA B cp most S s0 F0 N A G C x k f) (hx : x < N) (hk : k + 1 < (ax A x).length) => free_any hT.t hT.n hS hSl (by rw [hT.al]; have := HNb.out; omega) (by rw [hT.al]; exact hx) hT.q.k0 hk (by have := hT.len hx; omega))
  have HDr := hidb (fun W A G C x k f (hT : TS w W T SP cS GO CL AR cA B cp most S s0 F0 N A G C x k f) (hx : x < N) (hk : k + 1 < (ax A x).length) => drop_any hT.t hT.n (by rw [hT.al]; exact hx) hT.q.k0 hk (by have := hT.len hx; omega))
  have HMk : Hid (∀ w' f A G C, TS w w' T SP cS GO CL AR cA B cp most S s0 F0 N A G C N 1 f → RdE w w' T SP cS GO CL AR cA B cp most S s0 F0 N (.returned (.bool f))) := fun w' f A G C hT => ⟨f, A, G, C, rfl, hT.t, hT.n, hT.q⟩
  have HT4 : Hid (∀ W A G C x k f, TS w W T SP cS GO CL AR cA B cp most S s0 F0 N A G C x k f → W.cell? ⟨T, 4, none⟩ = some (.slice (some ⟨AR, 0, none⟩) N cA)) := fun W A G C x k f hT => by
    have := (at5 hT.t.t).2.2.2.2
    rw [hT.al] at this
    exact this
  have HAx : Hid (∀ W A G C x k f, TS w W T SP cS GO CL AR cA B cp most S s0 F0 N A G C x k f → x < N → W.cell? ⟨AR, x, none⟩ = some (.slice (some ⟨B x, 0, none⟩) (ax A x).length (cp x))) := fun W A G C x k f hT hx => (hT.t.arc (by rw [hT.al]; exact hx)).1
  have HIx : Hid (∀ x, x < N → ∀ w, (Instr.indexAt 34 (.slice (some ⟨AR, 0, none⟩) N cA) (.int .i64 (x : Int))).run Tryd.prog w = .ok (.pointer (some ⟨AR, x, none⟩)) w) := fun x hx w => by
    have := tindex AR N cA x hx w
    rw [Nat.zero_add] at this
    exact this
  have E0 := hidb h
  have t4 := HT4.out _ _ _ _ _ _ _ h
  clear hS hSl h
  go_enter Tryd.func34, Tryd.ntmps34
  go_wp2
  clear t4
  go_loopw [3, 11] (fun s t wr => ∃ (x : Nat) (f : Bool) (A : List (List Nat)) (G : List Bool) (C : List Nat), s = .bool f ∧ x ≤ N ∧ t = .int .i64 (x : Int) ∧ Hid (TS w wr T SP cS GO CL AR cA B cp most S s0 F0 N A G C x 1 f)) (fun _ t _ => N - (intOf t).toNat)
  case atStart => exact ⟨0, false, A, G, C, rfl, Nat.zero_le _, rfl, E0⟩
  case round =>
    clear E0
    obtain ⟨x, f, A, G, C, rfl, hx, rfl, E⟩ := hrel
    by_cases h1 : ¬ x < N
    · have h1' : ¬ (x : Int) < (N : Int) := by omega
      obtain rfl : x = N := by omega
      have HZ := hidb (HMk.out _ _ _ _ _ E.out)
      clear h1 E
      go_wp2
      go_ret
      exact HZ.out
    · have h1' : (x : Int) < (N : Int) := by omega
      have H1 := hidb (show x < N by omega)
      have e1 : IntKind.i64.wrap ((x : Int) + 1) = ((x + 1 : Nat) : Int) := by rw [show (x : Int) + 1 = ((x + 1 : Nat) : Int) by omega]; exact wr_in (by omega) (by have := HNb.out; omega)
      have ix := HIx.out x H1.out
      clear h1
      go_wp2
      go_loopg [3, 5] ((ax A x).length) (fun gj s t wx => ∃ (f : Bool) (k : Nat) (A : List (List Nat)) (G : List Bool) (C : List Nat), s = .bool f ∧ t = .int .i64 (k : Int) ∧ Hid (TS w wx T SP cS GO CL AR cA B cp most S s0 F0 N A G C x k f ∧ (ax A x).length - k ≤ gj ∧ k ≤ 5000))
      case atStart => exact ⟨f, 1, A, G, C, rfl, rfl, hidb ⟨E.out, by omega, by omega⟩⟩
      case round =>
        clear E
        obtain ⟨f, k, A, G, C, rfl, rfl, E⟩ := hrel
        have t4 := HT4.out _ _ _ _ _ _ _ E.out.1
        have cX := HAx.out _ _ _ _ _ _ _ E.out.1 H1.out
        have hL5 := E.out.1.len H1.out
        have hxA : x < A.length := by rw [E.out.1.al]; exact H1.out
        have hll := lx_lsl (S := S) hxA
        have e2 : IntKind.i64.wrap ((k : Int) + 1) = ((k + 1 : Nat) : Int) := by rw [show (k : Int) + 1 = ((k + 1 : Nat) : Int) by omega]; exact wr_in (by omega) (by have := E.out.2.2; omega)
        have HE := hidb E.out.1
        have HGj := hidb E.out.2.1
        have HK5 := hidb E.out.2.2
        by_cases h2 : ¬ k + 1 < (ax A x).length
        · have h2' : ¬ ((k + 1 : Nat) : Int) < ((ax A x).length : Int) := by omega
          have HZ := hidb (show TS w wr T SP cS GO CL AR cA B cp most S s0 F0 N A G C (x + 1) 1 f from ⟨HE.out.t, HE.out.n, HE.out.q.next H1.out (by rw [hll]; exact h2)⟩)
          generalize (ax A x).length = L at *
          clear h2 E hL5 hll hxA
          go_wp2
          go_roundw
          case rel => exact ⟨x + 1, f, A, G, C, rfl, H1.out, by go_num, HZ⟩
          case measure => have := H1.out; simp [intOf]; omega
        · have h2' : ((k + 1 : Nat) : Int) < ((ax A x).length : Int) := by omega
          have hk2 : k + 1 < (ax A x).length := by omega
          have HK5b := hidb (show k + 1 ≤ 5000 by omega)
          have HF2 := hidb (HFr.out wr A G C x k f HE.out H1.out hk2)
          have HEx := hidb (And.intro hxA hk2)
          have HQk := hidb (And.intro H1.out (show k + 1 < (lx (lsA S A) x).length by rw [hll]; exact hk2))
          have HLx := hidb (axl_wo hxA (k := k) (by omega) x)
          by_cases hf : frP most (lsA S A) x k
          · rw [frB_t hf] at HF2
            have HQ2 := hidb (HE.out.q.drop HQk.out.1 HQk.out.2 hf)
            have HL2 := hidb (show 1 ≤ (ax A x).length - k by omega)
            have HD2 := hidb (fun W C' (hT : TS w W T SP cS GO CL AR cA B cp most S s0 F0 N A G C' x k f) => HDr.out W A G C' x k f hT H1.out hk2)
            have HQ0 := hidb HE.out.q
            generalize hLg : (ax A x).length = L at *
            have HLg := hidb hLg
            clear h2 E hL5 hll hxA hf hk2 hLg
            go_wp2_with (first | (go_at_call 49; refine HF2.out.mono ?_; rintro e w4 ⟨C4, rfl, hN4, hT4⟩; have HE4 : Hid (TS w w4 T SP cS GO CL AR cA B cp most S s0 F0 N A G C4 x k f) := ⟨hT4, hN4, HQ0.out⟩; clear t4 cX) | (go_at_call 50; refine (HD2.out _ _ HE4.out).mono ?_; rintro e w5 ⟨rfl, hT5⟩))
            have HE5 : Hid (TS w w5 T SP cS GO CL AR cA B cp most S s0 F0 N (woA A x k) (G.set (nn A x k) true) ((C4.set (nn A x (k - 1)) 0).set (nn A x (k + 1)) 0) x k true) := ⟨hT5, HE4.out.n.drop HEx.out.1 HQ0.out.k0 (by rw [HLg.out]; exact HEx.out.2), by rw [ls_wo S HEx.out.1]; exact HQ2.out⟩
            go_roundg (L - 1 - k)
            case measure => have := HL2.out; have := HGj.out; omega
            case rel => exact ⟨true, k, woA A x k, _, _, rfl, rfl, hidb ⟨HE5.out, by rw [HLx.out, if_pos trivial]; omega, HK5.out⟩⟩
          · rw [frB_f hf] at HF2
            have HQ2 := hidb (HE.out.q.keep HQk.out.1 HQk.out.2 hf)
            have HL2 := hidb (show (ax A x).length - (k + 1) + 1 = (ax A x).length - k by omega)
            generalize hLg : (ax A x).length = L at *
            have HLg := hidb hLg
            clear h2 E hL5 hll hxA hf hk2 hLg
            go_wp2_with (go_at_call 49; refine HF2.out.mono ?_; rintro e w4 ⟨C4, rfl, hN4, hT4⟩; have HE4 : Hid (TS w w4 T SP cS GO CL AR cA B cp most S s0 F0 N A G C4 x (k + 1) f) := ⟨hT4, hN4, HQ2.out⟩; clear t4 cX)
            go_roundg (L - (k + 1))
            case measure => have := HL2.out; have := HGj.out; omega
            case rel => exact ⟨f, k + 1, A, G, C4, rfl, by go_num, hidb ⟨HE4.out, by rw [HLg.out]; exact Nat.le_refl _, HK5b.out⟩⟩
end Go.Proofs.YtnadgoomkaldkaaDoor
