/-
  drain.flood's next.; basin.Basins.; basin.Basins, walked.
-/
import Derived.Test.YtddnebgnohlchaaGreatDoorQJ11
import Derived.Test.YtddnebgnohlchaaGreatDoorQJ4
import Derived.Test.YtddnebgnohlchaaGreatDoorQJ12
import Derived.Test.YtddnebgnohlchaaGreatDoorQJ13
namespace Go.Proofs.YtddnebgnohlchaaGreatDoor
open Go.RowKit
attribute [local go_sem ↓] Go.wp_at_zero Go.wp_at_succ

theorem FM.five {w0 w : World} {base F LV FL N : Nat} {a b c : Value} {Lv Fl : List Int} {vo : Value} {ord : List Nat} {vq : Value} {q : List Wt} (h : FM w0 w base F LV FL N a b c Lv Fl vo ord vq q) {i : Nat} (hi : i < N) {d : Int} (hd : gl Fl i = d) : w.cell? ⟨F, 0, none⟩ = some a ∧ w.cell? ⟨F, 1, none⟩ = some b ∧ w.cell? ⟨F, 2, none⟩ = some c ∧ w.cell? ⟨F, 4, none⟩ = some (.slice (some ⟨FL, 0, none⟩) N N) ∧ w.cell? ⟨FL, i, none⟩ = some (.int .i64 d) := by
  refine ⟨(h.f.1 0 (by simp)).1, (h.f.1 1 (by simp)).1, (h.f.1 2 (by simp)).1, (h.f.1 4 (by simp)).1, ?_⟩
  rw [← hd, ← gl_get (show i < Fl.length by rw [h.ll.2]; exact hi)]
  exact (h.fl.get _).1
/-- Where a cell flows at the end; none: it is of the rim. -/
def nxO (m n : Nat) (l : List Int) (c : Nat) : Option Nat := if (flo m n l l.length).tw c = c then none else some ((flo m n l l.length).tw c)
theorem nx_nb {m n : Nat} {l : List Int} (ok : Ok l m n) {c : Nat} (hc : c < l.length) : ∃ d : Nat, d ≤ 8 ∧ flV m (flo m n l l.length) c = (d : Int) ∧ nbO m n c d = nxO m n l c := by
  have hs := flo_all m n l ok.m1 ok.len c hc
  have hs0 : (flo m n l l.length).st c ≠ 0 := by omega
  have ht := flo_tw m n l ok.m1 ok.len l.length c hs0
  refine ⟨wyD m c ((flo m n l l.length).tw c), ?_, ?_, ?_⟩
  · rcases ht with ht | ht
    · rw [ht]
      unfold wyD
      rw [Int.sub_self, Int.sub_self]
      decide
    · have := (tch_nb (n := n) ok.m1 ht.1 (by rw [← ok.len]; exact ht.2)).1
      omega
  · unfold flV
    rw [if_neg hs0]
  · unfold nxO
    by_cases e : (flo m n l l.length).tw c = c
    · rw [if_pos e, e]
      have e8 : wyD m c c = 8 := by
        unfold wyD
        rw [Int.sub_self, Int.sub_self]
        decide
      rw [e8]
      unfold nbO
      rw [if_pos (.inl rfl)]
    · rw [if_neg e]
      have h2 := ht.resolve_left e
      exact (tch_nb (n := n) ok.m1 h2.1 (by rw [← ok.len]; exact h2.2)).2
end Go.Proofs.YtddnebgnohlchaaGreatDoor
namespace Go.Proofs.YtddnebgnohlchaaGreatDoor
open Go.RowKit
attribute [local go_sem ↓] Go.wp_at_zero Go.wp_at_succ

/-- The basin of each cell. -/
def hmL (m n : Nat) (l : List Int) : List Int := (List.range l.length).map (fun c => (hom m n l c : Int))
theorem hmL_len (m n : Nat) (l : List Int) : (hmL m n l).length = l.length := by simp [hmL]
theorem oc_on {m n : Nat} {l : List Int} (ok : Ok l m n) {k : Nat} (hk : k < l.length) : gl (on (flo m n l l.length).ord) k = (oc m n l k : Int) := by
  have h := oc_get m n l ok.m1 ok.len hk
  have hl := ord_len m n l ok.m1 ok.len
  unfold flE at h hl
  rw [← gl_get (by rw [List.length_map, hl]; exact hk), ← h, List.getElem_map]
  rfl
theorem nxO_tw (m n : Nat) (l : List Int) (c : Nat) : nxO m n l c = if tw m n l c = c then none else some (tw m n l c) := rfl
theorem bas_none {m n : Nat} {l : List Int} (ok : Ok l m n) {k : Nat} (hk : k < l.length) {L : List Int} (hL : L.length = l.length) (h : ∀ i, i < k → gl L (oc m n l i) = (hom m n l (oc m n l i) : Int)) (hn : nxO m n l (oc m n l k) = none) : ∀ i, i < k + 1 → gl (L.set (oc m n l k) (oc m n l k : Int)) (oc m n l i) = (hom m n l (oc m n l i) : Int) := by
  have hf : tw m n l (oc m n l k) = oc m n l k := by
    rw [nxO_tw] at hn
    by_cases c : tw m n l (oc m n l k) = oc m n l k
    · exact c
    · rw [if_neg c] at hn; cases hn
  intro i hi
  rw [gl_set (by rw [hL]; exact oc_lt m n l ok.m1 ok.len hk)]
  by_cases e : i = k
  · subst e
    rw [if_pos rfl, hom_self m n l hf]
  · rw [if_neg (fun x => e (oc_inj m n l ok.m1 ok.len (by omega) hk x))]
    exact h i (by omega)
theorem bas_some {m n : Nat} {l : List Int} (ok : Ok l m n) {k t : Nat} (hk : k < l.length) {L : List Int} (hL : L.length = l.length) (h : ∀ i, i < k → gl L (oc m n l i) = (hom m n l (oc m n l i) : Int)) (hn : nxO m n l (oc m n l k) = some t) : t < l.length ∧ gl (L.set (oc m n l k) (oc m n l k : Int)) t = (hom m n l t : Int) ∧ ∀ i, i < k + 1 → gl ((L.set (oc m n l k) (oc m n l k : Int)).set (oc m n l k) (hom m n l t : Int)) (oc m n l i) = (hom m n l (oc m n l i) : Int) := by
  have hf : tw m n l (oc m n l k) ≠ oc m n l k ∧ tw m n l (oc m n l k) = t := by
    rw [nxO_tw] at hn
    by_cases c : tw m n l (oc m n l k) = oc m n l k
    · rw [if_pos c] at hn; cases hn
    · rw [if_neg c] at hn; exact ⟨c, Option.some.inj hn⟩
  have hlt := oc_lt m n l ok.m1 ok.len hk
  obtain ⟨j, hj, hjt⟩ := (oc_bef m n l ok.m1 ok.len hk).resolve_left hf.1
  have hjt' : oc m n l j = t := by rw [hjt]; exact hf.2
  have ht : t < l.length := by rw [← hjt']; exact oc_lt m n l ok.m1 ok.len (by omega)
  have hne : t ≠ oc m n l k := by rw [← hf.2]; exact hf.1
  refine ⟨ht, ?_, fun i hi => ?_⟩
  · rw [gl_set (by rw [hL]; exact hlt), if_neg hne, ← hjt']
    exact h j hj
  · rw [gl_set (by rw [List.length_set, hL]; exact hlt)]
    by_cases e : i = k
    · subst e
      rw [if_pos rfl, ← hf.2, hom_tw m n l ok.m1 ok.len hlt]
    · have hne2 : ¬ oc m n l i = oc m n l k := fun x => e (oc_inj m n l ok.m1 ok.len (by omega) hk x)
      rw [if_neg hne2, gl_set (by rw [hL]; exact hlt), if_neg hne2]
      exact h i (by omega)
theorem bas_end {m n : Nat} {l : List Int} (ok : Ok l m n) {L : List Int} (hL : L.length = l.length) (h : ∀ i, i < l.length → gl L (oc m n l i) = (hom m n l (oc m n l i) : Int)) : L = hmL m n l :=
  list_gl hL (fun i hi => by
    obtain ⟨k, hk, rfl⟩ := oc_all m n l ok.m1 ok.len hi
    exact h k hk)
/-- What lies in memory while the basins are told. -/
structure BA (w W : World) (T b1 FL B N : Nat) (t : List Value) (O Fl L : List Int) : Prop where
  t : At W T t
  o : ∀ k, k < N → W.cell? ⟨b1, k, none⟩ = some (.int .i64 (gl O k))
  ol : b1 < W.heap.size
  f : At W FL (ir Fl)
  l : At W B (ir L)
  gr : Gr w W
  ne : (T ≠ B ∧ b1 ≠ B ∧ FL ≠ B) ∧ w.heap.size ≤ B
section
variable {w W : World} {T b1 FL B N : Nat} {t : List Value} {O Fl L : List Int}
theorem BA.below {w' : World} (h : BA w W T b1 FL B N t O Fl L) (hB : Below W.heap.size W w') : BA w w' T b1 FL B N t O Fl L :=
  ⟨At.below hB h.t, fun k hk => ((mcell hB).1 b1 k h.ol).trans (h.o k hk), Nat.lt_of_lt_of_le h.ol hB.size, At.below hB h.f, At.below hB h.l, Gr.step h.gr hB, h.ne⟩
theorem BA.drew (h : BA w W T b1 FL B N t O Fl L) : BA w W.drew T b1 FL B N t O Fl L := ⟨h.t, h.o, h.ol, h.f, h.l, h.gr.drew, h.ne⟩
theorem BA.put (h : BA w W T b1 FL B N t O Fl L) (i : Nat) (x : Int) : BA w (W.setCell ⟨B, i, none⟩ (.int .i64 x)) T b1 FL B N t O Fl (L.set i x) := by
  obtain ⟨⟨n1, n2, n3⟩, n4⟩ := h.ne
  refine ⟨h.t.skip (Ne.symm n1) _ _, fun k hk => ?_, by simpa using h.ol, h.f.skip (Ne.symm n3) _ _, ?_, h.gr.set n4 _ _, h.ne⟩
  · have hk' := h.o k hk
    have n2' : ¬ b1 = B := n2
    simp [go_sem, hk']
  · rw [← ir_set]; exact h.l.put i _
end
end Go.Proofs.YtddnebgnohlchaaGreatDoor
namespace Go.Proofs.YtddnebgnohlchaaGreatDoor
open Go.RowKit
attribute [local go_sem ↓] Go.wp_at_zero Go.wp_at_succ

theorem BA.begin {w W : World} {T b1 FL N : Nat} {t : List Value} {O Fl : List Int} {ad : Option Addr} {cap : Nat} {CS : Array Value} {ty : Nat} (hP : PF w W T t) (hO : ISl W ad b1 0 cap O) (hN : O.length = N) (h1 : 1 ≤ N) (hF : At W FL (ir Fl)) (hC : CS.toList = ir (List.replicate N 0)) : BA w (W.alloc (.cells CS ty)) T b1 FL W.heap.size N t O Fl (List.replicate N 0) := by
  have hol : b1 < W.heap.size := by
    rcases hO.row with r | r
    · exact r.2
    · rw [r] at hN; simp at hN; omega
  have hB : Below W.heap.size W (W.alloc (.cells CS ty)) := (Below.refl _ _).alloc (Nat.le_refl _) _
  refine ⟨hP.a.alloc _, fun k hk => ?_, Nat.lt_of_lt_of_le hol hB.size, hF.alloc _, ?_, hP.gr.alloc _, ⟨?_, ?_, ?_⟩, hP.gr.out.size⟩
  · rw [(mcell hB).1 b1 k hol]
    have := hO.gcell (k := k) (by omega)
    rw [Nat.zero_add] at this
    exact this
  · rw [← hC]; exact At.newArr _ _ _
  · exact fun e => by have := hP.a.lt; omega
  · omega
  · exact fun e => by have := hF.lt; omega
set_option maxRecDepth 4000 in
set_option maxHeartbeats 16000000 in
theorem basins_ok (g : Nat → Addr) {m n Lb Lo Lcap : Nat} {l : List Int} (w : World) (hR : Rs w Lb Lo Lcap l) (ok : Ok l m n) (hv : vcode m n l = 0) (hl : Lai w g) : Calls Tryz.prog 20 #[raV m n (.slice (some ⟨Lb, Lo, none⟩) l.length Lcap)] w fun e w' => ∃ B, e = .returned (.tuple #[.slice (some ⟨B, 0, none⟩) l.length l.length, .nilIface]) ∧ At w' B (ir (hmL m n l)) ∧ w.heap.size ≤ B ∧ Gr w w' := by
  have hlen := ok.len_le
  have hN1 : 1 ≤ l.length := by rw [ok.len]; exact Nat.mul_le_mul ok.m1 ok.n1
  obtain ⟨CS, hCS, mk⟩ := made_run l.length (by omega)
  have HCS := hidb hCS
  have HOk := hidb ok
  have HL := hidb (show 1 ≤ l.length ∧ l.length ≤ 16384 from ⟨hN1, hlen⟩)
  have HOl : Hid ((on (flo m n l l.length).ord).length = l.length) := by show _ = _; rw [List.length_map]; exact ord_len m n l ok.m1 ok.len
  have HOc : Hid (∀ k, k < l.length → gl (on (flo m n l l.length).ord) k = (oc m n l k : Int)) := fun k hk => oc_on ok hk
  have PX : Hid (PF w (w.alloc (.cells #[.int .i64 (m : Int), .int .i64 (n : Int), .slice (some ⟨Lb, Lo, none⟩) l.length Lcap] 32)) w.heap.size [.int .i64 (m : Int), .int .i64 (n : Int), .slice (some ⟨Lb, Lo, none⟩) l.length Lcap]) := ⟨At.new3 _ _ _ _ _, (Gr.refl w).alloc _⟩
  have HFl := hidb (fun W (hG : Gr w W) => flow_ok g W (hR.below hG.out) ok hv (hl.below hG.out))
  have HOr := hidb (fun W (hG : Gr w W) => order_ok g W (hR.below hG.out) ok hv (hl.below hG.out))
  have HNb := hidb (fun c d (hc : c < l.length) (hd : d ≤ 8) W => neighbour_any (m := m) (n := n) (some ⟨Lb, Lo, none⟩) l.length Lcap c d ok.m1 ok.m2 ok.n2 (by omega) ⟨hc, hlen⟩ hd W)
  obtain ⟨N, hN⟩ : ∃ N, N = l.length := ⟨_, rfl⟩
  have HN := hidb hN
  rw [← hN] at mk PX HFl HOr HL HCS HOl HOc HNb ⊢
  clear hR ok hlen hN1 hCS hN hv hl
  show Calls Tryz.prog 20 #[.agg #[.int .i64 (m : Int), .int .i64 (n : Int), .slice (some ⟨Lb, Lo, none⟩) N Lcap]] w _
  go_enter Tryz.func20, Tryz.ntmps20
  obtain ⟨q0, q1, q2⟩ := PX.out.a.c3
  go_wp2_with fail
  refine (HFl.out _ PX.out.gr).mono ?_
  rintro e w1 ⟨FL, rfl, hFL, -, hB⟩
  have AFL := hidb hFL
  clear q0 q1 q2 HFl hFL
  replace PX := hidb (PX.out.below hB.out)
  clear hB
  obtain ⟨q0, q1, q2⟩ := PX.out.a.c3
  go_wp2_with fail
  refine (HOr.out _ PX.out.gr).mono ?_
  rintro e w2 ⟨base, vo, rfl, hvo, -, hB⟩
  obtain ⟨ad1, b1, cap1, rfl, hO1⟩ := own_isl2 hvo
  rw [HOl.out]
  have HO1 := hidb hO1
  clear q0 q1 q2 HOr hO1 hvo
  replace PX := hidb (PX.out.below hB.out)
  replace AFL := hidb (At.below hB.out AFL.out)
  clear hB
  obtain ⟨q0, q1, q2⟩ := PX.out.a.c3
  have E0 := hidb (BA.begin (CS := CS) (ty := 3) PX.out HO1.out HOl.out HL.out.1 AFL.out HCS.out)
  go_wp2
  clear q0 q1 q2 PX AFL mk HCS
  obtain ⟨B, hBd⟩ : ∃ B, B = w2.heap.size := ⟨_, rfl⟩
  rw [← hBd] at E0 ⊢
  clear hBd
  generalize w2.alloc (.cells CS 3) = w3 at *
  go_loopw [34] (fun t wr => ∃ (k : Nat) (L : List Int), k ≤ N ∧ t = .int .i64 (k : Int) ∧ Hid (BA w wr w.heap.size b1 FL B N [.int .i64 (m : Int), .int .i64 (n : Int), .slice (some ⟨Lb, Lo, none⟩) N Lcap] (on (flo m n l N).ord) (flL m n l) L ∧ L.length = N ∧ ∀ i, i < k → gl L (oc m n l i) = (hom m n l (oc m n l i) : Int))) (fun t _ => N - (intOf t).toNat)
  case atStart => exact ⟨0, _, Nat.zero_le _, rfl, hidb ⟨E0.out, by simp, fun i hi => absurd hi (Nat.not_lt_zero _)⟩⟩
  case round =>
    clear E0
    obtain ⟨k, L, hk, rfl, E⟩ := hrel
    by_cases h1 : ¬ k < N
    · have h1' : ¬ (k : Int) < (N : Int) := by omega
      have HE : Hid (At wr B (ir (hmL m n l))) := by
        rw [← bas_end HOk.out (E.out.2.1.trans HN.out) (fun i hi => E.out.2.2 i (by have := HN.out; omega))]
        exact E.out.1.l
      clear h1
      go_wp2
      go_ret2
      exact ⟨B, rfl, HE.out, E.out.1.ne.2, E.out.1.gr⟩
    · have h1' : (k : Int) < (N : Int) := by omega
      have e1 : IntKind.i64.wrap ((k : Int) + 1) = ((k + 1 : Nat) : Int) := by rw [show (k : Int) + 1 = ((k + 1 : Nat) : Int) by omega]; exact wrap_in (by have := HL.out; omega) (by have := HL.out; omega)
      have hkN : k < N := by omega
      have hkl : k < l.length := by rw [← HN.out]; exact hkN
      have hcl := oc_lt m n l HOk.out.m1 HOk.out.len hkl
      have cO := E.out.1.o k hkN
      rw [HOc.out k hkN] at cO
      have ixO := HO1.out.ix k (by rw [HOl.out]; exact hkN)
      rw [HOl.out, Nat.zero_add] at ixO
      have HBn := hidb (fun hn => bas_none HOk.out hkl (E.out.2.1.trans HN.out) E.out.2.2 hn)
      have HBs := hidb (fun t hn => bas_some (t := t) HOk.out hkl (E.out.2.1.trans HN.out) E.out.2.2 hn)
      obtain ⟨d, hd, hf, hnb⟩ := nx_nb HOk.out hcl
      have hfl : gl (flL m n l) (oc m n l k) = (d : Int) := by unfold flL; rw [gl_map hcl]; exact hf
      generalize oc m n l k = c at *
      have hcN : c < N := by rw [HN.out]; exact hcl
      have HC := hidb (HNb.out c d hcN hd)
      rw [hnb] at HC
      have ixB := iindex B 0 N N c hcN
      have ixF := iindex FL 0 N N c hcN
      rw [Nat.zero_add] at ixB ixF
      obtain ⟨cB, fB⟩ := E.out.1.l.get (j := c) (by rw [E.out.2.1]; exact hcN)
      rw [gl_get (by rw [E.out.2.1]; exact hcN)] at cB
      have HE1 := hidb (E.out.1.put c (c : Int))
      have HLn : Hid ((L.set c (c : Int)).length = N) := by show _ = _; rw [List.length_set]; exact E.out.2.1
      have HKp : Hid (∀ W L', BA w W w.heap.size b1 FL B N [.int .i64 (m : Int), .int .i64 (n : Int), .slice (some ⟨Lb, Lo, none⟩) N Lcap] (on (flo m n l N).ord) (flL m n l) L' → W.cell? ⟨w.heap.size, 0, none⟩ = some (.int .i64 (m : Int)) ∧ W.cell? ⟨w.heap.size, 1, none⟩ = some (.int .i64 (n : Int)) ∧ W.cell? ⟨w.heap.size, 2, none⟩ = some (.slice (some ⟨Lb, Lo, none⟩) N Lcap) ∧ W.cell? ⟨FL, c, none⟩ = some (.int .i64 (d : Int))) := fun W L' X => by
        obtain ⟨a, b, c'⟩ := X.t.c3
        refine ⟨a, b, c', ?_⟩
        have := (X.f.get (j := c) (by rw [flL_len, ← HN.out]; exact hcN)).1
        rw [gl_get (by rw [flL_len, ← HN.out]; exact hcN), hfl] at this
        exact this
      clear h1 hkl hcl hf hfl hnb E hd HNb
      have HcN := hidb hcN
      clear hcN
      cases ho : nxO m n l c with
      | none =>
        rw [ho] at HC HBn
        replace HBn := hidb (HBn.out rfl)
        unfold nbA at HC
        clear ho HBs
        go_upto_region 12 with fail
        generalize wr.setCell ⟨B, c, none⟩ (.int .i64 (c : Int)) = W1 at *
        have PX := HE1.out
        clear HE1 cO cB fB
        go_region_held (fun w' => w'.cell? ⟨w.heap.size, 0, none⟩ = some (.int .i64 (m : Int)) ∧ w'.cell? ⟨w.heap.size, 1, none⟩ = some (.int .i64 (n : Int)) ∧ w'.cell? ⟨w.heap.size, 2, none⟩ = some (.slice (some ⟨Lb, Lo, none⟩) N Lcap) ∧ w'.cell? ⟨FL, c, none⟩ = some (.int .i64 (d : Int)))
          (with_reducible first | exact HKp.out _ _ PX | exact HKp.out _ _ PX.drew)
          ((go_at_call 43; with_reducible refine (HC.out _).mono ?_; rintro e w9 ⟨rfl, hB9⟩; (with_reducible first | replace PX := PX.below hB9.out | replace PX := PX.drew.below hB9.out)))
        all_goals
          go_wp2
          go_roundw
          case rel => exact ⟨k + 1, _, by omega, by go_num, hidb ⟨by with_reducible first | exact PX | exact PX.drew, HLn.out, HBn.out⟩⟩
          case measure => simp [intOf]; omega
      | some t =>
        rw [ho] at HC HBs
        obtain ⟨htl, hgt, hst⟩ := HBs.out t rfl
        have htN : t < N := by rw [HN.out]; exact htl
        have HBt := hidb hst
        unfold nbA at HC
        dsimp only at HC
        have ixT := iindex B 0 N N t htN
        rw [Nat.zero_add] at ixT
        have HKt : Hid (∀ W, BA w W w.heap.size b1 FL B N [.int .i64 (m : Int), .int .i64 (n : Int), .slice (some ⟨Lb, Lo, none⟩) N Lcap] (on (flo m n l N).ord) (flL m n l) (L.set c (c : Int)) → W.cell? ⟨B, t, none⟩ = some (.int .i64 (hom m n l t : Int)) ∧ W.cell? ⟨B, c, none⟩ = some (.int .i64 (c : Int)) ∧ W.frozen? ⟨B, c, none⟩ = false) := fun W X => by
          have h := (X.l.get (j := t) (by rw [HLn.out]; exact htN)).1
          rw [gl_get (by rw [HLn.out]; exact htN), hgt] at h
          have h2 := X.l.get (j := c) (by rw [HLn.out]; exact HcN.out)
          rw [List.getElem_set_self] at h2
          exact ⟨h, h2⟩
        have HL2 : Hid (((L.set c (c : Int)).set c (hom m n l t : Int)).length = N) := by show _ = _; rw [List.length_set]; exact HLn.out
        generalize hom m n l t = ht at *
        clear ho HBn HBs htl hgt hst htN
        go_upto_region 12 with fail
        generalize wr.setCell ⟨B, c, none⟩ (.int .i64 (c : Int)) = W1 at *
        have PX := HE1.out
        clear HE1 cO cB fB
        go_region_held (fun w' => w'.cell? ⟨w.heap.size, 0, none⟩ = some (.int .i64 (m : Int)) ∧ w'.cell? ⟨w.heap.size, 1, none⟩ = some (.int .i64 (n : Int)) ∧ w'.cell? ⟨w.heap.size, 2, none⟩ = some (.slice (some ⟨Lb, Lo, none⟩) N Lcap) ∧ w'.cell? ⟨FL, c, none⟩ = some (.int .i64 (d : Int)))
          (with_reducible first | exact HKp.out _ _ PX | exact HKp.out _ _ PX.drew)
          ((go_at_call 43; with_reducible refine (HC.out _).mono ?_; rintro e w9 ⟨rfl, hB9⟩; (with_reducible first | replace PX := PX.below hB9.out | replace PX := PX.drew.below hB9.out)))
        all_goals
          obtain ⟨cT, cU, fT⟩ := HKt.out _ PX
          obtain ⟨cT', cU', fT'⟩ := HKt.out _ PX.drew
          go_wp2
          go_roundw
          case rel => exact ⟨k + 1, _, by omega, by go_num, hidb ⟨by with_reducible first | exact PX.put _ _ | exact PX.drew.put _ _, HL2.out, HBt.out⟩⟩
          case measure => simp [intOf]; omega
theorem basins_no (g : Nat → Addr) {W H : Int} {ad : Option Addr} {b o cap : Nat} {l : List Int} (w : World) (h : ISl w ad b o cap l) (ll : l.length ≤ 20000) (hl : Lai w g) (hv : ¬ vcode W H l = 0) : Calls Tryz.prog 20 #[raV W H (.slice ad l.length cap)] w fun e w' => e = .returned (.tuple #[.slice none 0 0, evc g (vcode W H l)]) ∧ Gr w w' := by
  have PX : Hid (PF w (w.alloc (.cells #[.int .i64 W, .int .i64 H, .slice ad l.length cap] 32)) w.heap.size [.int .i64 W, .int .i64 H, .slice ad l.length cap]) := ⟨At.new3 _ _ _ _ _, (Gr.refl w).alloc _⟩
  have C1 := hidb (flow_no g _ (h.below PX.out.gr.out) ll (hl.below PX.out.gr.out) hv)
  rw [evc_of hv] at C1 ⊢
  generalize vcode W H l - 1 = ei at *
  clear h ll hl hv
  go_enter Tryz.func20, Tryz.ntmps20
  obtain ⟨q0, q1, q2⟩ := PX.out.a.c3
  go_wp2_with fail
  refine C1.out.mono ?_
  rintro e w1 ⟨rfl, hB⟩
  clear q0 q1 q2
  go_wp2
  go_ret2
  exact ⟨rfl, Gr.step PX.out.gr hB.out⟩
end Go.Proofs.YtddnebgnohlchaaGreatDoor
