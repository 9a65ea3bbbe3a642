/-
  basin.pairs.; basin.Divides.
-/
import Derived.Test.YtddnebgnohlchaaGreatDoorQJ15
import Derived.Test.YtddnebgnohlchaaGreatDoorQDrT
namespace Go.Proofs.YtddnebgnohlchaaGreatDoor
open Go.RowKit
attribute [local go_sem ↓] Go.wp_at_zero Go.wp_at_succ

/-- A cell and its neighbour in a direction. -/
def pr1 (m n c d : Nat) : List Wt := match nbO m n c d with
  | none => []
  | some o => [((c : Int), o)]
def prJ (m n c : Nat) (D : List Nat) (j : Nat) : List Wt := (D.take j).flatMap (pr1 m n c)
/-- The pairs of the first k cells. -/
def prK (m n : Nat) (D : List Nat) (k : Nat) : List Wt := (List.range k).flatMap (fun c => D.flatMap (pr1 m n c))
theorem prJ_snoc {m n c : Nat} {D : List Nat} {j : Nat} (h : j < D.length) : prJ m n c D (j + 1) = prJ m n c D j ++ pr1 m n c D[j] := by
  unfold prJ
  rw [List.take_succ_eq_append_getElem h, List.flatMap_append]
  simp
theorem prK_snoc (m n : Nat) (D : List Nat) (k : Nat) : prK m n D (k + 1) = prK m n D k ++ prJ m n k D D.length := by
  unfold prK prJ
  rw [List.range_succ, List.flatMap_append, List.take_length]
  simp
theorem pr1_len (m n c d : Nat) : (pr1 m n c d).length ≤ 1 := by unfold pr1; split <;> simp
theorem prJ_len (m n c : Nat) (D : List Nat) : ∀ j, j ≤ D.length → (prJ m n c D j).length ≤ j
  | 0, _ => by simp [prJ]
  | j + 1, h => by
    rw [prJ_snoc (by omega), List.length_append]
    have := prJ_len m n c D j (by omega)
    have := pr1_len m n c D[j]
    omega
theorem prK_len (m n : Nat) (D : List Nat) : ∀ k, (prK m n D k).length ≤ k * D.length
  | 0 => by simp [prK]
  | k + 1 => by
    rw [prK_snoc, List.length_append, Nat.succ_mul]
    have := prK_len m n D k
    have := prJ_len m n k D D.length (Nat.le_refl _)
    omega
theorem infoP : (Tryz.prog.info? 62).map (fun i => (i.zero, i.size, i.bytes)) = some (some (.agg #[.int .i64 0, .int .i64 0]), 2, 16) := by kernel_rfl
theorem undP : Tryz.prog.underlying 60 = some (.slice 62) := by kernel_rfl
theorem wpList_p2 {ops : Array Oper} {rest : List Oper} {o : Oper} {a : Act} {Q : Exit → Act → World → Prop} (W : World) (b0 : Nat) (v : Value) (l : List Wt) (r : Wt) (n B : Nat) (s x : Operand) (hgd : o.guard = none)
    (ho : o.op = .call { callee := .builtin .append, args := #[s, x], argTypes := #[60, 60] }) (hs : a.eval s = v) (hx : a.eval x = .slice (some ⟨B, 0, none⟩) 1 1) (hn : l.length = n) (hl : n ≤ 140000)
    (hO : W.ownsRow b0 62 2 v n (qr l)) (hN : At W B (Wcs r)) (hb : b0 ≤ W.heap.size)
    (h : ∀ g cap w', Hid (w'.ownsRow b0 62 2 (.slice (some ⟨g, 0, none⟩) (n + 1) cap) (n + 1) (qr (l ++ [r]))) → Hid (W.grownBy w' v.ownBlock) → wpList Tryz.prog ops Q rest (a.put o.dst (.slice (some ⟨g, 0, none⟩) (n + 1) cap)) w') : wpList Tryz.prog ops Q (o :: rest) a W := by
  have hml : 1000000 ≤ maxLen := by decide
  have ones : ∀ u ∈ Wcs r, u.oneCell' = true := by
    intro u hu
    simp only [List.mem_cons, List.not_mem_nil, or_false] at hu
    rcases hu with rfl | rfl <;> rfl
  obtain ⟨i0, hi, hz0, hz1, hz2⟩ := info_parts infoP
  refine wpList_append_own _ hgd s x _ ho b0 _ i0 (.agg #[.int .i64 0, .int .i64 0]) 2 16 undP hi hz0 hz1 hz2 rfl (by decide) v n (qr l) hs hO ⟨B, 0, none⟩ 1 1 (Wcs r) hx rfl (news_AtW hN) ones (by omega) (by omega) hb ?_
  intro v' w' hown hgrow _
  rw [qr_snoc] at hown
  obtain ⟨g, cap, rfl⟩ : ∃ g cap, v' = .slice (some ⟨g, 0, none⟩) (n + 1) cap := by
    obtain ⟨_, ⟨_, h0⟩ | ⟨g, cap, cur, hv, _⟩⟩ := hown
    · omega
    · exact ⟨g, cap, hv⟩
  exact h g cap w' hown hgrow
/-- Two blocks and a row of pairs. -/
structure PB (w W : World) (T DB base q : Nat) (t u : List Value) (v : Value) (P : List Wt) : Prop where
  t : At W T t
  d : At W DB u
  r : W.ownsRow base 62 2 v q (qr P)
  len : P.length = q
  gr : Gr w W
  b : (T < base ∧ DB < base) ∧ w.heap.size ≤ base ∧ base ≤ W.heap.size
section
variable {w W : World} {T DB base q : Nat} {t u : List Value} {v : Value} {P : List Wt}
theorem PB.below {w' : World} (h : PB w W T DB base q t u v P) (hB : Below W.heap.size W w') : PB w w' T DB base q t u v P :=
  ⟨At.below hB h.t, At.below hB h.d, own_keep h.r hB, h.len, Gr.step h.gr hB, h.b.1, h.b.2.1, Nat.le_trans h.b.2.2 hB.size⟩
theorem PB.app {w' : World} {ob : Obj} {v' : Value} {P' : List Wt} {k : Nat} (h : PB w W T DB base q t u v P) (hk : P'.length = k) (hown : w'.ownsRow base 62 2 v' k (qr P')) (hg : (W.alloc ob).grownBy w' v.ownBlock) : PB w w' T DB base k t u v' P' := by
  have hv : ∀ i, i < base → v.ownBlock ≠ some i := fun i hi e => by have := (h.r.lt i e).1; omega
  subst hk
  exact ⟨At.grow (h.t.alloc ob) hg (hv _ h.b.1.1), At.grow (h.d.alloc ob) hg (hv _ h.b.1.2), hown, rfl, Below.grown (h.gr.alloc ob).out hg (by have := h.gr.out.size; simp; omega) (fun k hk => by have := (h.r.lt k hk).1; have := h.b.2.1; omega), h.b.1, h.b.2.1, by have := hg.size; have := h.b.2.2; simp at *; omega⟩
end
set_option maxRecDepth 4000 in
set_option maxHeartbeats 16000000 in
theorem pairs_any {m n Lb Lo Lcap DB : Nat} {l : List Int} {D : List Nat} (w : World) (ok : Ok l m n) (hD : ∀ d ∈ D, d ≤ 8) (hDl : D.length ≤ 8) (hA : At w DB (ir (on D))) : Calls Tryz.prog 44 #[raV m n (.slice (some ⟨Lb, Lo, none⟩) l.length Lcap), .slice (some ⟨DB, 0, none⟩) D.length D.length] w fun e w' => ∃ v, e = .returned v ∧ ∃ base, w'.ownsRow base 62 2 v (prK m n D l.length).length (qr (prK m n D l.length)) ∧ w.heap.size ≤ base ∧ Gr w w' := by
  have hlen := ok.len_le
  have HNb := hidb (fun c d (hc : c < l.length) (hd : d ≤ 8) W => neighbour_any (m := m) (n := n) (some ⟨Lb, Lo, none⟩) l.length Lcap c d ok.m1 ok.m2 ok.n2 (by omega) ⟨hc, hlen⟩ hd W)
  have E0 : Hid (PB w (w.alloc (.cells #[.int .i64 (m : Int), .int .i64 (n : Int), .slice (some ⟨Lb, Lo, none⟩) l.length Lcap] 32)) w.heap.size DB (w.heap.size + 1) 0 [.int .i64 (m : Int), .int .i64 (n : Int), .slice (some ⟨Lb, Lo, none⟩) l.length Lcap] (ir (on D)) (.slice none 0 0) (prK m n D 0)) :=
    ⟨At.new3 _ _ _ _ _, hA.alloc _, World.ownsRow_nil _ _ _ _, rfl, (Gr.refl w).alloc _, ⟨Nat.lt_succ_self _, Nat.lt_succ_of_lt hA.lt⟩, Nat.le_succ _, by simp⟩
  obtain ⟨N, hN⟩ : ∃ N, N = l.length := ⟨_, rfl⟩
  rw [← hN] at E0 HNb hlen ⊢
  obtain ⟨M, hM⟩ : ∃ M, M = D.length := ⟨_, rfl⟩
  have HM := hidb (show M = D.length ∧ M ≤ 8 ∧ ∀ d ∈ D, d ≤ 8 from ⟨hM, by omega, hD⟩)
  rw [← hM]
  have HL := hidb hlen
  have HPk : Hid (∀ k, k ≤ N → (prK m n D k).length ≤ 131072) := fun k hk => by
    have h1 := prK_len m n D k
    have h2 : k * D.length ≤ 16384 * 8 := Nat.mul_le_mul (by omega) hDl
    omega
  clear ok hlen hN hM hD hDl hA
  show Calls Tryz.prog 44 #[.agg #[.int .i64 (m : Int), .int .i64 (n : Int), .slice (some ⟨Lb, Lo, none⟩) N Lcap], .slice (some ⟨DB, 0, none⟩) M M] w _
  go_enter Tryz.func44, Tryz.ntmps44
  obtain ⟨q0, q1, q2⟩ := E0.out.t.c3
  go_wp2
  clear q0 q1 q2
  generalize w.alloc (.cells #[.int .i64 (m : Int), .int .i64 (n : Int), .slice (some ⟨Lb, Lo, none⟩) N Lcap] 32) = w1 at *
  go_loopw [5, 14] (fun s t wr => ∃ (k q : Nat), k ≤ N ∧ t = .int .i64 (k : Int) ∧ Hid (PB w wr w.heap.size DB (w.heap.size + 1) q [.int .i64 (m : Int), .int .i64 (n : Int), .slice (some ⟨Lb, Lo, none⟩) N Lcap] (ir (on D)) s (prK m n D k))) (fun _ t _ => N - (intOf t).toNat)
  case atStart => exact ⟨0, 0, Nat.zero_le _, rfl, E0⟩
  case round =>
    clear E0
    obtain ⟨k, q, hk, rfl, E⟩ := hrel
    obtain ⟨ad1, cap1, rfl⟩ := own_shape2 E.out.r
    by_cases h1 : ¬ k < N
    · have h1' : ¬ (k : Int) < (N : Int) := by omega
      obtain rfl : k = N := by omega
      clear h1
      go_wp2
      go_ret
      exact ⟨_, rfl, w.heap.size + 1, by rw [E.out.len]; exact E.out.r, Nat.le_succ _, E.out.gr⟩
    · have h1' : (k : Int) < (N : Int) := by omega
      have hkN : k < N := by omega
      have e1 : IntKind.i64.wrap ((k : Int) + 1) = ((k + 1 : Nat) : Int) := by rw [show (k : Int) + 1 = ((k + 1 : Nat) : Int) by omega]; exact wrap_in (by have := HL.out; omega) (by have := HL.out; omega)
      have HE1 := hidb e1
      have HkN := hidb hkN
      have h10 : Hid (PB w wr w.heap.size DB (w.heap.size + 1) q [.int .i64 (m : Int), .int .i64 (n : Int), .slice (some ⟨Lb, Lo, none⟩) N Lcap] (ir (on D)) (.slice ad1 q cap1) (prK m n D k ++ prJ m n k D 0)) := by
        have : prJ m n k D 0 = [] := by simp [prJ]
        rw [this, List.append_nil]
        exact E
      clear h1 hkN e1 E
      go_wp2
      go_loopw [5, 19] (fun s t wr => ∃ (j q : Nat), j ≤ M ∧ t = .int .i64 (j : Int) ∧ Hid (PB w wr w.heap.size DB (w.heap.size + 1) q [.int .i64 (m : Int), .int .i64 (n : Int), .slice (some ⟨Lb, Lo, none⟩) N Lcap] (ir (on D)) s (prK m n D k ++ prJ m n k D j))) (fun _ t _ => M - (intOf t).toNat)
      case atStart => exact ⟨0, q, Nat.zero_le _, rfl, h10⟩
      case round =>
        clear h10
        obtain ⟨j, q2, hj, rfl, E⟩ := hrel
        obtain ⟨ad2, cap2, rfl⟩ := own_shape2 E.out.r
        by_cases h2 : ¬ j < M
        · have h2' : ¬ (j : Int) < (M : Int) := by omega
          obtain rfl : j = M := by omega
          have hs := prK_snoc m n D k
          rw [← HM.out.1] at hs
          have HS := hidb hs
          clear hs
          have e1 := HE1.out
          clear h2
          go_wp2
          go_roundw
          case rel => exact ⟨k + 1, q2, HkN.out, by go_num, by rw [HS.out]; exact E⟩
          case measure => have := HkN.out; simp [intOf]; omega
        · have h2' : (j : Int) < (M : Int) := by omega
          have hjM : j < M := by omega
          have hjD : j < D.length := by rw [← HM.out.1]; exact hjM
          have e2 : IntKind.i64.wrap ((j : Int) + 1) = ((j + 1 : Nat) : Int) := by rw [show (j : Int) + 1 = ((j + 1 : Nat) : Int) by omega]; exact wrap_in (by have := HM.out; omega) (by have := HM.out; omega)
          have ix := iindex DB 0 M M j hjM
          rw [Nat.zero_add] at ix
          have cD := (E.out.d.get (j := j) (by simpa using hjD)).1
          have HSn := hidb (prJ_snoc (m := m) (n := n) (c := k) hjD)
          have hd8 := HM.out.2.2 D[j] (List.getElem_mem hjD)
          have cD' : (on D)[j]'(by simpa using hjD) = ((D[j] : Nat) : Int) := by simp [on]
          rw [cD'] at cD
          generalize D[j] = d at *
          have HC := hidb (HNb.out k d HkN.out hd8)
          have HLn : Hid (q2 ≤ 140000) := by
            show _ ≤ _
            have hq := E.out.len
            have := HPk.out k (by have := HkN.out; omega)
            have := prJ_len m n k D j (by omega)
            have := HM.out.2.1
            rw [List.length_append] at hq
            omega
          obtain ⟨q0, q1, q2⟩ := E.out.t.c3
          clear h2 hjM hjD hd8 cD'
          cases ho : nbO m n k d with
          | none =>
            have HS2 : Hid (prJ m n k D (j + 1) = prJ m n k D j) := by show _ = _; rw [HSn.out]; unfold pr1; rw [ho]; simp
            rw [ho] at HC
            unfold nbA at HC
            clear ho HSn
            go_wp2_with fail
            refine (HC.out _).mono ?_
            rintro e w2 ⟨rfl, hB⟩
            replace E := hidb (E.out.below hB.out)
            clear hB q0 q1 q2 cD
            go_wp2
            go_roundw
            case rel => exact ⟨j + 1, q2, by omega, by go_num, by rw [HS2.out]; exact E⟩
            case measure => simp [intOf]; omega
          | some o =>
            have HS2 : Hid (prJ m n k D (j + 1) = prJ m n k D j ++ [((k : Int), o)]) := by show _ = _; rw [HSn.out]; unfold pr1; rw [ho]
            rw [ho] at HC
            unfold nbA at HC
            dsimp only at HC
            clear ho HSn
            go_wp2_with fail
            refine (HC.out _).mono ?_
            rintro e w2 ⟨rfl, hB⟩
            replace E := hidb (E.out.below hB.out)
            clear hB q0 q1 q2 cD
            go_wp2_with (at_builtin; refine wpList_p2 _ (w.heap.size + 1) (.slice ad2 q2 cap2) (prK m n D k ++ prJ m n k D j) ((k : Int), o) q2 w2.heap.size _ _ rfl rfl rfl rfl E.out.len HLn.out (E.out.r.alloc _) (At.new2 _ _ _ _) (by have := E.out.b; simp; omega) ?_; intro g2 cap3 w3 hown hgrow)
            have HE3 := hidb (E.out.app (by rw [List.length_append, E.out.len]; rfl) hown.out hgrow.out)
            go_roundw
            case rel => exact ⟨j + 1, q2 + 1, by omega, by go_num, by rw [HS2.out, ← List.append_assoc]; exact HE3⟩
            case measure => simp [intOf]; omega
end Go.Proofs.YtddnebgnohlchaaGreatDoor
namespace Go.Proofs.YtddnebgnohlchaaGreatDoor
open Go.RowKit
attribute [local go_sem ↓] Go.wp_at_zero Go.wp_at_succ

theorem pindex (g n cap k : Nat) (hk : k < n) (w : World) : (Instr.indexAt 60 (.slice (some ⟨g, 0, none⟩) n cap) (.int .i64 k)).run Tryz.prog w = .ok (.pointer (some ⟨g, k * 2, none⟩)) w := by
  have hu : Tryz.prog.underlying 60 = some (.slice (Tryz.prog.elem 60)) := by kernel_rfl
  refine (run_indexAt_slice (P := Tryz.prog) (w := w) 60 ⟨g, 0, none⟩ n cap .i64 (k : Int) hu).trans ?_
  rw [if_pos ⟨by omega, by omega⟩]
  have hs : (sizeOf (Tryz.prog.elem 60)).run Tryz.prog w = .ok 2 w := by kernel_rfl
  rw [hs]
  simp [Addr.add]
  intro h; omega
/-- A slice of pairs that is read. -/
structure PSl (w : World) (ad : Option Addr) (b cap : Nat) (P : List Wt) : Prop where
  row : ∀ j, j < P.length → (w.cell? ⟨b, j * 2, none⟩ = some (.int .i64 (wx P j).1) ∧ w.cell? ⟨b, j * 2 + 1, none⟩ = some (.int .i64 ((wx P j).2 : Int))) ∧ b < w.heap.size
  ix : ∀ j : Nat, j < P.length → ∀ w, (Instr.indexAt 60 (.slice ad P.length cap) (.int .i64 j)).run Tryz.prog w = .ok (.pointer (some ⟨b, j * 2, none⟩)) w
theorem PSl.below {W w' : World} {ad : Option Addr} {b cap : Nat} {P : List Wt} (h : PSl W ad b cap P) (hB : Below W.heap.size W w') : PSl w' ad b cap P :=
  ⟨fun j hj => by
    obtain ⟨⟨h1, h2⟩, h3⟩ := h.row j hj
    exact ⟨⟨((mcell hB).1 b _ h3).trans h1, ((mcell hB).1 b _ h3).trans h2⟩, Nat.lt_of_lt_of_le h3 hB.size⟩, h.ix⟩
theorem own_psl {w : World} {base : Nat} {v : Value} {n : Nat} {P : List Wt} (h : w.ownsRow base 62 2 v n (qr P)) (hn : P.length = n) : ∃ ad b cap, v = .slice ad P.length cap ∧ PSl w ad b cap P := by
  have hlt := h.lt
  subst hn
  obtain ⟨h1, h | ⟨g, cap, cur, hv, hb, hg, hc, hm, hs, ht⟩⟩ := h
  · obtain ⟨rfl, h0⟩ := h
    exact ⟨none, 0, 0, by rw [h0], fun j hj => by omega, fun j hj => by omega⟩
  · subst hv
    refine ⟨_, g, cap, rfl, fun j hj => ?_, fun j hj w => pindex g _ cap j hj w⟩
    have key : ∀ i, (hi : i < 2) → w.cell? ⟨g, j * 2 + i, none⟩ = (Wcs (wx P j))[i]? := by
      intro i hi
      have e1 : (cur.toList.take (P.length * 2))[j * 2 + i]? = (qr P)[j * 2 + i]? := by rw [ht]
      rw [List.getElem?_take, if_pos (by omega), qr_get P j hj i hi] at e1
      simp [World.cell?, hg]
      simpa using e1
    exact ⟨⟨key 0 (by decide), key 1 (by decide)⟩, (hlt g rfl).2⟩
theorem wx_el {P : List Wt} {j : Nat} (hj : j < P.length) : P[j] = wx P j := by unfold wx; simp [hj]
theorem prK_mem {m n : Nat} {D : List Nat} {k : Nat} {p : Wt} (h : p ∈ prK m n D k) : ∃ c d, c < k ∧ d ∈ D ∧ p.1 = (c : Int) ∧ nbO m n c d = some p.2 := by
  unfold prK at h
  obtain ⟨c, hc, h⟩ := List.mem_flatMap.1 h
  obtain ⟨d, hd, h⟩ := List.mem_flatMap.1 h
  unfold pr1 at h
  cases ho : nbO m n c d with
  | none => rw [ho] at h; cases h
  | some o =>
    rw [ho] at h
    obtain rfl := List.mem_singleton.1 h
    exact ⟨c, d, List.mem_range.1 hc, hd, rfl, ho⟩
/-- Do the two belong to two basins? -/
def apt (m n : Nat) (l : List Int) (p : Wt) : Bool := decide (hom m n l p.1.toNat ≠ hom m n l p.2)
def dvJ (m n : Nat) (l : List Int) (P : List Wt) (j : Nat) : List Wt := (P.take j).filter (apt m n l)
theorem dvJ_snoc {m n : Nat} {l : List Int} {P : List Wt} {j : Nat} (h : j < P.length) : dvJ m n l P (j + 1) = dvJ m n l P j ++ if apt m n l (wx P j) then [wx P j] else [] := by
  unfold dvJ
  rw [List.take_succ_eq_append_getElem h, List.filter_append, wx_el h]
  congr 1
  by_cases c : apt m n l (wx P j) = true
  · simp [c]
  · simp [c]
theorem dvJ_len (m n : Nat) (l : List Int) (P : List Wt) (j : Nat) : (dvJ m n l P j).length ≤ P.length := by
  unfold dvJ
  exact Nat.le_trans (List.length_filter_le _ _) (by rw [List.length_take]; omega)
/-- The divides. -/
def dvL (m n : Nat) (l : List Int) : List Wt := (prK m n [0, 6] l.length).filter (apt m n l)
theorem dvJ_all (m n : Nat) (l : List Int) : dvJ m n l (prK m n [0, 6] l.length) (prK m n [0, 6] l.length).length = dvL m n l := by unfold dvJ dvL; rw [List.take_length]
/-- What lies in memory while the divides are told. -/
structure DV (w W : World) (ad : Option Addr) (b cap B base q : Nat) (P : List Wt) (L : List Int) (v : Value) (O : List Wt) : Prop where
  p : PSl W ad b cap P
  l : At W B (ir L)
  r : W.ownsRow base 62 2 v q (qr O)
  len : O.length = q
  gr : Gr w W
  b : ((∀ j, j < P.length → b < base) ∧ B < base) ∧ w.heap.size ≤ base ∧ base ≤ W.heap.size
section
variable {w W : World} {ad : Option Addr} {b cap B base q : Nat} {P : List Wt} {L : List Int} {v : Value} {O : List Wt}
theorem DV.below {w' : World} (h : DV w W ad b cap B base q P L v O) (hB : Below W.heap.size W w') : DV w w' ad b cap B base q P L v O :=
  ⟨h.p.below hB, At.below hB h.l, own_keep h.r hB, h.len, Gr.step h.gr hB, h.b.1, h.b.2.1, Nat.le_trans h.b.2.2 hB.size⟩
theorem DV.drewN (h : DV w W ad b cap B base q P L v O) (k : Nat) : DV w (W.drewN k) ad b cap B base q P L v O := h.below ((Gr.refl W).drewN k).out
theorem DV.app {w' : World} {ob : Obj} {v' : Value} {O' : List Wt} {k : Nat} (h : DV w W ad b cap B base q P L v O) (hk : O'.length = k) (hown : w'.ownsRow base 62 2 v' k (qr O')) (hg : (W.alloc ob).grownBy w' v.ownBlock) : DV w w' ad b cap B base k P L v' O' := by
  have hv : ∀ i, i < base → v.ownBlock ≠ some i := fun i hi e => by have := (h.r.lt i e).1; omega
  have hP : PSl (W.alloc ob) ad b cap P := h.p.below ((Below.refl _ _).alloc (Nat.le_refl _) _)
  refine ⟨⟨fun j hj => ?_, h.p.ix⟩, At.grow (h.l.alloc ob) hg (hv _ h.b.1.2), hown, hk, Below.grown (h.gr.alloc ob).out hg (by have := h.gr.out.size; simp; omega) (fun k hk => by have := (h.r.lt k hk).1; have := h.b.2.1; omega), h.b.1, h.b.2.1, by have := hg.size; have := h.b.2.2; simp at *; omega⟩
  obtain ⟨⟨h1, h2⟩, h3⟩ := hP.row j hj
  have hb := hg.block b h3 (fun e => hv _ (h.b.1.1 j hj) e.symm)
  exact ⟨⟨(World.cell?_of_block (w := W.alloc ob) (a := ⟨b, j * 2, none⟩) hb).trans h1, (World.cell?_of_block (w := W.alloc ob) (a := ⟨b, j * 2 + 1, none⟩) hb).trans h2⟩, Nat.lt_of_lt_of_le h3 hg.size⟩
end
end Go.Proofs.YtddnebgnohlchaaGreatDoor
