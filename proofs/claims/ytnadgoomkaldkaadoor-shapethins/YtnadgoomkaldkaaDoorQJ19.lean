/-
  shape.Sizes.; mercatorref5.PointsOf.; mercatorlaw5.mapped.
-/
import Derived.Test.YtnadgoomkaldkaaDoorQTk
import Derived.Test.YtnadgoomkaldkaaDoorQJ10
import Derived.Lib.SliceRun
namespace Go.Proofs.YtnadgoomkaldkaaDoor
open Go.RowKit
attribute [local go_sem ↓] Go.wp_at_zero Go.wp_at_succ

/-- The sizes so far. -/
def zW (Ls : List (List Sp)) (Q : List (List Nat)) (i : Nat) (x : Int) : List Int := (List.range Q.length).map fun k => if k < i then szW Ls (Q.getD k []) else if k = i then x else 0
theorem zW_len (Ls : List (List Sp)) (Q : List (List Nat)) (i : Nat) (x : Int) : (zW Ls Q i x).length = Q.length := by simp [zW]
theorem zW_get {Ls : List (List Sp)} {Q : List (List Nat)} {i : Nat} {x : Int} (h : i < (zW Ls Q i x).length) : (zW Ls Q i x)[i] = x := by simp [zW]
theorem zW_set (Ls : List (List Sp)) (Q : List (List Nat)) (i : Nat) (x y : Int) : (zW Ls Q i x).set i y = zW Ls Q i y := by
  apply List.ext_getElem
  · simp [zW]
  · intro k h1 h2
    simp only [List.getElem_set]
    by_cases e : i = k
    · subst e; simp [zW]
    · simp [zW, e, Ne.symm e]
theorem zW_0 (Ls : List (List Sp)) (Q : List (List Nat)) : zW Ls Q 0 0 = List.replicate Q.length 0 := by
  apply List.ext_getElem <;> simp [zW]
theorem zW_succ (Ls : List (List Sp)) (Q : List (List Nat)) (i : Nat) : zW Ls Q i (szW Ls (Q.getD i [])) = zW Ls Q (i + 1) 0 := by
  apply List.ext_getElem
  · simp [zW]
  · intro k h1 h2
    simp only [zW, List.getElem_map, List.getElem_range]
    by_cases e : k < i
    · rw [if_pos e, if_pos (by omega)]
    · rw [if_neg e]
      by_cases e2 : k = i
      · subst e2; rw [if_pos rfl, if_pos (by omega)]
      · rw [if_neg e2, if_neg (by omega)]; simp
theorem zW_end (Ls : List (List Sp)) (Q : List (List Nat)) : zW Ls Q Q.length 0 = Q.map (szW Ls) := by
  apply List.ext_getElem
  · simp [zW]
  · intro k h1 h2
    have h3 : k < Q.length := by simpa using h2
    simp [zW, h3]
theorem szW_take {Ls : List (List Sp)} {R : List Nat} {j : Nat} (h : j < R.length) : szW Ls (R.take (j + 1)) = szW Ls (R.take j) + swW Ls (R.getD j 0) := by
  rw [List.take_succ_eq_append_getElem h]
  unfold szW
  rw [List.map_append, List.sum_append]
  simp [h]
theorem pcl_ok {Ls : List (List Sp)} (hok : okL Ls) {i : Nat} (hi : i < Ls.length) : ∀ p ∈ pcl (lx Ls i), okS p.1 ∧ okS p.2 := by
  intro p hp
  unfold pcl pk at hp
  obtain ⟨k, hk, rfl⟩ := List.mem_map.1 hp
  have := List.mem_range.1 hk
  exact ⟨hok i hi k (by omega), hok i hi (k + 1) (by omega)⟩
theorem swW_bd {Ls : List (List Sp)} (hok : okL Ls) (h60 : ∀ i, i < Ls.length → (lx Ls i).length ≤ 60) {u : Nat} (hu : u < 2 * Ls.length) : -33776997205278720 ≤ swW Ls u ∧ swW Ls u ≤ 33776997205278720 := by
  have hi : u / 2 < Ls.length := by omega
  have h1 := sw_bd _ (pcl_ok hok hi)
  have h2 := h60 _ hi
  rw [pcl_len] at h1
  have h3 : ((((lx Ls (u / 2)).length - 1 : Nat)) : Int) ≤ 60 := by omega
  unfold swW
  split <;> omega
theorem szW_bd {Ls : List (List Sp)} : ∀ R : List Nat, (∀ u ∈ R, -33776997205278720 ≤ swW Ls u ∧ swW Ls u ≤ 33776997205278720) → -(33776997205278720 * (R.length : Int)) ≤ szW Ls R ∧ szW Ls R ≤ 33776997205278720 * (R.length : Int)
  | [], _ => by simp [szW]
  | u :: R, h => by
    have ih := szW_bd R (fun v hv => h v (by simp [hv]))
    have h1 := h u (by simp)
    have e : szW Ls (u :: R) = swW Ls u + szW Ls R := by simp [szW]
    rw [e, List.length_cons]
    push_cast
    omega
/-- What lies in memory while the sizes are told. -/
structure SZ (w2 W : World) (SO : Nat) (Z : List Int) : Prop where
  a : At W SO (ir Z)
  g : Gr w2 W
  lo : w2.heap.size ≤ SO
theorem SZ.below {w2 W w' : World} {SO : Nat} {Z : List Int} (h : SZ w2 W SO Z) (hB : Below W.heap.size W w') : SZ w2 w' SO Z := ⟨At.below hB h.a, Gr.step h.g hB, h.lo⟩
theorem SZ.drew {w2 W : World} {SO : Nat} {Z : List Int} (h : SZ w2 W SO Z) : SZ w2 W.drew SO Z := ⟨h.a.drew, h.g.drew, h.lo⟩
theorem SZ.cel {w2 W : World} {SO i : Nat} {Ls : List (List Sp)} {Q : List (List Nat)} {x : Int} (h : SZ w2 W SO (zW Ls Q i x)) (hi : i < Q.length) : W.cell? ⟨SO, i, none⟩ = some (.int .i64 x) ∧ W.frozen? ⟨SO, i, none⟩ = false := by
  have h0 : i < (zW Ls Q i x).length := by rw [zW_len]; exact hi
  have := h.a.1 i (by simpa [ir] using h0)
  rw [show (ir (zW Ls Q i x))[i]'(by simpa [ir] using h0) = .int .i64 x by simp [ir, zW_get h0]] at this
  exact this
theorem SZ.put {w2 W : World} {SO i : Nat} {Ls : List (List Sp)} {Q : List (List Nat)} {x : Int} (h : SZ w2 W SO (zW Ls Q i x)) (y : Int) : SZ w2 (W.setCell ⟨SO, i, none⟩ (.int .i64 y)) SO (zW Ls Q i y) :=
  ⟨by have := h.a.put i (.int .i64 y); rw [show (ir (zW Ls Q i x)).set i (.int .i64 y) = ir (zW Ls Q i y) by rw [← zW_set Ls Q i x y]; simp [ir]] at this; exact this, h.g.set h.lo _ _, h.lo⟩
theorem made_runI (K : Nat) (hK : K ≤ 20000) : ∃ CS : Array Value, CS.toList = ir (List.replicate K 0) ∧ ∀ w, (Instr.makeSlice 37 (.int .i64 (K : Int)) (.int .i64 (K : Int))).run Tryd.prog w = .ok (.slice (some ⟨w.heap.size, 0, none⟩) K K) (w.alloc (.cells CS 3)) := by
  have hml : 30000 ≤ maxLen := by decide
  obtain ⟨i0, hi, hz0, hz1, hz2⟩ := info_pt infoJ
  refine ⟨madeCells #[Value.int .i64 0] K, by rw [toList_madeCells_one]; simp [ir], fun w => ?_⟩
  have := run_makeSlice (P := Tryd.prog) w 37 3 i0 (.int .i64 0) undI hi hz0 .i64 .i64 (K : Int) (K : Int) (by omega) (Int.le_refl _) (by rw [hz1]; omega) (by rw [hz2]; omega) (by omega)
  rw [hz1, Int.toNat_natCast, Nat.mul_one] at this
  exact this
theorem RQ.lisn {W : World} {base n : Nat} {v : Value} {vs : List Value} {L : List (List Int)} (h : RQ W base v vs L) (hn : L.length = n) : ∃ ad b o cap, v = .slice ad n cap ∧ Hid (LIs W ad b o cap L) := by
  obtain ⟨ad, b, cap, h1, h2⟩ := h.lis
  exact ⟨ad, b, 0, cap, by rw [← hn]; exact h1, h2⟩
theorem sizes_err (g : Nat → Addr) {c : Nat} (v : Value) (w : World) (H : ∀ W, Gr w W → Calls Tryd.prog 12 #[.agg #[v]] W fun e w' => e = .returned (.tuple #[.slice none 0 0, errV g c]) ∧ Gr W w') : Calls Tryd.prog 13 #[.agg #[v]] w fun e w' => e = .returned (.tuple #[.slice none 0 0, errV g c]) ∧ Gr w w' := by
  have PX : Hid (PF1 w (w.alloc (.cells #[v] 32)) w.heap.size [v]) := ⟨At.new1 _ _ _, (Gr.refl w).alloc _⟩
  have HR := hidb H
  have hn := fun w => run_neq_iface_nil (P := Tryd.prog) w 28 (by kernel_rfl) 137 (.pointer (some (g c)))
  have cP := PX.out.a.c1
  clear H
  go_enter Tryd.func13, Tryd.ntmps13
  go_wp2_with (go_at_call 12; refine (HR.out _ PX.out.gr).mono ?_; rintro e w2 ⟨rfl, hB⟩)
  have HG := hidb (Gr.step PX.out.gr hB.out)
  clear PX hB HR cP
  go_wp2
  go_ret2
  exact ⟨rfl, HG.out⟩
theorem sizes_many (g : Nat → Addr) {ad : Option Addr} {n cap : Nat} (hn : 60 < n) (w : World) (hl : Laid w g) : Calls Tryd.prog 13 #[.agg #[.slice ad n cap]] w fun e w' => e = .returned (.tuple #[.slice none 0 0, errV g 1]) ∧ Gr w w' :=
  sizes_err g _ w fun W hG => faces_many g hn W (hl.below hG.out)
theorem sizes_bad (g : Nat → Addr) {ad : Option Addr} {b o cap : Nat} {Ls : List (List Sp)} (hc : ¬ mcd Ls = 0) (hn : Ls.length ≤ 60) (hlen : Ls.flatten.length ≤ 5000) (w : World) (h : LLd w ad b o cap Ls) (hl : Laid w g) : Calls Tryd.prog 13 #[.agg #[.slice ad Ls.length cap]] w fun e w' => e = .returned (.tuple #[.slice none 0 0, ev g (mcd Ls)]) ∧ Gr w w' := by
  rw [ev_err g hc]
  refine sizes_err g _ w fun W hG => ?_
  rw [← ev_err g hc]
  exact faces_bad g hc hn hlen W (h.below hG.out) (hl.below hG.out)
theorem swept_arc {Ls : List (List Sp)} (hok : okL Ls) (h60 : ∀ i, i < Ls.length → (lx Ls i).length ≤ 60) {i : Nat} (hi : i < Ls.length) {a1 : Option Addr} {b1 o1 c1 : Nat} (W : World) (hS : SSl W a1 b1 o1 c1 (lx Ls i)) : Calls Tryd.prog 25 #[.slice a1 (lx Ls i).length c1] W fun e w' => ∃ v1, e = .returned v1 ∧ Hid (∀ W', Gr w' W' → Calls Tryd.prog 29 #[v1] W' fun e w'' => e = .returned (.int .i64 (sw (pcl (lx Ls i)))) ∧ Gr W' w'') ∧ Gr W w' := by
  have hb := h60 i hi
  refine (piecesOf_any (by omega) W hS).mono ?_
  rintro e w' ⟨ad1, cap1, rfl, hown, -, hG⟩
  obtain ⟨ad2, b2, cap2, hv, hP⟩ := own_psl hown (pk_len _ _)
  refine ⟨_, rfl, fun W' hG' => ?_, hG⟩
  rw [hv]
  exact swept_any (by rw [pcl_len]; omega) (pcl_ok hok hi) W' (hP.gr hG')
set_option maxRecDepth 4000 in
set_option maxHeartbeats 16000000 in
theorem sizes_ok (g : Nat → Addr) {ad : Option Addr} {b o cap : Nat} {Ls : List (List Sp)} (hc : mcd Ls = 0) (hF : Ls.flatten.length ≤ 60) (w : World) (h : LLd w ad b o cap Ls) (hl : Laid w g) : Calls Tryd.prog 13 #[.agg #[.slice ad Ls.length cap]] w fun e w' => ∃ SO, e = .returned (.tuple #[.slice (some ⟨SO, 0, none⟩) (roP Ls).length (roP Ls).length, .nilIface]) ∧ At w' SO (ir ((roP Ls).map (szW Ls))) ∧ Gr w w' := by
  have hM := OkM.of hc
  have hok := mcd_okL hc
  obtain ⟨m1, m2, m3, -, -⟩ := mcd_ok hc
  have h60 : ∀ i, i < Ls.length → (lx Ls i).length ≤ 60 := fun i hi => by have := len_le hi; omega
  have PX : Hid (PF1 w (w.alloc (.cells #[.slice ad Ls.length cap] 32)) w.heap.size [.slice ad Ls.length cap]) := ⟨At.new1 _ _ _, (Gr.refl w).alloc _⟩
  have HFc := hidb (fun W (hG : Gr w W) => faces_ok g hc W (h.below hG.out) (hl.below hG.out))
  have HLL := hidb h.ll
  have HRo : Hid ((∀ R ∈ roP Ls, RdR Ls R) ∧ (roP Ls).length ≤ 2 * Ls.length) := (roF_all hM (2 * Ls.length) (Nat.le_refl _)).2
  have HPc := hidb (fun i (hi : i < Ls.length) W a1 b1 o1 c1 (hS : SSl W a1 b1 o1 c1 (lx Ls i)) => swept_arc hok h60 hi W hS)
  have HBd := hidb (fun R (hR : RdR Ls R) => szW_bd R (fun u hu => swW_bd hok h60 (hR.p.lt u hu)))
  have HBt := hidb (fun R (hR : RdR Ls R) j => szW_bd (R.take j) (fun u hu => swW_bd hok h60 (hR.p.lt u (List.mem_of_mem_take hu))))
  have HLt := hidb (fun R (hR : RdR Ls R) => And.intro hR.len hR.p.lt)
  obtain ⟨CS, hCS, mk⟩ := made_runI (roP Ls).length (by have := HRo.out.2; omega)
  rw [← zW_0 Ls] at hCS
  have HCS := hidb hCS
  obtain ⟨Q, hQ⟩ : ∃ Q, Q = roP Ls := ⟨_, rfl⟩
  rw [← hQ] at HFc HRo mk HCS ⊢
  obtain ⟨M, hMn⟩ : ∃ M, M = Q.length := ⟨_, rfl⟩
  have HMn := hidb hMn
  rw [← hMn] at HRo mk ⊢
  obtain ⟨N, hN⟩ : ∃ N, N = Ls.length := ⟨_, rfl⟩
  have HN := hidb hN
  rw [← hN] at PX HFc HLt m1 HPc HRo ⊢
  have HNb := hidb m1
  clear hM hok m1 m2 m3 h60 h hl hc hF hCS hQ hMn hN
  go_enter Tryd.func13, Tryd.ntmps13
  have cP := PX.out.a.c1
  go_wp2_with (go_at_call 12; refine (HFc.out _ PX.out.gr).mono ?_; rintro e w2 ⟨base, v, vs, rfl, hQ, hB⟩; obtain ⟨adr, br, oR, capr, rfl, HL⟩ := hQ.lisn (show (tdLL Q).length = M by rw [HMn.out]; simp))
  have PY := hidb (PX.out.below hB.out).a
  have HG2 := hidb (Gr.step PX.out.gr hB.out)
  have E0 : Hid (SZ w2 (w2.alloc (.cells CS 3)) w2.heap.size (zW Ls Q 0 0)) := ⟨by rw [← HCS.out]; exact At.newArr _ _ _, (Gr.refl _).alloc _, Nat.le_refl _⟩
  generalize w2.alloc (.cells CS 3) = W3 at *
  generalize w2.heap.size = SO at *
  generalize w.heap.size = TB at *
  have HXr : Hid (∀ i, i < M → ∀ w, (Instr.indexAt 34 (.slice adr M capr) (.int .i64 i)).run Tryd.prog w = .ok (.pointer (some ⟨br, oR + i, none⟩)) w) := by
    have e : (tdLL Q).length = M := by rw [HMn.out]; simp
    intro i hi w
    have := HL.out.ix i (by rw [e]; exact hi) w
    rw [e] at this
    exact this
  clear hQ hB PX HFc cP mk HCS
  go_loopw [24] (fun t wr => ∃ i : Nat, i ≤ M ∧ t = .int .i64 (i : Int) ∧ Hid (SZ w2 wr SO (zW Ls Q i 0))) (fun t _ => M - (intOf t).toNat)
  case atStart => exact ⟨0, Nat.zero_le _, rfl, E0⟩
  case round =>
    clear E0
    obtain ⟨i, hi, rfl, E⟩ := hrel
    by_cases h1 : ¬ i < M
    · have h1' : ¬ (i : Int) < (M : Int) := by omega
      have HZ := hidb (show zW Ls Q i 0 = Q.map (szW Ls) by rw [← zW_end, show i = Q.length by rw [← HMn.out]; omega])
      have HA := hidb E.out.a
      rw [HZ.out] at HA
      have HG := hidb (Gr.step HG2.out E.out.g.out)
      clear h1 HZ E
      go_wp2
      go_ret2
      exact ⟨SO, rfl, by simpa [ir] using HA.out, HG.out⟩
    · have h1' : (i : Int) < (M : Int) := by omega
      have H1 := hidb (show i < M by omega)
      have HI := hidb (show i < Q.length by rw [← HMn.out]; exact H1.out)
      have e1 : IntKind.i64.wrap ((i : Int) + 1) = ((i + 1 : Nat) : Int) := by rw [show (i : Int) + 1 = ((i + 1 : Nat) : Int) by omega]; exact wr_in (by omega) (by have := HNb.out; have := HRo.out.2; omega)
      have e : lI (tdLL Q) i = tdL (Q.getD i []) := by have := HI.out; simp [lI, this]
      obtain ⟨⟨a', b', o', c', x0, hS⟩, xb⟩ := HL.out.row i (by have := HI.out; simpa using this)
      rw [e] at x0 hS
      have HRd := hidb (HRo.out.1 (Q.getD i []) (by have := HI.out; simp [this]))
      have HZs := hidb (zW_succ Ls Q i)
      obtain ⟨R, hR⟩ : ∃ R, R = Q.getD i [] := ⟨_, rfl⟩
      rw [← hR] at x0 hS HRd HZs
      obtain ⟨n, hn⟩ : ∃ n, n = R.length := ⟨_, rfl⟩
      have HnR := hidb hn
      have hn2 : (tdL R).length = n := by rw [hn]; simp
      have HSr := hidb hS
      have HXi : Hid (∀ j, j < n → ∀ w, (Instr.indexAt 37 (.slice a' n c') (.int .i64 j)).run Tryd.prog w = .ok (.pointer (some ⟨b', o' + j, none⟩)) w) := by
        intro j hj w
        have := HSr.out.ix j (by rw [hn2]; exact hj) w
        rw [hn2] at this
        exact this
      have HCi : Hid (∀ W, Gr w2 W → ∀ j, j < n → W.cell? ⟨b', o' + j, none⟩ = some (.int .i64 (tdI (R.getD j 0)))) := by
        intro W hG j hj
        have h3 : j < R.length := by rw [← HnR.out]; exact hj
        have := (HSr.out.below hG.out).cell (k := j) (by rw [hn2]; exact hj)
        simpa [h3] using this
      rw [hn2] at x0
      have cR := (E.out.g.out.cell (p := ⟨br, oR + i, none⟩) xb).trans x0
      have ixR := HXr.out i H1.out
      have HRn := hidb (show n ≤ 120 by have := (HLt.out R HRd.out).1; have := HNb.out; rw [hn]; omega)
      have HZ0 : Hid (SZ w2 wr SO (zW Ls Q i (szW Ls (R.take 0)))) := by rw [show szW Ls (R.take 0) = 0 by simp [szW]]; exact E.out
      clear h1 hn hR hn2 hS x0 xb e E
      go_wp2
      clear cR ixR
      go_loopw [31] (fun t wx => ∃ j : Nat, j ≤ n ∧ t = .int .i64 (j : Int) ∧ Hid (SZ w2 wx SO (zW Ls Q i (szW Ls (R.take j))))) (fun t _ => n - (intOf t).toNat)
      case atStart => exact ⟨0, Nat.zero_le _, rfl, HZ0⟩
      case round =>
        clear HZ0
        obtain ⟨j, hj, rfl, E⟩ := hrel
        by_cases h2 : ¬ j < n
        · have h2' : ¬ (j : Int) < (n : Int) := by omega
          have HE : Hid (SZ w2 wr SO (zW Ls Q (i + 1) 0)) := by
            have := E.out
            rw [List.take_of_length_le (by rw [← HnR.out]; omega), HZs.out] at this
            exact this
          clear h2 E
          go_wp2
          go_roundw
          case rel => exact ⟨i + 1, H1.out, by go_num, HE⟩
          case measure => have := H1.out; simp [intOf]; omega
        · have h2' : (j : Int) < (n : Int) := by omega
          have H2 := hidb (show j < n by omega)
          have hjR : j < R.length := by rw [← HnR.out]; exact H2.out
          have e2 : IntKind.i64.wrap ((j : Int) + 1) = ((j + 1 : Nat) : Int) := by rw [show (j : Int) + 1 = ((j + 1 : Nat) : Int) by omega]; exact wr_in (by omega) (by have := HRn.out; omega)
          have cW := HCi.out _ E.out.g j H2.out
          have ixj := HXi.out j H2.out
          have HS := hidb (szW_take (Ls := Ls) hjR)
          have hu := (HLt.out R HRd.out).2 (R.getD j 0) (by simp [hjR])
          have hbd := HBt.out R HRd.out (j + 1)
          have hlen : (((R.take (j + 1)).length : Nat) : Int) ≤ 120 := by have := HRn.out; have := HnR.out; simp; omega
          have HBb : Hid (-4053239664633446400 ≤ szW Ls (R.take (j + 1)) ∧ szW Ls (R.take (j + 1)) ≤ 4053239664633446400) := by show _ ∧ _; omega
          obtain ⟨u, hun⟩ : ∃ u, u = R.getD j 0 := ⟨_, rfl⟩
          rw [← hun] at cW HS hu
          obtain ⟨x, hx⟩ : ∃ x, x = szW Ls (R.take j) := ⟨_, rfl⟩
          rw [← hx] at E HS
          obtain ⟨y, hy⟩ : ∃ y, y = szW Ls (R.take (j + 1)) := ⟨_, rfl⟩
          have HY := hidb hy
          rw [← hy] at HS HBb
          have hui : u / 2 < N := by omega
          obtain ⟨⟨a1, b1, o1, c1, y0, hS1⟩, yb⟩ := HLL.out.row (u / 2) (by rw [← HN.out]; exact hui)
          have ixA : Hid (∀ w, (Instr.indexAt 30 (.slice ad N cap) (.int .i64 ((u / 2 : Nat) : Int))).run Tryd.prog w = .ok (.pointer (some ⟨b, o + u / 2, none⟩)) w) := by
            have := HLL.out.ix (u / 2) (by rw [← HN.out]; exact hui)
            rw [← HN.out] at this
            exact this
          have ixi := fun w => iindex SO 0 M M i H1.out w
          simp only [Nat.zero_add] at ixi
          have HP := hidb (fun W (hG : Gr w2 W) => HPc.out (u / 2) hui W a1 b1 o1 c1 (hS1.gr (Gr.step HG2.out hG.out)))
          have hsw : swW Ls u = if u % 2 = 0 then sw (pcl (lx Ls (u / 2))) else -sw (pcl (lx Ls (u / 2))) := rfl
          have HC : Hid (∀ W, Gr w2 W → W.cell? ⟨TB, 0, none⟩ = some (.slice ad N cap) ∧ W.cell? ⟨b, o + u / 2, none⟩ = some (.slice a1 (lx Ls (u / 2)).length c1)) := fun W hG =>
            ⟨(At.below hG.out PY.out).c1, ((Gr.step HG2.out hG.out).out.cell (p := ⟨b, o + u / 2, none⟩) yb).trans y0⟩
          generalize sw (pcl (lx Ls (u / 2))) = sV at *
          generalize hla : (lx Ls (u / 2)).length = la at *
          have hub : u / 2 ≤ 60 := by have := HNb.out; omega
          by_cases c : u % 2 = 0
          · have ht : tdI u = ((u / 2 : Nat) : Int) + 1 := by unfold tdI; rw [if_pos c]
            rw [if_pos c] at hsw
            have e3 : IntKind.i64.wrap (((u / 2 : Nat) : Int) + 1 - 1) = ((u / 2 : Nat) : Int) := by rw [show ((u / 2 : Nat) : Int) + 1 - 1 = ((u / 2 : Nat) : Int) by omega]; exact wr_in (by omega) (by omega)
            have h0 : (0 : Int) < ((u / 2 : Nat) : Int) + 1 := by omega
            have eA : IntKind.i64.wrap (x + sV) = y := by have hs := HS.out; have hb := HBb.out; rw [hsw] at hs; rw [← hs]; exact wr_in (by omega) (by omega)
            rw [ht] at cW
            have ixA2 := ixA.out
            generalize u / 2 = p at *
            generalize hT : (p : Int) + 1 = T at *
            clear h2 hbd hlen hx hy hu hui y0 hS1 yb hla hub c ht hsw HS hjR ixA hun HBb hT
            go_upto_region 12 with fail
            clear cW
            refine wp_region_held_drew (S := (fun w' => w'.cell? ⟨TB, 0, none⟩ = some (.slice ad N cap) ∧ w'.cell? ⟨b, o + p, none⟩ = some (.slice a1 la c1))) (by kernel_rfl) ?_ (fun hHeld => ?_)
            · (try dsimp only); exact HC.out _ E.out.g.drew
            replace E := hidb E.out.drew
            generalize wr.drew = V0 at *
            refine wt (i := 0) (v := ?vs12q0x4) rfl ?hs12q0x4 ?rs12q0x4
            case hs12q0x4 => (intro w hSw; (try dsimp only at hSw); obtain ⟨x1, x2⟩ := hSw; go_simp; try with_reducible rfl)
            (try simp only [Act.put, lq1, lq2, lq4, lq5, lq6])
            refine wt (i := 1) (v := ?vs12q1x7) rfl ?hs12q1x7 ?rs12q1x7
            case hs12q1x7 => (intro w hSw; (try dsimp only at hSw); obtain ⟨x1, x2⟩ := hSw; go_simp; try with_reducible rfl)
            (try simp only [Act.put, lq1, lq2, lq3, lq4, lq5, lq6])
            refine wt (i := 2) (v := ?vs12q2x10) rfl ?hs12q2x10 ?rs12q2x10
            case hs12q2x10 => (intro w hSw; (try dsimp only at hSw); obtain ⟨x1, x2⟩ := hSw; go_simp; try with_reducible rfl)
            (try simp only [Act.put, lq1, lq2, lq3, lq4, lq5, lq6])
            refine wt (i := 4) (v := ?vs12q4x13) rfl ?hs12q4x13 ?rs12q4x13
            case hs12q4x13 => (intro w hSw; (try dsimp only at hSw); obtain ⟨x1, x2⟩ := hSw; go_simp; try with_reducible rfl)
            (try simp only [Act.put, lq1, lq2, lq3, lq4, lq5, lq6])
            refine wt (i := 5) (v := ?vs12q5x16) rfl ?hs12q5x16 ?rs12q5x16
            case hs12q5x16 => (intro w hSw; (try dsimp only at hSw); obtain ⟨x1, x2⟩ := hSw; go_simp; try with_reducible rfl)
            (try simp only [Act.put, lq1, lq2, lq3, lq4, lq5, lq6])
            refine wt (i := 6) (v := ?vs12q6x19) rfl ?hs12q6x19 ?rs12q6x19
            case hs12q6x19 => (intro w hSw; (try dsimp only at hSw); obtain ⟨x1, x2⟩ := hSw; go_simp; try with_reducible rfl)
            (try simp only [Act.put, lq1, lq2, lq3, lq4, lq5, lq6])
            refine wt (i := 7) (v := ?vs12q7x22) rfl ?hs12q7x22 ?rs12q7x22
            case hs12q7x22 => (intro w hSw; (try dsimp only at hSw); obtain ⟨x1, x2⟩ := hSw; go_simp; try with_reducible rfl)
            (try simp only [Act.put, lq1, lq2, lq3, lq4, lq5, lq6])
            refine wt (i := 8) (v := ?vs12q8x25) rfl ?hs12q8x25 ?rs12q8x25
            case hs12q8x25 => (intro w hSw; (try dsimp only at hSw); obtain ⟨x1, x2⟩ := hSw; go_simp; try with_reducible rfl)
            (try simp only [Act.put, lq1, lq2, lq3, lq4, lq5, lq6])
            refine wt (i := 9) (v := ?vs12q9x28) rfl ?hs12q9x28 ?rs12q9x28
            case hs12q9x28 => (intro w hSw; (try dsimp only at hSw); obtain ⟨x1, x2⟩ := hSw; go_simp; try with_reducible rfl)
            (try simp only [Act.put, lq1, lq2, lq3, lq4, lq5, lq6])
            refine wpAnyH_ready (rs := [3, 10]) (by kernel_rfl) (by simp) ?_
            refine AllReadyH.cons rfl (fun K hK => ?_) (AllReadyH.cons rfl (fun K hK => ?_) AllReadyH.nil)
            · skip
              obtain ⟨z0, z1⟩ := E.out.cel HI.out
              go_simp
              refine hK.out _ _ ?_ (fun hHeld => ?_)
              · (try dsimp only); exact HC.out _ E.out.g
              clear hK K
              clear z0 z1
              refine wpAnyH_ready (rs := [10]) (by kernel_rfl) (by simp) ?_
              refine AllReadyH.cons rfl (fun K hK => ?_) AllReadyH.nil
              go_simp
              go_wp2_with (go_at_call 25; refine (HP.out _ E.out.g).mono ?_; rintro e V1 ⟨v1, rfl, hPs, hB⟩)
              refine hK.out _ _ ?_ (fun hHeld => ?_)
              · (try dsimp only); exact HC.out _ (Gr.step E.out.g hB.out)
              clear hK K
              replace E := hidb (E.out.below hB.out)
              clear hB
              refine wpAnyH_ready (rs := [11]) (by kernel_rfl) (by simp) ?_
              refine AllReadyH.cons rfl (fun K hK => ?_) AllReadyH.nil
              go_simp
              go_wp2_with (go_at_call 29; refine (hPs.out _ (Gr.refl _)).mono ?_; rintro e V2 ⟨rfl, hB⟩)
              refine hK.out _ _ ?_ (fun hHeld => ?_)
              · (try dsimp only); exact HC.out _ (Gr.step E.out.g hB.out)
              clear hK K
              replace E := hidb (E.out.below hB.out)
              clear hB hPs
              refine wt (i := 12) (v := ?vs12q12x58) rfl ?hs12q12x58 ?rs12q12x58
              case hs12q12x58 => (intro w hSw; (try dsimp only at hSw); obtain ⟨x1, x2⟩ := hSw; go_simp; try with_reducible rfl)
              (try simp only [Act.put, lq1, lq2, lq3, lq4, lq5, lq6])
              refine wt (i := 13) (v := ?vs12q13x61) rfl ?hs12q13x61 ?rs12q13x61
              case hs12q13x61 => (intro w hSw; (try dsimp only at hSw); obtain ⟨x1, x2⟩ := hSw; go_simp; try with_reducible rfl)
              (try simp only [Act.put, lq1, lq2, lq3, lq4, lq5, lq6])
              refine wpAnyH_ready (rs := [14]) (by kernel_rfl) (by simp) ?_
              refine AllReadyH.cons rfl (fun K hK => ?_) AllReadyH.nil
              obtain ⟨z0, z1⟩ := E.out.cel HI.out
              go_simp
              refine hK.out _ _ ?_ (fun hHeld => ?_)
              · (try dsimp only); exact HC.out _ (E.out.put _).g
              clear hK K
              clear z0 z1
              replace E := hidb (E.out.put y)
              generalize V2.setCell ⟨SO, i, none⟩ (.int .i64 y) = V3 at *
              refine wpAnyH_done (by kernel_rfl) ?_ _
              go_wp2_with fail
              go_roundw
              case rel => exact ⟨j + 1, H2.out, by go_num, hidb (by rw [← HY.out]; exact E.out)⟩
              case measure => have := H2.out; simp [intOf]; omega
            · skip
              go_simp
              go_wp2_with (go_at_call 25; refine (HP.out _ E.out.g).mono ?_; rintro e V4 ⟨v1, rfl, hPs, hB⟩)
              refine hK.out _ _ ?_ (fun hHeld => ?_)
              · (try dsimp only); exact HC.out _ (Gr.step E.out.g hB.out)
              clear hK K
              replace E := hidb (E.out.below hB.out)
              clear hB
              refine wpAnyH_ready (rs := [3, 11]) (by kernel_rfl) (by simp) ?_
              refine AllReadyH.cons rfl (fun K hK => ?_) (AllReadyH.cons rfl (fun K hK => ?_) AllReadyH.nil)
              · skip
                obtain ⟨z0, z1⟩ := E.out.cel HI.out
                go_simp
                refine hK.out _ _ ?_ (fun hHeld => ?_)
                · (try dsimp only); exact HC.out _ E.out.g
                clear hK K
                clear z0 z1
                refine wpAnyH_ready (rs := [11]) (by kernel_rfl) (by simp) ?_
                refine AllReadyH.cons rfl (fun K hK => ?_) AllReadyH.nil
                go_simp
                go_wp2_with (go_at_call 29; refine (hPs.out _ (Gr.refl _)).mono ?_; rintro e V5 ⟨rfl, hB⟩)
                refine hK.out _ _ ?_ (fun hHeld => ?_)
                · (try dsimp only); exact HC.out _ (Gr.step E.out.g hB.out)
                clear hK K
                replace E := hidb (E.out.below hB.out)
                clear hB hPs
                refine wt (i := 12) (v := ?vs12q12x105) rfl ?hs12q12x105 ?rs12q12x105
                case hs12q12x105 => (intro w hSw; (try dsimp only at hSw); obtain ⟨x1, x2⟩ := hSw; go_simp; try with_reducible rfl)
                (try simp only [Act.put, lq1, lq2, lq3, lq4, lq5, lq6])
                refine wt (i := 13) (v := ?vs12q13x108) rfl ?hs12q13x108 ?rs12q13x108
                case hs12q13x108 => (intro w hSw; (try dsimp only at hSw); obtain ⟨x1, x2⟩ := hSw; go_simp; try with_reducible rfl)
                (try simp only [Act.put, lq1, lq2, lq3, lq4, lq5, lq6])
                refine wpAnyH_ready (rs := [14]) (by kernel_rfl) (by simp) ?_
                refine AllReadyH.cons rfl (fun K hK => ?_) AllReadyH.nil
                obtain ⟨z0, z1⟩ := E.out.cel HI.out
                go_simp
                refine hK.out _ _ ?_ (fun hHeld => ?_)
                · (try dsimp only); exact HC.out _ (E.out.put _).g
                clear hK K
                clear z0 z1
                replace E := hidb (E.out.put y)
                generalize V5.setCell ⟨SO, i, none⟩ (.int .i64 y) = V6 at *
                refine wpAnyH_done (by kernel_rfl) ?_ _
                go_wp2_with fail
                go_roundw
                case rel => exact ⟨j + 1, H2.out, by go_num, hidb (by rw [← HY.out]; exact E.out)⟩
                case measure => have := H2.out; simp [intOf]; omega
              · skip
                go_simp
                go_wp2_with (go_at_call 29; refine (hPs.out _ (Gr.refl _)).mono ?_; rintro e V7 ⟨rfl, hB⟩)
                refine hK.out _ _ ?_ (fun hHeld => ?_)
                · (try dsimp only); exact HC.out _ (Gr.step E.out.g hB.out)
                clear hK K
                replace E := hidb (E.out.below hB.out)
                clear hB hPs
                refine wpAnyH_ready (rs := [3]) (by kernel_rfl) (by simp) ?_
                refine AllReadyH.cons rfl (fun K hK => ?_) AllReadyH.nil
                obtain ⟨z0, z1⟩ := E.out.cel HI.out
                go_simp
                refine hK.out _ _ ?_ (fun hHeld => ?_)
                · (try dsimp only); exact HC.out _ E.out.g
                clear hK K
                clear z0 z1
                refine wt (i := 12) (v := ?vs12q12x142) rfl ?hs12q12x142 ?rs12q12x142
                case hs12q12x142 => (intro w hSw; (try dsimp only at hSw); obtain ⟨x1, x2⟩ := hSw; go_simp; try with_reducible rfl)
                (try simp only [Act.put, lq1, lq2, lq3, lq4, lq5, lq6])
                refine wt (i := 13) (v := ?vs12q13x145) rfl ?hs12q13x145 ?rs12q13x145
                case hs12q13x145 => (intro w hSw; (try dsimp only at hSw); obtain ⟨x1, x2⟩ := hSw; go_simp; try with_reducible rfl)
                (try simp only [Act.put, lq1, lq2, lq3, lq4, lq5, lq6])
                refine wpAnyH_ready (rs := [14]) (by kernel_rfl) (by simp) ?_
                refine AllReadyH.cons rfl (fun K hK => ?_) AllReadyH.nil
                obtain ⟨z0, z1⟩ := E.out.cel HI.out
                go_simp
                refine hK.out _ _ ?_ (fun hHeld => ?_)
                · (try dsimp only); exact HC.out _ (E.out.put _).g
                clear hK K
                clear z0 z1
                replace E := hidb (E.out.put y)
                generalize V7.setCell ⟨SO, i, none⟩ (.int .i64 y) = V8 at *
                refine wpAnyH_done (by kernel_rfl) ?_ _
                go_wp2_with fail
                go_roundw
                case rel => exact ⟨j + 1, H2.out, by go_num, hidb (by rw [← HY.out]; exact E.out)⟩
                case measure => have := H2.out; simp [intOf]; omega
          · have ht : tdI u = -(((u / 2 : Nat) : Int) + 1) := by unfold tdI; rw [if_neg c]
            rw [if_neg c] at hsw
            have e0 : IntKind.i64.wrap (-(-(((u / 2 : Nat) : Int) + 1))) = ((u / 2 : Nat) : Int) + 1 := by rw [Int.neg_neg]; exact wr_in (by omega) (by omega)
            have e3 : IntKind.i64.wrap (((u / 2 : Nat) : Int) + 1 - 1) = ((u / 2 : Nat) : Int) := by rw [show ((u / 2 : Nat) : Int) + 1 - 1 = ((u / 2 : Nat) : Int) by omega]; exact wr_in (by omega) (by omega)
            have h0 : ¬ (0 : Int) < -(((u / 2 : Nat) : Int) + 1) := by omega
            have eA : IntKind.i64.wrap (x - sV) = y := by have hs := HS.out; have hb := HBb.out; rw [hsw] at hs; rw [show x - sV = y by omega]; exact wr_in (by omega) (by omega)
            rw [ht] at cW
            have ixA2 := ixA.out
            generalize u / 2 = p at *
            generalize hT : (p : Int) + 1 = T at *
            generalize hU : -T = U at *
            clear h2 hbd hlen hx hy hu hui y0 hS1 yb hla hub c ht hsw HS hjR ixA hun HBb hT hU
            go_upto_region 13 with fail
            clear cW
            refine wp_region_held_drew (S := (fun w' => w'.cell? ⟨TB, 0, none⟩ = some (.slice ad N cap) ∧ w'.cell? ⟨b, o + p, none⟩ = some (.slice a1 la c1))) (by kernel_rfl) ?_ (fun hHeld => ?_)
            · (try dsimp only); exact HC.out _ E.out.g.drew
            replace E := hidb E.out.drew
            generalize wr.drew = V0 at *
            refine wt (i := 0) (v := ?vs13q0x4) rfl ?hs13q0x4 ?rs13q0x4
            case hs13q0x4 => (intro w hSw; (try dsimp only at hSw); obtain ⟨x1, x2⟩ := hSw; go_simp; try with_reducible rfl)
            (try simp only [Act.put, lq1, lq2, lq4, lq5, lq6])
            refine wt (i := 1) (v := ?vs13q1x7) rfl ?hs13q1x7 ?rs13q1x7
            case hs13q1x7 => (intro w hSw; (try dsimp only at hSw); obtain ⟨x1, x2⟩ := hSw; go_simp; try with_reducible rfl)
            (try simp only [Act.put, lq1, lq2, lq3, lq4, lq5, lq6])
            refine wt (i := 2) (v := ?vs13q2x10) rfl ?hs13q2x10 ?rs13q2x10
            case hs13q2x10 => (intro w hSw; (try dsimp only at hSw); obtain ⟨x1, x2⟩ := hSw; go_simp; try with_reducible rfl)
            (try simp only [Act.put, lq1, lq2, lq3, lq4, lq5, lq6])
            refine wt (i := 4) (v := ?vs13q4x13) rfl ?hs13q4x13 ?rs13q4x13
            case hs13q4x13 => (intro w hSw; (try dsimp only at hSw); obtain ⟨x1, x2⟩ := hSw; go_simp; try with_reducible rfl)
            (try simp only [Act.put, lq1, lq2, lq3, lq4, lq5, lq6])
            refine wt (i := 5) (v := ?vs13q5x16) rfl ?hs13q5x16 ?rs13q5x16
            case hs13q5x16 => (intro w hSw; (try dsimp only at hSw); obtain ⟨x1, x2⟩ := hSw; go_simp; try with_reducible rfl)
            (try simp only [Act.put, lq1, lq2, lq3, lq4, lq5, lq6])
            refine wt (i := 6) (v := ?vs13q6x19) rfl ?hs13q6x19 ?rs13q6x19
            case hs13q6x19 => (intro w hSw; (try dsimp only at hSw); obtain ⟨x1, x2⟩ := hSw; go_simp; try with_reducible rfl)
            (try simp only [Act.put, lq1, lq2, lq3, lq4, lq5, lq6])
            refine wt (i := 7) (v := ?vs13q7x22) rfl ?hs13q7x22 ?rs13q7x22
            case hs13q7x22 => (intro w hSw; (try dsimp only at hSw); obtain ⟨x1, x2⟩ := hSw; go_simp; try with_reducible rfl)
            (try simp only [Act.put, lq1, lq2, lq3, lq4, lq5, lq6])
            refine wt (i := 8) (v := ?vs13q8x25) rfl ?hs13q8x25 ?rs13q8x25
            case hs13q8x25 => (intro w hSw; (try dsimp only at hSw); obtain ⟨x1, x2⟩ := hSw; go_simp; try with_reducible rfl)
            (try simp only [Act.put, lq1, lq2, lq3, lq4, lq5, lq6])
            refine wt (i := 9) (v := ?vs13q9x28) rfl ?hs13q9x28 ?rs13q9x28
            case hs13q9x28 => (intro w hSw; (try dsimp only at hSw); obtain ⟨x1, x2⟩ := hSw; go_simp; try with_reducible rfl)
            (try simp only [Act.put, lq1, lq2, lq3, lq4, lq5, lq6])
            refine wt (i := 10) (v := ?vs13q10x31) rfl ?hs13q10x31 ?rs13q10x31
            case hs13q10x31 => (intro w hSw; (try dsimp only at hSw); obtain ⟨x1, x2⟩ := hSw; go_simp; try with_reducible rfl)
            (try simp only [Act.put, lq1, lq2, lq3, lq4, lq5, lq6])
            refine wpAnyH_ready (rs := [3, 11]) (by kernel_rfl) (by simp) ?_
            refine AllReadyH.cons rfl (fun K hK => ?_) (AllReadyH.cons rfl (fun K hK => ?_) AllReadyH.nil)
            · skip
              obtain ⟨z0, z1⟩ := E.out.cel HI.out
              go_simp
              refine hK.out _ _ ?_ (fun hHeld => ?_)
              · (try dsimp only); exact HC.out _ E.out.g
              clear hK K
              clear z0 z1
              refine wpAnyH_ready (rs := [11]) (by kernel_rfl) (by simp) ?_
              refine AllReadyH.cons rfl (fun K hK => ?_) AllReadyH.nil
              go_simp
              go_wp2_with (go_at_call 25; refine (HP.out _ E.out.g).mono ?_; rintro e V9 ⟨v1, rfl, hPs, hB⟩)
              refine hK.out _ _ ?_ (fun hHeld => ?_)
              · (try dsimp only); exact HC.out _ (Gr.step E.out.g hB.out)
              clear hK K
              replace E := hidb (E.out.below hB.out)
              clear hB
              refine wpAnyH_ready (rs := [12]) (by kernel_rfl) (by simp) ?_
              refine AllReadyH.cons rfl (fun K hK => ?_) AllReadyH.nil
              go_simp
              go_wp2_with (go_at_call 29; refine (hPs.out _ (Gr.refl _)).mono ?_; rintro e V10 ⟨rfl, hB⟩)
              refine hK.out _ _ ?_ (fun hHeld => ?_)
              · (try dsimp only); exact HC.out _ (Gr.step E.out.g hB.out)
              clear hK K
              replace E := hidb (E.out.below hB.out)
              clear hB hPs
              refine wt (i := 13) (v := ?vs13q13x61) rfl ?hs13q13x61 ?rs13q13x61
              case hs13q13x61 => (intro w hSw; (try dsimp only at hSw); obtain ⟨x1, x2⟩ := hSw; go_simp; try with_reducible rfl)
              (try simp only [Act.put, lq1, lq2, lq3, lq4, lq5, lq6])
              refine wt (i := 14) (v := ?vs13q14x64) rfl ?hs13q14x64 ?rs13q14x64
              case hs13q14x64 => (intro w hSw; (try dsimp only at hSw); obtain ⟨x1, x2⟩ := hSw; go_simp; try with_reducible rfl)
              (try simp only [Act.put, lq1, lq2, lq3, lq4, lq5, lq6])
              refine wpAnyH_ready (rs := [15]) (by kernel_rfl) (by simp) ?_
              refine AllReadyH.cons rfl (fun K hK => ?_) AllReadyH.nil
              obtain ⟨z0, z1⟩ := E.out.cel HI.out
              go_simp
              refine hK.out _ _ ?_ (fun hHeld => ?_)
              · (try dsimp only); exact HC.out _ (E.out.put _).g
              clear hK K
              clear z0 z1
              replace E := hidb (E.out.put y)
              generalize V10.setCell ⟨SO, i, none⟩ (.int .i64 y) = V11 at *
              refine wpAnyH_done (by kernel_rfl) ?_ _
              go_wp2_with fail
              go_roundw
              case rel => exact ⟨j + 1, H2.out, by go_num, hidb (by rw [← HY.out]; exact E.out)⟩
              case measure => have := H2.out; simp [intOf]; omega
            · skip
              go_simp
              go_wp2_with (go_at_call 25; refine (HP.out _ E.out.g).mono ?_; rintro e V12 ⟨v1, rfl, hPs, hB⟩)
              refine hK.out _ _ ?_ (fun hHeld => ?_)
              · (try dsimp only); exact HC.out _ (Gr.step E.out.g hB.out)
              clear hK K
              replace E := hidb (E.out.below hB.out)
              clear hB
              refine wpAnyH_ready (rs := [3, 12]) (by kernel_rfl) (by simp) ?_
              refine AllReadyH.cons rfl (fun K hK => ?_) (AllReadyH.cons rfl (fun K hK => ?_) AllReadyH.nil)
              · skip
                obtain ⟨z0, z1⟩ := E.out.cel HI.out
                go_simp
                refine hK.out _ _ ?_ (fun hHeld => ?_)
                · (try dsimp only); exact HC.out _ E.out.g
                clear hK K
                clear z0 z1
                refine wpAnyH_ready (rs := [12]) (by kernel_rfl) (by simp) ?_
                refine AllReadyH.cons rfl (fun K hK => ?_) AllReadyH.nil
                go_simp
                go_wp2_with (go_at_call 29; refine (hPs.out _ (Gr.refl _)).mono ?_; rintro e V13 ⟨rfl, hB⟩)
                refine hK.out _ _ ?_ (fun hHeld => ?_)
                · (try dsimp only); exact HC.out _ (Gr.step E.out.g hB.out)
                clear hK K
                replace E := hidb (E.out.below hB.out)
                clear hB hPs
                refine wt (i := 13) (v := ?vs13q13x108) rfl ?hs13q13x108 ?rs13q13x108
                case hs13q13x108 => (intro w hSw; (try dsimp only at hSw); obtain ⟨x1, x2⟩ := hSw; go_simp; try with_reducible rfl)
                (try simp only [Act.put, lq1, lq2, lq3, lq4, lq5, lq6])
                refine wt (i := 14) (v := ?vs13q14x111) rfl ?hs13q14x111 ?rs13q14x111
                case hs13q14x111 => (intro w hSw; (try dsimp only at hSw); obtain ⟨x1, x2⟩ := hSw; go_simp; try with_reducible rfl)
                (try simp only [Act.put, lq1, lq2, lq3, lq4, lq5, lq6])
                refine wpAnyH_ready (rs := [15]) (by kernel_rfl) (by simp) ?_
                refine AllReadyH.cons rfl (fun K hK => ?_) AllReadyH.nil
                obtain ⟨z0, z1⟩ := E.out.cel HI.out
                go_simp
                refine hK.out _ _ ?_ (fun hHeld => ?_)
                · (try dsimp only); exact HC.out _ (E.out.put _).g
                clear hK K
                clear z0 z1
                replace E := hidb (E.out.put y)
                generalize V13.setCell ⟨SO, i, none⟩ (.int .i64 y) = V14 at *
                refine wpAnyH_done (by kernel_rfl) ?_ _
                go_wp2_with fail
                go_roundw
                case rel => exact ⟨j + 1, H2.out, by go_num, hidb (by rw [← HY.out]; exact E.out)⟩
                case measure => have := H2.out; simp [intOf]; omega
              · skip
                go_simp
                go_wp2_with (go_at_call 29; refine (hPs.out _ (Gr.refl _)).mono ?_; rintro e V15 ⟨rfl, hB⟩)
                refine hK.out _ _ ?_ (fun hHeld => ?_)
                · (try dsimp only); exact HC.out _ (Gr.step E.out.g hB.out)
                clear hK K
                replace E := hidb (E.out.below hB.out)
                clear hB hPs
                refine wpAnyH_ready (rs := [3]) (by kernel_rfl) (by simp) ?_
                refine AllReadyH.cons rfl (fun K hK => ?_) AllReadyH.nil
                obtain ⟨z0, z1⟩ := E.out.cel HI.out
                go_simp
                refine hK.out _ _ ?_ (fun hHeld => ?_)
                · (try dsimp only); exact HC.out _ E.out.g
                clear hK K
                clear z0 z1
                refine wt (i := 13) (v := ?vs13q13x145) rfl ?hs13q13x145 ?rs13q13x145
                case hs13q13x145 => (intro w hSw; (try dsimp only at hSw); obtain ⟨x1, x2⟩ := hSw; go_simp; try with_reducible rfl)
                (try simp only [Act.put, lq1, lq2, lq3, lq4, lq5, lq6])
                refine wt (i := 14) (v := ?vs13q14x148) rfl ?hs13q14x148 ?rs13q14x148
                case hs13q14x148 => (intro w hSw; (try dsimp only at hSw); obtain ⟨x1, x2⟩ := hSw; go_simp; try with_reducible rfl)
                (try simp only [Act.put, lq1, lq2, lq3, lq4, lq5, lq6])
                refine wpAnyH_ready (rs := [15]) (by kernel_rfl) (by simp) ?_
                refine AllReadyH.cons rfl (fun K hK => ?_) AllReadyH.nil
                obtain ⟨z0, z1⟩ := E.out.cel HI.out
                go_simp
                refine hK.out _ _ ?_ (fun hHeld => ?_)
                · (try dsimp only); exact HC.out _ (E.out.put _).g
                clear hK K
                clear z0 z1
                replace E := hidb (E.out.put y)
                generalize V15.setCell ⟨SO, i, none⟩ (.int .i64 y) = V16 at *
                refine wpAnyH_done (by kernel_rfl) ?_ _
                go_wp2_with fail
                go_roundw
                case rel => exact ⟨j + 1, H2.out, by go_num, hidb (by rw [← HY.out]; exact E.out)⟩
                case measure => have := H2.out; simp [intOf]; omega
end Go.Proofs.YtnadgoomkaldkaaDoor
namespace Go.Proofs.YtnadgoomkaldkaaDoor
open Go.RowKit
attribute [local go_sem ↓] Go.wp_at_zero Go.wp_at_succ

theorem two_flat : ∀ Ls : List (List Sp), (∀ l ∈ Ls, 2 ≤ l.length) → 2 * Ls.length ≤ Ls.flatten.length
  | [], _ => by simp
  | a :: Ls, h => by
    have ih := two_flat Ls (fun l hl => h l (by simp [hl]))
    have := h a (by simp)
    simp only [List.length_cons, List.flatten_cons, List.length_append]
    omega
theorem pt_len {Ls : List (List Sp)} : ∀ R : List Nat, (∀ u ∈ R, (lx Ls (u / 2)).length ≤ 60) → (ptW Ls R).length ≤ 59 * R.length
  | [], _ => by simp [ptW]
  | u :: R, h => by
    have ih := pt_len R (fun l hl => h l (by simp [hl]))
    have := h u (by simp)
    have e : ptW Ls (u :: R) = wpW Ls u ++ ptW Ls R := by simp [ptW]
    rw [e, List.length_append, wp_len, List.length_cons]
    omega
theorem pt_take {Ls : List (List Sp)} {R : List Nat} {j : Nat} (h : j < R.length) : ptW Ls (R.take (j + 1)) = ptW Ls (R.take j) ++ wpW Ls (R.getD j 0) := by
  rw [List.take_succ_eq_append_getElem h]
  unfold ptW
  rw [List.flatMap_append]
  simp [h]
theorem pslh (b o M cap i : Nat) (hi : i ≤ M) (hc : M ≤ cap) (h0 : 0 < cap) (w : World) : (Instr.slice 43 (.slice (some ⟨b, o, none⟩) M cap) none (some (.int .i64 (i : Int))) none).run Tryd.prog w = .ok (.slice (some ⟨b, o, none⟩) i cap) w := by
  have hu : Tryd.prog.underlying 43 = some (.slice (Tryd.prog.elem 43)) := by kernel_rfl
  have hs : (sizeOf (Tryd.prog.elem 43)).run Tryd.prog w = .ok 2 w := by kernel_rfl
  rw [run_slice_h w 43 _ _ _ hu .i64 _ (by omega) (by omega), hs]
  have hne : ¬ cap = 0 := by omega
  simp [Result.andThen, sliced, Addr.add, hne]
theorem wpList_am {ops : Array Oper} {rest : List Oper} {o : Oper} {a : Act} {Q : Exit → Act → World → Prop} (W : World) (b0 : Nat) (v : Value) (l m : List Sp) (n k B of c : Nat) (s x : Operand) (hgd : o.guard = none)
    (ho : o.op = .call { callee := .builtin .append, args := #[s, x], argTypes := #[43, 43] }) (hs : a.eval s = v) (hx : a.eval x = .slice (some ⟨B, of, none⟩) k c) (hn : l.length = n) (hm : m.length = k) (h0 : 1 ≤ k) (hl : n ≤ 20000) (hk : k ≤ 20000)
    (hO : W.ownsRow b0 52 2 v n (sr l)) (hS : SSl W (some ⟨B, of, none⟩) B of c m) (hb : b0 ≤ W.heap.size)
    (h : ∀ g cp w', Hid (w'.ownsRow b0 52 2 (.slice (some ⟨g, 0, none⟩) (n + k) cp) (n + k) (sr (l ++ m))) → Hid (W.grownBy w' v.ownBlock) → wpList Tryd.prog ops Q rest (a.put o.dst (.slice (some ⟨g, 0, none⟩) (n + k) cp)) w') : wpList Tryd.prog ops Q (o :: rest) a W := by
  have hml : 100000 ≤ maxLen := by decide
  obtain ⟨i0, hi, hz0, hz1, hz2⟩ := info_pt infoS2
  refine wpList_plain hgd fun _ hK => wp_append_lies W s x _ ho b0 _ i0 (.agg #[.int .i64 0, .int .i64 0]) 2 16 undS2 hi hz0 hz1 hz2 rfl (by decide) v n (sr l) hs hO ⟨B, of, none⟩ k c (sr m) hx (by rw [sr_len, hm]) hS.all ?_ h0 (by omega) (by omega) hb _ rfl ?_
  · intro u hu
    obtain ⟨p, _, hp⟩ := List.mem_flatMap.1 hu
    simp only [List.mem_cons, List.not_mem_nil, or_false] at hp
    rcases hp with rfl | rfl <;> rfl
  · intro g cp w' hown hgrow hat _
    have e : sr l ++ sr m = sr (l ++ m) := by simp [sr]
    rw [e] at hown
    exact hK _ _ (h g cp w' hown hgrow)
/-- What lies in memory while points are gathered. -/
structure PO (w W : World) (base : Nat) (v : Value) (n : Nat) (P : List Sp) : Prop where
  o : W.ownsRow base 52 2 v n (sr P)
  n : P.length = n
  g : Gr w W
  b : w.heap.size ≤ base ∧ base ≤ W.heap.size
theorem PO.start (w : World) : PO w w w.heap.size (.slice none 0 0) 0 [] := ⟨World.ownsRow_nil _ _ _ _, rfl, Gr.refl w, Nat.le_refl _, Nat.le_refl _⟩
theorem PO.below {w W w' : World} {base n : Nat} {v : Value} {P : List Sp} (h : PO w W base v n P) (hB : Below W.heap.size W w') : PO w w' base v n P := ⟨own_kp h.o hB, h.n, Gr.step h.g hB, h.b.1, Nat.le_trans h.b.2 hB.size⟩
theorem PO.drew {w W : World} {base n : Nat} {v : Value} {P : List Sp} (h : PO w W base v n P) : PO w W.drew base v n P := ⟨h.o.drew, h.n, h.g.drew, h.b⟩
theorem PO.app {w W w' : World} {base n : Nat} {v v' : Value} {P : List Sp} {n' : Nat} {P' : List Sp} (h : PO w W base v n P) (ho : w'.ownsRow base 52 2 v' n' (sr P')) (hn : P'.length = n') (hg : W.grownBy w' v.ownBlock) : PO w w' base v' n' P' :=
  ⟨ho, hn, Below.grown h.g.out hg h.g.out.size (fun k hk => Nat.le_trans h.b.1 (h.o.lt k hk).1), h.b.1, Nat.le_trans h.b.2 hg.size⟩
theorem ssl_cut {W : World} {b o cap : Nat} {l : List Sp} (h : SSl W (some ⟨b, o, none⟩) b o cap l) : SSl W (some ⟨b, o, none⟩) b o cap l.dropLast := by
  refine ⟨fun i hi => ?_, fun k hk w => sindex b o _ cap k hk w⟩
  have hl : i < l.length := by rw [List.length_dropLast] at hi; omega
  rw [dl_at hi]
  exact h.row i hl
set_option maxRecDepth 4000 in
set_option maxHeartbeats 16000000 in
theorem pointsOf_any {pb po : Nat} {ad : Option Addr} {b o cap : Nat} {Ls : List (List Sp)} {a' : Option Addr} {b' o' c' : Nat} {R : List Nat} (w : World) (hp : w.cell? ⟨pb, po, none⟩ = some (.slice ad Ls.length cap) ∧ pb < w.heap.size) (h : LLd w ad b o cap Ls) (hN : Ls.length ≤ 60) (h2 : ∀ i, i < Ls.length → 2 ≤ (lx Ls i).length) (h60 : ∀ i, i < Ls.length → (lx Ls i).length ≤ 60) (hR : ∀ u ∈ R, u < 2 * Ls.length) (hRn : R.length ≤ 120) (hS : ISl w a' b' o' c' (tdL R)) : Calls Tryd.prog 17 #[.pointer (some ⟨pb, po, none⟩), .slice a' R.length c'] w fun e w' => ∃ base v, e = .returned v ∧ w'.ownsRow base 52 2 v (ptW Ls R).length (sr (ptW Ls R)) ∧ Gr w w' := by
  have HLL := hidb h
  have HCP := hidb (fun W (hG : Gr w W) => (hG.out.cell (p := ⟨pb, po, none⟩) hp.2).trans hp.1)
  have H60 := hidb (fun i hi => And.intro (h2 i hi) (h60 i hi))
  have HRu := hidb hR
  have HSr := hidb hS
  have HPb : Hid (∀ j, (ptW Ls (R.take j)).length ≤ 59 * 120) := fun j => by
    have := pt_len (Ls := Ls) (R.take j) (fun u hu => h60 _ (by have := hR u (List.mem_of_mem_take hu); omega))
    have h3 : (R.take j).length ≤ R.length := by simp; omega
    omega
  obtain ⟨n, hn⟩ : ∃ n, n = R.length := ⟨_, rfl⟩
  have HnR := hidb hn
  have hn2 : (tdL R).length = n := by rw [hn]; simp
  have HXi : Hid (∀ j, j < n → ∀ w, (Instr.indexAt 37 (.slice a' n c') (.int .i64 j)).run Tryd.prog w = .ok (.pointer (some ⟨b', o' + j, none⟩)) w) := by
    intro j hj w
    have := HSr.out.ix j (by rw [hn2]; exact hj) w
    rw [hn2] at this
    exact this
  have HCi : Hid (∀ W, Gr w W → ∀ j, j < n → W.cell? ⟨b', o' + j, none⟩ = some (.int .i64 (tdI (R.getD j 0)))) := by
    intro W hG j hj
    have h3 : j < R.length := by rw [← HnR.out]; exact hj
    have := (HSr.out.below hG.out).cell (k := j) (by rw [hn2]; exact hj)
    simpa [h3] using this
  have HRn := hidb (show n ≤ 120 by omega)
  have E0 := hidb (PO.start w)
  rw [← hn]
  obtain ⟨N, hNn⟩ : ∃ N, N = Ls.length := ⟨_, rfl⟩
  have HN := hidb hNn
  rw [← hNn] at HCP HRu hN
  have HNb := hidb hN
  clear h hp h2 h60 hR hS hn hn2 hRn hNn hN
  go_enter Tryd.func17, Tryd.ntmps17
  go_wp2
  generalize w.heap.size = base at *
  go_loopw [5, 6] (fun v t wr => ∃ (i m : Nat), i ≤ n ∧ t = .int .i64 (i : Int) ∧ Hid (PO w wr base v m (ptW Ls (R.take i)))) (fun _ t _ => n - (intOf t).toNat)
  case atStart => exact ⟨0, 0, Nat.zero_le _, rfl, E0⟩
  case round =>
    clear E0
    obtain ⟨i, m, hi, rfl, E⟩ := hrel
    obtain ⟨adv, capv, rfl⟩ := own_sh E.out.o
    by_cases h1 : ¬ i < n
    · have h1' : ¬ (i : Int) < (n : Int) := by omega
      have HZ := hidb (show R.take i = R from List.take_of_length_le (by rw [← HnR.out]; omega))
      rw [HZ.out] at E
      clear h1
      go_wp2
      go_ret
      exact ⟨base, _, rfl, by rw [E.out.n]; exact E.out.o, E.out.g⟩
    · have h1' : (i : Int) < (n : Int) := by omega
      have H1 := hidb (show i < n by omega)
      have hiR : i < R.length := by rw [← HnR.out]; exact H1.out
      have e1 : IntKind.i64.wrap ((i : Int) + 1) = ((i + 1 : Nat) : Int) := by rw [show (i : Int) + 1 = ((i + 1 : Nat) : Int) by omega]; exact wr_in (by omega) (by have := HRn.out; omega)
      have ixi := HXi.out i H1.out
      have cI := HCi.out _ E.out.g i H1.out
      have cP := HCP.out _ E.out.g
      have HPt := hidb (pt_take (Ls := Ls) hiR)
      have hu := HRu.out (R.getD i 0) (by simp [hiR])
      have HPm := hidb (show m ≤ 7080 by rw [← E.out.n]; exact HPb.out i)
      obtain ⟨u, hun⟩ : ∃ u, u = R.getD i 0 := ⟨_, rfl⟩
      rw [← hun] at cI HPt hu
      obtain ⟨P, hP⟩ : ∃ P, P = ptW Ls (R.take i) := ⟨_, rfl⟩
      rw [← hP] at E HPt
      have hui : u / 2 < N := by omega
      obtain ⟨⟨a1, b1, o1, c1, y0, y1, hS1⟩, yb⟩ := HLL.out.row (u / 2) (by rw [← HN.out]; exact hui)
      have ix2 : ∀ w, (Instr.indexAt 30 (.slice ad N cap) (.int .i64 ((u / 2 : Nat) : Int))).run Tryd.prog w = .ok (.pointer (some ⟨b, o + u / 2, none⟩)) w := by
        have := HLL.out.ix (u / 2) (by rw [← HN.out]; exact hui)
        rw [← HN.out] at this
        exact this
      have hla := H60.out (u / 2) (by rw [← HN.out]; exact hui)
      obtain ⟨rfl, hlc⟩ := y1 (by omega)
      have cA := (E.out.g.out.cell (p := ⟨b, o + u / 2, none⟩) yb).trans y0
      rw [HN.out] at cP
      rw [← HN.out] at cP
      have hwl := wp_len Ls u
      have hfu0 : ¬ u % 2 = 0 → fuW Ls u = (lx Ls (u / 2)).reverse := fun c => by unfold fuW; rw [if_neg c]
      have HPb2 : Hid (P.length ≤ 7080) := by rw [hP]; exact HPb.out i
      have hwv : wpW Ls u = if u % 2 = 0 then (lx Ls (u / 2)).dropLast else (lx Ls (u / 2)).reverse.dropLast := by unfold wpW fuW; split <;> rfl
      generalize lx Ls (u / 2) = A at *
      generalize hLn : A.length = L at *
      have HAl := hidb hLn
      have em : IntKind.i64.wrap ((L : Int) - 1) = ((L - 1 : Nat) : Int) := by rw [show (L : Int) - 1 = ((L - 1 : Nat) : Int) by omega]; exact wr_in (by omega) (by omega)
      have hub : u / 2 ≤ 60 := by have := HNb.out; omega
      have HLb := hidb hla
      by_cases c : u % 2 = 0
      · have ht : tdI u = ((u / 2 : Nat) : Int) + 1 := by unfold tdI; rw [if_pos c]
        rw [if_pos c] at hwv
        have HW := hidb hwv
        have e3 : IntKind.i64.wrap (((u / 2 : Nat) : Int) + 1 - 1) = ((u / 2 : Nat) : Int) := by rw [show ((u / 2 : Nat) : Int) + 1 - 1 = ((u / 2 : Nat) : Int) by omega]; exact wr_in (by omega) (by omega)
        have h0 : (0 : Int) < ((u / 2 : Nat) : Int) + 1 := by omega
        rw [ht] at cI
        have psl := pslh b1 o1 L c1 (L - 1) (by omega) hlc (by omega)
        have HSc := hidb (fun W (hG : Gr w W) => ssl_cut (hS1.gr hG))
        have HAd := hidb (show A.dropLast.length = L - 1 by rw [List.length_dropLast, HAl.out])
        generalize hK : L - 1 = K at *
        have HK := hidb (show 1 ≤ K ∧ K ≤ 60 by omega)
        generalize u / 2 = p at *
        generalize hT : (p : Int) + 1 = T at *
        clear h1 hiR hu hun hP hui y0 y1 yb hS1 hla hlc hwl hwv hLn hub c ht hfu0 hK hT
        go_upto_region 6 with fail
        go_region
        have E1 := hidb E.out.drew
        generalize wr.drew = W1 at *
        clear E cI cP cA ixi ix2
        go_wp2_with (at_builtin; refine wpList_am _ base (.slice adv m capv) P A.dropLast m K b1 o1 c1 _ _ rfl rfl rfl rfl E1.out.n HAd.out HK.out.1 (by have := HPm.out; omega) (by have := HK.out.2; omega) E1.out.o (HSc.out _ E1.out.g) E1.out.b.2 ?_; intro g2 cp2 w2 hr2 hg2)
        have E2 := hidb (E1.out.app hr2.out (by rw [List.length_append, E1.out.n, HAd.out]) hg2.out)
        clear hr2 hg2 E1
        go_roundw
        case rel => exact ⟨i + 1, m + K, H1.out, by go_num, hidb (by rw [HPt.out, HW.out]; exact E2.out)⟩
        case measure => have := H1.out; simp [intOf]; omega
      · have ht : tdI u = -(((u / 2 : Nat) : Int) + 1) := by unfold tdI; rw [if_neg c]
        rw [if_neg c] at hwv
        have e0 : IntKind.i64.wrap (-(-(((u / 2 : Nat) : Int) + 1))) = ((u / 2 : Nat) : Int) + 1 := by rw [Int.neg_neg]; exact wr_in (by omega) (by omega)
        have e3 : IntKind.i64.wrap (((u / 2 : Nat) : Int) + 1 - 1) = ((u / 2 : Nat) : Int) := by rw [show ((u / 2 : Nat) : Int) + 1 - 1 = ((u / 2 : Nat) : Int) by omega]; exact wr_in (by omega) (by omega)
        have h0 : ¬ (0 : Int) < -(((u / 2 : Nat) : Int) + 1) := by omega
        rw [ht] at cI
        have HSc := hidb (fun W (hG : Gr w W) => hS1.gr hG)
        have HWj : Hid (∀ q, 0 < q → q ≤ L - 1 → (wpW Ls u).take (L - 1 - (q - 1)) = (wpW Ls u).take (L - 1 - q) ++ [sx A q]) := fun q hq hqL => by
          have hj : L - 1 - q < (wpW Ls u).length := by rw [hwl]; omega
          have e : (wpW Ls u)[L - 1 - q] = sx A q := by
            rw [sx_get hj, wp_at hj]
            rw [hfu0 c, sx_rev _ (by rw [HAl.out]; omega), HAl.out]
            congr 1
            omega
          rw [show L - 1 - (q - 1) = L - 1 - q + 1 by omega, List.take_succ_eq_append_getElem hj, e]
        have HWe : Hid ((wpW Ls u).take (L - 1 - 0) = wpW Ls u) := List.take_of_length_le (by rw [hwl]; omega)
        have HWl : Hid ((wpW Ls u).length = L - 1) := hwl
        obtain ⟨Wp, hWp⟩ : ∃ z, z = wpW Ls u := ⟨_, rfl⟩
        rw [← hWp] at HWj HWe HWl HPt
        generalize hK : L - 1 = K at *
        have HK := hidb (show 1 ≤ K ∧ K ≤ 60 ∧ K < L by omega)
        have E0 : Hid (PO w wr.drew base (.slice adv m capv) m (P ++ Wp.take (K - K))) := by rw [Nat.sub_self, List.take_zero, List.append_nil]; exact E.out.drew
        generalize u / 2 = p at *
        generalize hT : (p : Int) + 1 = T at *
        generalize hU : -T = U at *
        clear h1 hiR hu hun hP hui y0 y1 yb hS1 hla hlc hwl hwv hLn hub c ht hfu0 hK hT hU hWp
        go_upto_region 8 with fail
        go_region
        generalize wr.drew = W1 at *
        clear E cI cP cA ixi ix2 e0 e3 h0
        go_wp2
        go_loopw [5, 9] (fun v t wx => ∃ (q m : Nat), q ≤ K ∧ t = .int .i64 (q : Int) ∧ Hid (PO w wx base v m (P ++ Wp.take (K - q)))) (fun _ t _ => (intOf t).toNat)
        case atStart => exact ⟨K, m, Nat.le_refl _, rfl, E0⟩
        case round =>
          clear E0 HPm
          obtain ⟨q, m, hq, rfl, E⟩ := hrel
          obtain ⟨adv, capv, rfl⟩ := own_sh E.out.o
          by_cases h2 : ¬ 0 < q
          · have h2' : ¬ (0 : Int) < (q : Int) := by omega
            obtain rfl : q = 0 := by omega
            rw [Nat.sub_zero, HWe.out, ← HPt.out] at E
            clear h2
            go_wp2
            go_roundw
            case rel => exact ⟨i + 1, m, H1.out, by go_num, E⟩
            case measure => have := H1.out; simp [intOf]; omega
          · have h2' : (0 : Int) < (q : Int) := by omega
            have H2 := hidb (show 0 < q ∧ q ≤ K by omega)
            have HWq := hidb (HWj.out q H2.out.1 H2.out.2)
            have e2 : IntKind.i64.wrap ((q : Int) - 1) = ((q - 1 : Nat) : Int) := by rw [show (q : Int) - 1 = ((q - 1 : Nat) : Int) by omega]; exact wr_in (by omega) (by have := HK.out; omega)
            have HPm : Hid (m ≤ 7200) := by
              have h3 := E.out.n
              rw [List.length_append, List.length_take] at h3
              have h4 := HPb2.out
              have h5 := HK.out
              show m ≤ 7200
              omega
            have hqA : q < A.length := by rw [HAl.out]; have := HK.out; omega
            obtain ⟨⟨s0, s1⟩, -⟩ := (HSc.out _ E.out.g).row q hqA
            have ixs := fun w => sindex b1 o1 L c1 q (by rw [← HAl.out]; exact hqA) w
            clear h2 hqA
            go_wp2_with (at_builtin; refine wpList_s2 _ base (.slice adv m capv) (P ++ Wp.take (K - q)) (sx A q) m _ _ _ rfl rfl rfl rfl E.out.n (by have := HPm.out; omega) (E.out.o.alloc _) (At.new2 _ _ _ _) (by have := E.out.b.2; simp; omega) ?_; intro g2 cp2 w2 hr2 hg2 hat2)
            have E2 := hidb ((E.out.below ((Below.refl _ _).alloc (Nat.le_refl _) _)).app hr2.out (by rw [List.length_append, E.out.n]; rfl) hg2.out)
            clear hr2 hg2 hat2 s0 s1
            go_roundw
            case rel => exact ⟨q - 1, m + 1, by have := H2.out; omega, by go_num, hidb (by rw [HWq.out, ← List.append_assoc]; exact E2.out)⟩
            case measure => have := H2.out; simp [intOf]; omega
end Go.Proofs.YtnadgoomkaldkaaDoor
namespace Go.Proofs.YtnadgoomkaldkaaDoor
open Go.RowKit
attribute [local go_sem ↓] Go.wp_at_zero Go.wp_at_succ

theorem LLd.one {W : World} {B b o cap : Nat} {l : List Sp} (h : At W B [.slice (some ⟨b, o, none⟩) l.length cap]) (hc : l.length ≤ cap) (hs : SSl W (some ⟨b, o, none⟩) b o cap l) : LLd W (some ⟨B, 0, none⟩) B 0 1 [l] :=
  ⟨fun i hi => by
    obtain rfl : i = 0 := by simp at hi; exact hi
    exact ⟨⟨_, b, o, cap, h.c1, fun _ => ⟨rfl, hc⟩, hs⟩, h.2⟩, fun k hk w => lindex B 0 _ 1 k hk w⟩
def seg : List (List Sp) := [[(0, 0), (1, 0)]]
theorem mcd_seg : mcd seg = 0 := by
  refine mcd_0 (by decide) (by decide) ?_ ?_ ?_
  · intro i hi
    obtain rfl : i = 0 := by simp [seg] at hi; exact hi
    show arP [(0, 0), (1, 0)]
    decide
  · rintro ⟨i, hi, k, ⟨h1, h2⟩, -⟩
    obtain rfl : i = 0 := by simp [seg] at hi; exact hi
    simp [seg, lx] at h2
    omega
  · rw [tg_pair]
    simp [seg, ppL, pcl, pk]
theorem rounds_seg : ∃ R, roP seg = [R] ∧ R.length = 2 := by
  have hM := OkM.of mcd_seg
  have h1 := roF_all hM 1 (by decide)
  have h0 := roF_all hM 0 (by decide)
  have e0 : roF seg 0 = ([], [false, false]) := rfl
  rw [e0] at h0
  obtain ⟨k1, k2, k3⟩ := h0.1.rem hM (c := 0) rfl (by decide)
  have f0 : frR [false, false] = 2 := rfl
  dsimp only at k3
  rw [f0] at k3
  have hs : (remR seg [false, false] 0).1 ≠ [] := by
    rw [rem_step (w := 0) rfl]
    simp
  have e1 : (roF seg 1).1 = [(remR seg [false, false] 0).1] := by
    show (if (remR seg (roF seg 0).2 0).1 = [] then (roF seg 0).1 else (roF seg 0).1 ++ [(remR seg (roF seg 0).2 0).1]) = _
    rw [e0, if_neg hs]
    rfl
  have e2 : (roF seg 1).2 = (remR seg [false, false] 0).2 := rfl
  have hR := h1.2.1 (remR seg [false, false] 0).1 (by rw [e1]; simp)
  have h2 := hR.two hM
  have hl : ∀ R : List Nat, (∀ u ∈ R, u < 2 * seg.length) → (ptW seg R).length = R.length := by
    intro R
    induction R with
    | nil => intro _; rfl
    | cons u R ih =>
      intro hu
      have e : ptW seg (u :: R) = wpW seg u ++ ptW seg R := by simp [ptW]
      have h3 : u < 2 := hu u (by simp)
      have h4 : u / 2 = 0 := by omega
      rw [e, List.length_append, wp_len, ih (fun v hv => hu v (by simp [hv])), h4, List.length_cons]
      show 2 - 1 + R.length = R.length + 1
      omega
  rw [hl _ hR.p.lt] at h2
  have hf : frR (roF seg 1).2 = 0 := by rw [e2]; omega
  have hl2 : (roF seg 1).2.length = 2 := roF_len 1
  have hg : (roF seg 1).2.getD 1 true = true := by
    cases hb : (roF seg 1).2.getD 1 true with
    | true => rfl
    | false => have := frR_set hb; omega
  refine ⟨(remR seg [false, false] 0).1, ?_, by omega⟩
  show (roF seg 2).1 = _
  rw [roF_no (q := 1) (by rw [rem_seen hg]), e1]
set_option maxRecDepth 4000 in
theorem mapped_any (g : Nat → Addr) (w : World) (hl : Laid w g) : Calls Tryd.prog 6 #[] w fun e w' => e = .returned (.bool true) ∧ Gr w w' := by
  have HG : Hid (Gr w ((w.alloc (.cells #[.int .i64 0, .int .i64 0, .int .i64 1, .int .i64 0] 52)).alloc (.cells #[.slice (some ⟨w.heap.size, 0, none⟩) 2 2] 43))) := ((Gr.refl w).alloc _).alloc _
  have HS : Hid (SSl (w.alloc (.cells #[.int .i64 0, .int .i64 0, .int .i64 1, .int .i64 0] 52)) (some ⟨w.heap.size, 0, none⟩) w.heap.size 0 2 [(0, 0), (1, 0)]) := SSl.new (n := 2) (At.new4 _ _ _ _ _ _) rfl
  have HL : Hid (LLd ((w.alloc (.cells #[.int .i64 0, .int .i64 0, .int .i64 1, .int .i64 0] 52)).alloc (.cells #[.slice (some ⟨w.heap.size, 0, none⟩) 2 2] 43)) (some ⟨w.heap.size + 1, 0, none⟩) (w.heap.size + 1) 0 1 seg) :=
    LLd.one (by have := At.new1 (w.alloc (.cells #[.int .i64 0, .int .i64 0, .int .i64 1, .int .i64 0] 52)) (.slice (some ⟨w.heap.size, 0, none⟩) 2 2) 43; simpa using this) (by decide) (HS.out.gr ((Gr.refl _).alloc _))
  have HFc := hidb (faces_ok g mcd_seg _ HL.out (hl.below HG.out.out))
  have HR := hidb rounds_seg
  have HR2 : Hid (∀ W base v vs, RQ W base v vs (tdLL (roP seg)) → ∃ ad b o cap, v = .slice ad 1 cap ∧ (∃ a1 c1, W.cell? ⟨b, o, none⟩ = some (.slice a1 2 c1)) ∧ ∀ w, (Instr.indexAt 34 (.slice ad 1 cap) (.int .i64 0)).run Tryd.prog w = .ok (.pointer (some ⟨b, o, none⟩)) w) := by
    intro W base v vs hQ
    obtain ⟨R, h1, h2⟩ := HR.out
    rw [h1] at hQ
    obtain ⟨ad, b, o, cap, rfl, HL⟩ := hQ.lisn (n := 1) rfl
    obtain ⟨⟨a', b', o', c', x0, -⟩, -⟩ := HL.out.row 0 (by simp)
    have e : (lI (tdLL [R]) 0).length = 2 := by simp [lI, h2]
    rw [e] at x0
    exact ⟨ad, b, o, cap, rfl, ⟨a', c', by simpa using x0⟩, fun w => by simpa using HL.out.ix 0 (by simp) w⟩
  clear hl HS HL HR
  go_enter Tryd.func6, Tryd.ntmps6
  go_wp2_with (go_at_call 12; refine HFc.out.mono ?_; rintro e w2 ⟨base, v, vs, rfl, hQ, hB⟩; obtain ⟨ad, b, o, cap, rfl, ⟨a1, c1, x0⟩, ix⟩ := HR2.out _ _ _ _ hQ)
  have HG2 := hidb (Gr.step HG.out hB.out)
  clear hQ hB HFc HR2 HG
  go_wp2
  go_ret
  exact ⟨rfl, HG2.out⟩
end Go.Proofs.YtnadgoomkaldkaaDoor
