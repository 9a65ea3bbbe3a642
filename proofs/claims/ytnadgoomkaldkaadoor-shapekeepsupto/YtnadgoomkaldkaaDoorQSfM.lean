/-
  shape.net.next.
-/
import Derived.Test.YtnadgoomkaldkaaDoorQTk
import Derived.Test.YtnadgoomkaldkaaDoorQSfL
import Derived.Test.YtnadgoomkaldkaaDoorQJ8
namespace Go.Proofs.YtnadgoomkaldkaaDoor
open Go.RowKit
attribute [local go_sem ↓] Go.wp_at_zero Go.wp_at_succ

/-- The way back. -/
def wyX (u : Nat) : Nat := if u % 2 = 0 then u + 1 else u - 1
open Classical in
noncomputable def nxS (Ls : List (List Sp)) (u : Nat) (bf : Nat × Sp) (o : Nat) : Nat × Sp := if o ≠ wyX u ∧ (ouP Ls o).1 = (ouP Ls (wyX u)).1 ∧ (bf.1 = wyX u ∨ snP (ouP Ls (wyX u)) (ouP Ls o).2 bf.2) then (o, (ouP Ls o).2) else bf
/-- The next way, so far as j ways were looked at. -/
noncomputable def nxF (Ls : List (List Sp)) (u : Nat) : Nat → Nat × Sp
  | 0 => (wyX u, (ouP Ls (wyX u)).2)
  | j + 1 => nxS Ls u (nxF Ls u j) j
noncomputable def nxP (Ls : List (List Sp)) (u : Nat) : Nat := (nxF Ls u (2 * Ls.length)).1
/-- What lies in memory while the next way is looked for. -/
structure NS (w W : World) (Z F : Nat) (p : Pc) (q : Sp) : Prop where
  z : At W Z [.int .i64 p.1.1, .int .i64 p.1.2, .int .i64 p.2.1, .int .i64 p.2.2]
  f : At W F [.int .i64 q.1, .int .i64 q.2]
  g : Gr w W
  lo : w.heap.size ≤ Z ∧ w.heap.size ≤ F
  ne : Z ≠ F
theorem NS.below {w W w' : World} {Z F : Nat} {p : Pc} {q : Sp} (h : NS w W Z F p q) (hB : Below W.heap.size W w') : NS w w' Z F p q := ⟨At.below hB h.z, At.below hB h.f, Gr.step h.g hB, h.lo, h.ne⟩
theorem NS.drew {w W : World} {Z F : Nat} {p : Pc} {q : Sp} (h : NS w W Z F p q) : NS w W.drew Z F p q := ⟨h.z.drew, h.f.drew, h.g.drew, h.lo, h.ne⟩
theorem NS.putf {w W : World} {Z F : Nat} {p : Pc} {q : Sp} (h : NS w W Z F p q) (x : Sp) : NS w ((W.setCell ⟨F, 0, none⟩ (.int .i64 x.1)).setCell ⟨F, 1, none⟩ (.int .i64 x.2)) Z F p x :=
  ⟨(h.z.skip h.ne.symm _ _).skip h.ne.symm _ _, At.fill2 (h.f.has rfl) _ _, (h.g.set h.lo.2 _ _).set h.lo.2 _ _, h.lo, h.ne⟩
theorem xr_nat {a b : Nat} (ha : a < 4611686018427387904) (hb : b < 4611686018427387904) : bits .xor .i64 (a : Int) (b : Int) = ((a ^^^ b : Nat) : Int) := by
  have hx : a ^^^ b < 2 ^ 62 := Nat.xor_lt_two_pow (by omega) (by omega)
  have h1 : (BitVec.ofInt 64 (a : Int)).toNat = a := by
    rw [BitVec.ofInt_natCast, BitVec.toNat_ofNat]; exact Nat.mod_eq_of_lt (by omega)
  have h2 : (BitVec.ofInt 64 (b : Int)).toNat = b := by
    rw [BitVec.ofInt_natCast, BitVec.toNat_ofNat]; exact Nat.mod_eq_of_lt (by omega)
  show IntKind.i64.wrap ((BitVec.ofInt 64 (a : Int) ^^^ BitVec.ofInt 64 (b : Int)).toNat : Int) = _
  rw [BitVec.toNat_xor, h1, h2]
  exact wr_in (by omega) (by omega)
theorem xr_one (u : Nat) : u ^^^ 1 = wyX u := by
  have h1 : (u ^^^ 1) / 2 = u / 2 := by rw [Nat.xor_div_two]; simp
  have h2 : (u ^^^ 1) % 2 = 1 ↔ ¬ u % 2 = 1 := by rw [Nat.xor_mod_two_eq_one]; simp
  unfold wyX
  split <;> omega
theorem xr_way {u : Nat} (h : u < 1000000) : bits .xor .i64 (u : Int) 1 = (wyX u : Int) := by
  have := xr_nat (a := u) (b := 1) (by omega) (by omega)
  rw [xr_one] at this
  exact this
theorem wyX_lt {u n : Nat} (h : u < 2 * n) : wyX u < 2 * n := by unfold wyX; split <;> omega
set_option maxRecDepth 4000 in
set_option maxHeartbeats 16000000 in
theorem next_any {ad : Option Addr} {b o cap u : Nat} {Ls : List (List Sp)} (w : World) (h : LLs w ad b o cap Ls) (hu : u < 2 * Ls.length) (hN : Ls.length ≤ 5000) (h2 : ∀ i, i < Ls.length → 2 ≤ (lx Ls i).length) (ll : ∀ i, i < Ls.length → (lx Ls i).length ≤ 5000) (hok : okL Ls) : Calls Tryd.prog 45 #[.slice ad Ls.length cap, .int .i64 u] w fun e w' => e = .returned (.int .i64 (nxP Ls u : Int)) ∧ Gr w w' := by
  have HOu := hidb (fun k (hk : k < 2 * Ls.length) W (hG : Gr w W) => out_any (k := k) W (h.below hG.out) hk hN (h2 _ (by omega)) (ll _ (by omega)))
  have HOp : Hid (∀ k, k < 2 * Ls.length → okP (ouP Ls k)) := fun k hk => by
    have hi : k / 2 < Ls.length := by omega
    have h3 := h2 _ hi
    unfold ouP
    split
    · exact ⟨hok _ hi 0 (by omega), hok _ hi 1 (by omega)⟩
    · exact ⟨hok _ hi _ (by omega), hok _ hi _ (by omega)⟩
  have ex := xr_way (u := u) (by omega)
  have hX := wyX_lt hu
  have HF0 : Hid (nxF Ls u 0 = (wyX u, (ouP Ls (wyX u)).2)) := rfl
  have HFS : Hid (∀ j, nxF Ls u (j + 1) = nxS Ls u (nxF Ls u j) j) := fun j => rfl
  have HFN : Hid (nxP Ls u = (nxF Ls u (2 * Ls.length)).1) := rfl
  obtain ⟨N, hNn⟩ : ∃ N, N = Ls.length := ⟨_, rfl⟩
  have HN := hidb hNn
  rw [← hNn] at HOu HOp hN hX HFN ⊢
  have HNb := hidb hN
  have eN : IntKind.i64.wrap (2 * (N : Int)) = ((2 * N : Nat) : Int) := by rw [show 2 * (N : Int) = ((2 * N : Nat) : Int) by omega]; exact wr_in (by omega) (by omega)
  have HOb := hidb (HOu.out _ hX)
  obtain ⟨bk, hbk⟩ : ∃ z, z = wyX u := ⟨_, rfl⟩
  have HBk := hidb hbk
  have HBl := hidb (show bk < 2 * N by rw [hbk]; exact hX)
  rw [← hbk] at HOb ex HF0
  obtain ⟨cm, hcm⟩ : ∃ z, z = ouP Ls bk := ⟨_, rfl⟩
  have HCm := hidb hcm
  have HOc := hidb (show okP cm by rw [hcm]; exact HOp.out bk HBl.out)
  rw [← hcm] at HOb HF0
  have HGw := hidb (Gr.refl w)
  clear h hu hN h2 ll hok hNn hX hbk hcm
  go_enter Tryd.func45, Tryd.ntmps45
  go_upto_region 2 with fail
  go_wp2_with (go_at_call 66; refine (HOb.out _ (Gr.refl _)).mono ?_; rintro e w1 ⟨rfl, hB1⟩)
  have FW : Hid (At (w1.alloc (.cells #[.int .i64 cm.1.1, .int .i64 cm.1.2, .int .i64 cm.2.1, .int .i64 cm.2.2] 84)) w1.heap.size [.int .i64 cm.1.1, .int .i64 cm.1.2, .int .i64 cm.2.1, .int .i64 cm.2.2] ∧ Gr w (w1.alloc (.cells #[.int .i64 cm.1.1, .int .i64 cm.1.2, .int .i64 cm.2.1, .int .i64 cm.2.2] 84)) ∧ w.heap.size ≤ w1.heap.size) :=
    ⟨At.new4 _ _ _ _ _ _, hB1.alloc _, hB1.out.size⟩
  generalize w1.alloc (.cells #[.int .i64 cm.1.1, .int .i64 cm.1.2, .int .i64 cm.2.1, .int .i64 cm.2.2] 84) = W2 at *
  clear hB1
  generalize w1.heap.size = Z at *
  clear w1
  go_cut [7, 8] from 16 to 18 (fun s t wx => ∃ F, t = .pointer (some ⟨F, 0, none⟩) ∧ s = .int .i64 (bk : Int) ∧ Hid (NS w wx Z F cm cm.2))
  case first =>
    refine wp_region_held_drew (S := (fun w' => w'.cell? ⟨Z, 0, none⟩ = some (.int .i64 cm.1.1) ∧ w'.cell? ⟨Z, 1, none⟩ = some (.int .i64 cm.1.2) ∧ w'.cell? ⟨Z, 2, none⟩ = some (.int .i64 cm.2.1) ∧ w'.cell? ⟨Z, 3, none⟩ = some (.int .i64 cm.2.2))) (by kernel_rfl) ?_ (fun hHeld => ?_)
    · (try dsimp only); exact FW.out.1.drew.c4
    have H4 := hidb (And.intro FW.out.1.drew (And.intro FW.out.2.1.drew True.intro))
    generalize W2.drew = V0 at *
    refine wt (i := 0) (v := ?vf3q0x4) rfl ?hf3q0x4 ?rf3q0x4
    case hf3q0x4 => (intro w hSw; (try dsimp only at hSw); obtain ⟨x1, x2, x3, x4⟩ := hSw; go_simp; try with_reducible rfl)
    (try simp only [Act.put, lq1, lq2, lq4, lq5, lq6])
    refine wt (i := 1) (v := ?vf3q1x7) rfl ?hf3q1x7 ?rf3q1x7
    case hf3q1x7 => (intro w hSw; (try dsimp only at hSw); obtain ⟨x1, x2, x3, x4⟩ := hSw; go_simp; try with_reducible rfl)
    (try simp only [Act.put, lq1, lq2, lq3, lq4, lq5, lq6])
    refine wt (i := 2) (v := ?vf3q2x10) rfl ?hf3q2x10 ?rf3q2x10
    case hf3q2x10 => (intro w hSw; (try dsimp only at hSw); obtain ⟨x1, x2, x3, x4⟩ := hSw; go_simp; try with_reducible rfl)
    (try simp only [Act.put, lq1, lq2, lq3, lq4, lq5, lq6])
    refine wpAnyH_ready (rs := [3]) (by kernel_rfl) (by simp) ?_
    refine AllReadyH.cons rfl (fun K hK => ?_) AllReadyH.nil
    go_simp
    refine hK.out _ _ ?_ (fun hHeld => ?_)
    · (try dsimp only); exact ((H4.out.1.alloc _).c4)
    clear hK K
    have H5 : Hid (At (V0.alloc (.cells #[.int .i64 0, .int .i64 0] 52)) Z [.int .i64 cm.1.1, .int .i64 cm.1.2, .int .i64 cm.2.1, .int .i64 cm.2.2] ∧ Gr w (V0.alloc (.cells #[.int .i64 0, .int .i64 0] 52)) ∧ At (V0.alloc (.cells #[.int .i64 0, .int .i64 0] 52)) V0.heap.size [.int .i64 0, .int .i64 0] ∧ w.heap.size ≤ V0.heap.size ∧ Z ≠ V0.heap.size) := ⟨H4.out.1.alloc _, H4.out.2.1.alloc _, At.new2 _ _ _ _, H4.out.2.1.out.size, by have := H4.out.1.lt; omega⟩
    clear H4
    generalize V0.alloc (.cells #[.int .i64 0, .int .i64 0] 52) = V1 at *
    generalize V0.heap.size = F at *
    refine wt (i := 4) (v := ?vf3q4x23) rfl ?hf3q4x23 ?rf3q4x23
    case hf3q4x23 => (intro w hSw; (try dsimp only at hSw); obtain ⟨x1, x2, x3, x4⟩ := hSw; go_simp; try with_reducible rfl)
    (try simp only [Act.put, lq1, lq2, lq3, lq4, lq5, lq6])
    refine wpAnyH_ready (rs := [5]) (by kernel_rfl) (by simp) ?_
    refine AllReadyH.cons rfl (fun K hK => ?_) AllReadyH.nil
    obtain ⟨z0, z1⟩ := H5.out.2.2.1.c2
    obtain ⟨y0, y1⟩ := H5.out.2.2.1.f2
    go_simp
    refine hK.out _ _ ?_ (fun hHeld => ?_)
    · (try dsimp only); exact ((H5.out.1.skip H5.out.2.2.2.2.symm _ _).skip H5.out.2.2.2.2.symm _ _).c4
    clear hK K
    clear z0 z1 y0 y1
    refine wpAnyH_done (by kernel_rfl) ?_ _
    go_wp2_with fail
    go_meet
    exact ⟨F, rfl, rfl, hidb ⟨(H5.out.1.skip H5.out.2.2.2.2.symm _ _).skip H5.out.2.2.2.2.symm _ _, At.fill2 (H5.out.2.2.1.has rfl) _ _, (H5.out.2.1.set H5.out.2.2.2.1 _ _).set H5.out.2.2.2.1 _ _, ⟨FW.out.2.2, H5.out.2.2.2.1⟩, H5.out.2.2.2.2⟩⟩
  case rest =>
    obtain ⟨F, rfl, rfl, E0⟩ := hcut
    have E00 := hidb E0.out
    clear FW HOb HGw ex
    go_upto_region 5 with fail
    go_loopw [7, 22] (fun s t wr => ∃ j : Nat, j ≤ 2 * N ∧ s = .int .i64 ((nxF Ls u j).1 : Int) ∧ t = .int .i64 (j : Int) ∧ Hid (NS w wr Z F cm (nxF Ls u j).2 ∧ (nxF Ls u j).1 ≤ 2 * N ∧ okS (nxF Ls u j).2)) (fun _ t _ => 2 * N - (intOf t).toNat)
    case atStart => exact ⟨0, Nat.zero_le _, by rw [HF0.out], rfl, hidb (by rw [HF0.out]; exact ⟨E00.out, Nat.le_of_lt HBl.out, HOc.out.2⟩)⟩
    case round =>
      clear E0 E00
      obtain ⟨j, hj, rfl, rfl, E⟩ := hrel
      by_cases h1 : ¬ j < 2 * N
      · have h1' : ¬ (j : Int) < ((2 * N : Nat) : Int) := by omega
        have HZ := hidb (show (nxF Ls u j).1 = nxP Ls u by rw [HFN.out, show j = 2 * N by omega])
        have HG := hidb E.out.1.g
        rw [HZ.out]
        clear h1 E
        go_wp2
        go_ret
        exact ⟨rfl, HG.out⟩
      · have h1' : (j : Int) < ((2 * N : Nat) : Int) := by omega
        have H1 := hidb (show j < 2 * N by omega)
        have e1 : IntKind.i64.wrap ((j : Int) + 1) = ((j + 1 : Nat) : Int) := by rw [show (j : Int) + 1 = ((j + 1 : Nat) : Int) by omega]; exact wr_in (by omega) (by have := HNb.out; omega)
        have HOj := hidb (HOu.out j H1.out)
        have HS := hidb (HFS.out j)
        obtain ⟨st, hst⟩ : ∃ z, z = nxF Ls u j := ⟨_, rfl⟩
        rw [← hst] at E HS ⊢
        obtain ⟨bs, fs⟩ := st
        dsimp only at E ⊢
        obtain ⟨cp, hcp⟩ : ∃ z, z = ouP Ls j := ⟨_, rfl⟩
        have HCp := hidb hcp
        rw [← hcp] at HOj
        have HOp2 := hidb (show okP cp by rw [hcp]; exact HOp.out j H1.out)
        have HSn := hidb (fun W => ssooner_any HOc.out HOp2.out.2 E.out.2.2 W)
        have g1 := sp_eq cp.1 cm.1
        have HT : Hid ((j ≠ bk ∧ cp.1 = cm.1 ∧ (bs = bk ∨ snP cm cp.2 fs)) → nxF Ls u (j + 1) = (j, cp.2)) := fun hc => by
          rw [HS.out]; unfold nxS; rw [← HBk.out, ← HCm.out, ← HCp.out]; exact if_pos hc
        have HFa : Hid (¬ (j ≠ bk ∧ cp.1 = cm.1 ∧ (bs = bk ∨ snP cm cp.2 fs)) → nxF Ls u (j + 1) = (bs, fs)) := fun hc => by
          rw [HS.out]; unfold nxS; rw [← HBk.out, ← HCm.out, ← HCp.out]; exact if_neg hc
        clear HS
        have HBs := hidb E.out.2.1
        clear h1 hst hcp
        go_upto_region 8 with (go_at_call 66; refine (HOj.out _ E.out.1.g).mono ?_; rintro e w3 ⟨rfl, hB3⟩)
        have FW : Hid (At (w3.alloc (.cells #[.int .i64 cp.1.1, .int .i64 cp.1.2, .int .i64 cp.2.1, .int .i64 cp.2.2] 84)) w3.heap.size [.int .i64 cp.1.1, .int .i64 cp.1.2, .int .i64 cp.2.1, .int .i64 cp.2.2] ∧ NS w (w3.alloc (.cells #[.int .i64 cp.1.1, .int .i64 cp.1.2, .int .i64 cp.2.1, .int .i64 cp.2.2] 84)) Z F cm fs ∧ ¬ F = w3.heap.size) :=
          ⟨At.new4 _ _ _ _ _ _, (E.out.1.below hB3.out).below ((Below.refl _ _).alloc (Nat.le_refl _) _), by have := E.out.1.f.lt; have := hB3.out.size; omega⟩
        have HOf := hidb E.out.2.2
        generalize w3.alloc (.cells #[.int .i64 cp.1.1, .int .i64 cp.1.2, .int .i64 cp.2.1, .int .i64 cp.2.2] 84) = W4 at *
        clear hB3
        generalize w3.heap.size = Y at *
        clear w3 E HOj
        by_cases c1 : j = bk
        · have hq1 : ((j : Int) == (bk : Int)) = true := beq_iff_eq.2 (by omega)
          have hq2 : ((j : Int) = (bk : Int)) = True := eq_true (by omega)
          have HZ := hidb (HFa.out (fun hc => hc.1 c1))
          clear c1
          obtain ⟨z0, z1, z2, z3⟩ := FW.out.1.c4
          obtain ⟨y0, y1, y2, y3⟩ := FW.out.2.1.z.c4
          obtain ⟨x0, x1⟩ := FW.out.2.1.f.c2
          go_wp2
          go_roundw
          case rel => exact ⟨j + 1, H1.out, by rw [HZ.out], by go_num, hidb (by rw [HZ.out]; exact ⟨FW.out.2.1, HBs.out, HOf.out⟩)⟩
          case measure => have := H1.out; simp [intOf]; omega
        · have hq1 : ((j : Int) == (bk : Int)) = false := beq_eq_false_iff_ne.2 (by omega)
          have hq2 : ((j : Int) = (bk : Int)) = False := eq_false (by omega)
          by_cases c2 : cp.1 = cm.1
          · rw [decide_eq_true c2] at g1
            by_cases c3 : bs = bk
            · have hq3 : ((bs : Int) == (bk : Int)) = true := beq_iff_eq.2 (by omega)
              have hq4 : ((bs : Int) = (bk : Int)) = True := eq_true (by omega)
              have HZ := hidb (HT.out ⟨c1, c2, .inl c3⟩)
              clear c1 c2 c3
              obtain ⟨z0, z1, z2, z3⟩ := FW.out.1.c4
              obtain ⟨y0, y1, y2, y3⟩ := FW.out.2.1.z.c4
              obtain ⟨x0, x1⟩ := FW.out.2.1.f.c2
              go_upto_region 9 with fail
              clear z0 z1 z2 z3 y0 y1 y2 y3 x0 x1
              refine wp_region_held_drew (S := (fun w' => w'.cell? ⟨Y, 0, none⟩ = some (.int .i64 cp.1.1) ∧ w'.cell? ⟨Y, 1, none⟩ = some (.int .i64 cp.1.2) ∧ w'.cell? ⟨Y, 2, none⟩ = some (.int .i64 cp.2.1) ∧ w'.cell? ⟨Y, 3, none⟩ = some (.int .i64 cp.2.2))) (by kernel_rfl) ?_ (fun hHeld => ?_)
              · (try dsimp only); exact FW.out.1.drew.c4
              have FV := hidb (And.intro FW.out.1.drew (And.intro FW.out.2.1.drew FW.out.2.2))
              generalize W4.drew = V0 at *
              refine wt (i := 0) (v := ?vs9W4q0x4) rfl ?hs9W4q0x4 ?rs9W4q0x4
              case hs9W4q0x4 => (intro w hSw; (try dsimp only at hSw); obtain ⟨x1, x2, x3, x4⟩ := hSw; go_simp; try with_reducible rfl)
              (try simp only [Act.put, lq1, lq2, lq4, lq5, lq6])
              refine wt (i := 1) (v := ?vs9W4q1x7) rfl ?hs9W4q1x7 ?rs9W4q1x7
              case hs9W4q1x7 => (intro w hSw; (try dsimp only at hSw); obtain ⟨x1, x2, x3, x4⟩ := hSw; go_simp; try with_reducible rfl)
              (try simp only [Act.put, lq1, lq2, lq3, lq4, lq5, lq6])
              refine wt (i := 2) (v := ?vs9W4q2x10) rfl ?hs9W4q2x10 ?rs9W4q2x10
              case hs9W4q2x10 => (intro w hSw; (try dsimp only at hSw); obtain ⟨x1, x2, x3, x4⟩ := hSw; go_simp; try with_reducible rfl)
              (try simp only [Act.put, lq1, lq2, lq3, lq4, lq5, lq6])
              refine wt (i := 3) (v := ?vs9W4q3x13) rfl ?hs9W4q3x13 ?rs9W4q3x13
              case hs9W4q3x13 => (intro w hSw; (try dsimp only at hSw); obtain ⟨x1, x2, x3, x4⟩ := hSw; go_simp; try with_reducible rfl)
              (try simp only [Act.put, lq1, lq2, lq3, lq4, lq5, lq6])
              refine wpAnyH_ready (rs := [4]) (by kernel_rfl) (by simp) ?_
              refine AllReadyH.cons rfl (fun K hK => ?_) AllReadyH.nil
              obtain ⟨x0, x1⟩ := FV.out.2.1.f.c2
              obtain ⟨y0, y1⟩ := FV.out.2.1.f.f2
              go_simp
              refine hK.out _ _ ?_ (fun hHeld => ?_)
              · (try dsimp only); exact (At.skip (At.skip FV.out.1 FV.out.2.2 _ _) FV.out.2.2 _ _).c4
              clear hK K
              have FU := hidb (FV.out.2.1.putf cp.2)
              clear x0 x1 y0 y1
              generalize (V0.setCell ⟨F, 0, none⟩ (.int .i64 cp.2.1)).setCell ⟨F, 1, none⟩ (.int .i64 cp.2.2) = V2 at *
              refine wpAnyH_done (by kernel_rfl) ?_ _
              go_wp2_with fail
              go_roundw
              case rel => exact ⟨j + 1, H1.out, by rw [HZ.out], by go_num, hidb (by rw [HZ.out]; exact ⟨FU.out, Nat.le_of_lt H1.out, HOp2.out.2⟩)⟩
              case measure => have := H1.out; simp [intOf]; omega
            · have hq3 : ((bs : Int) == (bk : Int)) = false := beq_eq_false_iff_ne.2 (by omega)
              have hq4 : ((bs : Int) = (bk : Int)) = False := eq_false (by omega)
              by_cases c4 : snP cm cp.2 fs
              · have HZ := hidb (HT.out ⟨c1, c2, .inr c4⟩)
                rw [decide_eq_true c4] at HSn
                clear c1 c2 c3 c4
                obtain ⟨z0, z1, z2, z3⟩ := FW.out.1.c4
                obtain ⟨y0, y1, y2, y3⟩ := FW.out.2.1.z.c4
                obtain ⟨x0, x1⟩ := FW.out.2.1.f.c2
                go_upto_region 9 with (go_at_call 67; refine (HSn.out _).mono ?_; rintro e w6 ⟨rfl, hB6⟩)
                have FW6 := hidb (And.intro (At.below hB6.out FW.out.1) (And.intro (FW.out.2.1.below hB6.out) FW.out.2.2))
                replace FW := FW6
                clear z0 z1 z2 z3 y0 y1 y2 y3 x0 x1
                clear hB6 FW6
                refine wp_region_held_drew (S := (fun w' => w'.cell? ⟨Y, 0, none⟩ = some (.int .i64 cp.1.1) ∧ w'.cell? ⟨Y, 1, none⟩ = some (.int .i64 cp.1.2) ∧ w'.cell? ⟨Y, 2, none⟩ = some (.int .i64 cp.2.1) ∧ w'.cell? ⟨Y, 3, none⟩ = some (.int .i64 cp.2.2))) (by kernel_rfl) ?_ (fun hHeld => ?_)
                · (try dsimp only); exact FW.out.1.drew.c4
                have FV := hidb (And.intro FW.out.1.drew (And.intro FW.out.2.1.drew FW.out.2.2))
                generalize w6.drew = V0 at *
                refine wt (i := 0) (v := ?vs9w6q0x4) rfl ?hs9w6q0x4 ?rs9w6q0x4
                case hs9w6q0x4 => (intro w hSw; (try dsimp only at hSw); obtain ⟨x1, x2, x3, x4⟩ := hSw; go_simp; try with_reducible rfl)
                (try simp only [Act.put, lq1, lq2, lq4, lq5, lq6])
                refine wt (i := 1) (v := ?vs9w6q1x7) rfl ?hs9w6q1x7 ?rs9w6q1x7
                case hs9w6q1x7 => (intro w hSw; (try dsimp only at hSw); obtain ⟨x1, x2, x3, x4⟩ := hSw; go_simp; try with_reducible rfl)
                (try simp only [Act.put, lq1, lq2, lq3, lq4, lq5, lq6])
                refine wt (i := 2) (v := ?vs9w6q2x10) rfl ?hs9w6q2x10 ?rs9w6q2x10
                case hs9w6q2x10 => (intro w hSw; (try dsimp only at hSw); obtain ⟨x1, x2, x3, x4⟩ := hSw; go_simp; try with_reducible rfl)
                (try simp only [Act.put, lq1, lq2, lq3, lq4, lq5, lq6])
                refine wt (i := 3) (v := ?vs9w6q3x13) rfl ?hs9w6q3x13 ?rs9w6q3x13
                case hs9w6q3x13 => (intro w hSw; (try dsimp only at hSw); obtain ⟨x1, x2, x3, x4⟩ := hSw; go_simp; try with_reducible rfl)
                (try simp only [Act.put, lq1, lq2, lq3, lq4, lq5, lq6])
                refine wpAnyH_ready (rs := [4]) (by kernel_rfl) (by simp) ?_
                refine AllReadyH.cons rfl (fun K hK => ?_) AllReadyH.nil
                obtain ⟨x0, x1⟩ := FV.out.2.1.f.c2
                obtain ⟨y0, y1⟩ := FV.out.2.1.f.f2
                go_simp
                refine hK.out _ _ ?_ (fun hHeld => ?_)
                · (try dsimp only); exact (At.skip (At.skip FV.out.1 FV.out.2.2 _ _) FV.out.2.2 _ _).c4
                clear hK K
                have FU := hidb (FV.out.2.1.putf cp.2)
                clear x0 x1 y0 y1
                generalize (V0.setCell ⟨F, 0, none⟩ (.int .i64 cp.2.1)).setCell ⟨F, 1, none⟩ (.int .i64 cp.2.2) = V3 at *
                refine wpAnyH_done (by kernel_rfl) ?_ _
                go_wp2_with fail
                go_roundw
                case rel => exact ⟨j + 1, H1.out, by rw [HZ.out], by go_num, hidb (by rw [HZ.out]; exact ⟨FU.out, Nat.le_of_lt H1.out, HOp2.out.2⟩)⟩
                case measure => have := H1.out; simp [intOf]; omega
              · have HZ := hidb (HFa.out (fun hc => hc.2.2.elim c3 c4))
                rw [decide_eq_false c4] at HSn
                clear c1 c2 c3 c4
                obtain ⟨z0, z1, z2, z3⟩ := FW.out.1.c4
                obtain ⟨y0, y1, y2, y3⟩ := FW.out.2.1.z.c4
                obtain ⟨x0, x1⟩ := FW.out.2.1.f.c2
                go_wp2_with (go_at_call 67; refine (HSn.out _).mono ?_; rintro e w6 ⟨rfl, hB6⟩)
                have FW6 := hidb (And.intro (At.below hB6.out FW.out.1) (And.intro (FW.out.2.1.below hB6.out) FW.out.2.2))
                replace FW := FW6
                clear z0 z1 z2 z3 y0 y1 y2 y3 x0 x1
                clear hB6 FW6
                go_wp2
                go_roundw
                case rel => exact ⟨j + 1, H1.out, by rw [HZ.out], by go_num, hidb (by rw [HZ.out]; exact ⟨FW.out.2.1, HBs.out, HOf.out⟩)⟩
                case measure => have := H1.out; simp [intOf]; omega
          · rw [decide_eq_false c2] at g1
            have HZ := hidb (HFa.out (fun hc => c2 hc.2.1))
            clear c1 c2
            obtain ⟨z0, z1, z2, z3⟩ := FW.out.1.c4
            obtain ⟨y0, y1, y2, y3⟩ := FW.out.2.1.z.c4
            obtain ⟨x0, x1⟩ := FW.out.2.1.f.c2
            go_wp2
            go_roundw
            case rel => exact ⟨j + 1, H1.out, by rw [HZ.out], by go_num, hidb (by rw [HZ.out]; exact ⟨FW.out.2.1, HBs.out, HOf.out⟩)⟩
            case measure => have := H1.out; simp [intOf]; omega
end Go.Proofs.YtnadgoomkaldkaaDoor
