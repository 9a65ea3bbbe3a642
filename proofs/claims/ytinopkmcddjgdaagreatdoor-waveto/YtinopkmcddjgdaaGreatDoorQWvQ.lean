/-
  The law WaveTo: what it calls is so.
-/
import Derived.Test.YtinopkmcddjgdaaGreatDoorQWvP
import Derived.Test.YtinopkmcddjgdaaGreatDoorQWvN
import Derived.Test.YtinopkmcddjgdaaGreatDoorQFtS
namespace Go.Proofs.YtinopkmcddjgdaaGreatDoor
open Go.RowKit FB

/-- The third flattening, as a word. -/
def nW (f : Nat) : Nat := (nO f).getD 0
theorem nW_num {f : Nat} (hf : Le 1021 f) : nO f = some (nW f) ∧ Num (nW f) ∧ nW f < 18446744073709551616 := by
  obtain ⟨n, h, h1, h2⟩ := n_num hf
  unfold nW
  rw [h]
  exact ⟨rfl, h1, h2⟩
theorem sc_f {a f m : Nat} (ha : a < 18446744073709551616) (hf : f < 18446744073709551616) (h : scode a f m = 0) : Le 1021 f := (okG_le ha hf (scode_ok h).1).2.1
def TOw (a f m : Nat) (mid lon lat : Int) (x y : Nat) : Prop :=
  (tcode a f m lat (nrm lon - nrm mid) ≠ 0 ∧ x = 0 ∧ y = 0) ∨ (tcode a f m lat (nrm lon - nrm mid) = 0 ∧ ∃ x' y', x = uz x' ∧ y = uz y' ∧ GW (oM (srO a (uz (nW f)) m) (zsI f (nW f) lat (nrm lon - nrm mid))) x' ∧ GW (oM (srO a (uz (nW f)) m) (zsR f (nW f) lat (nrm lon - nrm mid))) y')
def TUw (a f m : Nat) (mid lon lat : Int) (q : Nat) (t : Int) : Prop :=
  (tcode a f m lat (nrm lon - nrm mid) ≠ 0 ∧ q = 0 ∧ t = 0) ∨ (tcode a f m lat (nrm lon - nrm mid) = 0 ∧ t = turI f (nW f) lat (nrm lon - nrm mid) ∧ GW (scP a f (nW f) m lat (nrm lon - nrm mid)) q)
def TNw (a f m : Nat) (mid lon lat : Int) (t : Nat) (d u : Int) (v : Nat) : Prop :=
  tcode a f m lat (nrm lon - nrm mid) = 0 → d = nrm lon - nrm mid ∧ u = uI f lat (nrm lon - nrm mid) ∧ GW (tRf f lat) t ∧ GW (vRf f lat (nrm lon - nrm mid)) v
theorem slO_sim {s s' : Four} (h : S4 s s') : S4 (slO s) (slO s') := by
  refine ⟨?_, ?_, ?_, ?_⟩
  · show Sim (oM (some (floatOfInt .f64 2)) s.a) (oM (some (floatOfInt .f64 2)) s'.a); exact oM_sim (Sim.refl _) h.a
  · show Sim (oM (some (floatOfInt .f64 4)) s.b) (oM (some (floatOfInt .f64 4)) s'.b); exact oM_sim (Sim.refl _) h.b
  · show Sim (oM (some (floatOfInt .f64 6)) s.c) (oM (some (floatOfInt .f64 6)) s'.c); exact oM_sim (Sim.refl _) h.c
  · show Sim (oM (some (floatOfInt .f64 8)) s.d) (oM (some (floatOfInt .f64 8)) s'.d); exact oM_sim (Sim.refl _) h.d
theorem srO_uz {a n m : Nat} (hl : n < 18446744073709551616) : srO a (uz n) m = srO a n m := by unfold srO; rw [raS_uz hl]
theorem tr_same {f n : Nat} (hn : Num n) (hl : n < 18446744073709551616) (lat d : Int) : Sim (trR f n lat d) (rtR n (uI f lat d) (vRf f lat d)) ∧ Sim (trI f n lat d) (rtI n (uI f lat d) (vRf f lat d)) :=
  ⟨ripO_sim csR_sim (Sim.refl _) (slO_sim (aS_sim hn hl)) rfl _, ripO_sim csI_sim (Sim.refl _) (slO_sim (aS_sim hn hl)) rfl _⟩
theorem sc_same {a f n m : Nat} (hn : Num n) (hl : n < 18446744073709551616) (lat d : Int) (h1 : -89000000000 ≤ lat) (h2 : lat ≤ 89000000000) : scP a f n m lat d = scR a f n m lat d (uI f lat d) (tRf f lat) (vRf f lat d) := by
  unfold scP scR
  rw [srO_uz hl, uz_cos89 lat h1 h2, hyO_sim (tr_same hn hl lat d).1 (tr_same hn hl lat d).2]
  rfl
theorem tur_same {f n : Nat} (hn : Num n) (hl : n < 18446744073709551616) (lat d : Int) : turI f n lat d = turR n d (uI f lat d) (tRf f lat) (vRf f lat d) := by
  unfold turI turR
  rw [angC_sim (tr_same hn hl lat d).2 (tr_same hn hl lat d).1]
  rw [angC_sim (oM_sim (Sim.refl _) (sim_z (uz_sin d))) (oM_sim (Sim.refl _) (sim_z (uz_cos d)))]
  unfold hyO
  rw [show oM (some oneW) (some oneW) = some oneW from one_one]
theorem waveTo_facts (g : Nat → Addr) (a f m : Nat) (mid lon lat : Int) (ha : a < 18446744073709551616) (hf : f < 18446744073709551616) :
    WT g a f m mid lon lat (scode a f m) (tcode a f m lat (nrm lon - nrm mid)) (turI f (nW f) lat (nrm lon - nrm mid)) (TOw a f m mid lon lat) (TUw a f m mid lon lat) (TNw a f m mid lon lat)
      (GW (oM (srO a (nW f) m) (ripO rsI (vRf f lat (nrm lon - nrm mid)) (uI f lat (nrm lon - nrm mid)) (vRf f lat (nrm lon - nrm mid)) (rA (nW f)))))
      (GW (oM (srO a (nW f) m) (ripO rsR (oM (some (floatOfInt .f64 (uI f lat (nrm lon - nrm mid)))) (some 4445950764994258515)) (uI f lat (nrm lon - nrm mid)) (vRf f lat (nrm lon - nrm mid)) (rA (nW f)))))
      (GW (scR a f (nW f) m lat (nrm lon - nrm mid) (uI f lat (nrm lon - nrm mid)) (tRf f lat) (vRf f lat (nrm lon - nrm mid)))) where
  valid := fun w hl => svalid_at g a f m mid w hl
  serr := fun w => stripError_any a f m mid w
  hsc := by have := scode_cases a f m; omega
  hdc := by have := tcode_cases a f m lat (nrm lon - nrm mid); omega
  pto := fun w hl => by
    by_cases h0 : tcode a f m lat (nrm lon - nrm mid) = 0
    · have hF := sc_f ha hf (tcode_ok h0).1
      refine (sto_ok g a f (nW f) m mid lon lat hF (nW_num hF).1 h0 w hl).mono ?_
      rintro e w' ⟨x, y, rfl, hx, hy, hB⟩
      exact ⟨_, _, by rw [h0]; rfl, .inr ⟨h0, x, y, rfl, rfl, hx, hy⟩, hB⟩
    · obtain ⟨i, hi⟩ : ∃ i, evOf g (tcode a f m lat (nrm lon - nrm mid)) = errV g i := by
        unfold evOf
        rw [if_neg h0]
        exact ⟨_, rfl⟩
      refine (sto_no g a f m i mid lon lat hi w hl).mono ?_
      rintro e w' ⟨rfl, hB⟩
      exact ⟨0, 0, by rw [hi], .inl ⟨h0, rfl, rfl⟩, hB⟩
  turned := fun w hl => by
    by_cases h0 : tcode a f m lat (nrm lon - nrm mid) = 0
    · have hF := sc_f ha hf (tcode_ok h0).1
      refine (sturned_ok g a f (nW f) m mid lon lat hF (nW_num hF).1 h0 w hl).mono ?_
      rintro e w' ⟨q, rfl, hq, hB⟩
      exact ⟨_, _, by rw [h0]; rfl, .inr ⟨h0, rfl, hq⟩, hB⟩
    · obtain ⟨i, hi⟩ : ∃ i, evOf g (tcode a f m lat (nrm lon - nrm mid)) = errV g i := by
        unfold evOf
        rw [if_neg h0]
        exact ⟨_, rfl⟩
      refine (sturned_no g a f m i mid lon lat hi w hl).mono ?_
      rintro e w' ⟨rfl, hB⟩
      exact ⟨0, 0, by rw [hi], .inl ⟨h0, rfl, rfl⟩, hB⟩
  ness := fun w => by
    by_cases h0 : tcode a f m lat (nrm lon - nrm mid) = 0
    · have hF := sc_f ha hf (tcode_ok h0).1
      refine (turnedness_ok a f m mid lon lat hF h0 w).mono ?_
      rintro e w' ⟨t, v, rfl, ht, hv, hB⟩
      exact ⟨_, _, _, _, by rw [h0]; rfl, fun _ => ⟨rfl, rfl, ht, hv⟩, hB⟩
    · refine (turnedness_no a f m mid lon lat h0 w).mono ?_
      rintro e w' ⟨rfl, hB⟩
      exact ⟨0, 0, 0, 0, rfl, fun h => absurd h h0, hB⟩
  on := fun h0 t d u v h w => by
    obtain ⟨rfl, rfl, ht, hv⟩ := h h0
    have hF := sc_f ha hf (tcode_ok h0).1
    exact onStrip_ok a f (nW f) m t v mid _ _ _ (nW_num hF).1 hv.1 hv.2 w
  tof := fun h0 t d u v h w => by
    obtain ⟨rfl, rfl, ht, hv⟩ := h h0
    have hF := sc_f ha hf (tcode_ok h0).1
    obtain ⟨n1, n2, n3⟩ := nW_num hF
    rw [tur_same n2 n3]
    exact turnedOf_ok a f (nW f) m t v mid lon lat _ _ _ _ hF n1 ht hv.1 w
  same := fun h0 x y x' y' h hx hy => by
    have hF := sc_f ha hf (tcode_ok h0).1
    obtain ⟨n1, n2, n3⟩ := nW_num hF
    rcases h with ⟨h, _⟩ | ⟨_, p, q, rfl, rfl, hp, hq⟩
    · exact absurd h0 h
    · rw [srO_uz n3] at hp hq
      exact ⟨fun w => same_sim (oM_sim (Sim.refl _) (ripO_sim snI_sim (Sim.refl _) (aS_sim n2 n3) rfl _)) hp.1 hx.1 w, fun w => same_sim (oM_sim (Sim.refl _) (ripO_sim snR_sim (Sim.refl _) (aS_sim n2 n3) rfl _)) hq.1 hy.1 w⟩
  sameT := fun h0 q t q' h hq => by
    have hF := sc_f ha hf (tcode_ok h0).1
    obtain ⟨n1, n2, n3⟩ := nW_num hF
    rcases h with ⟨h, _⟩ | ⟨_, ht, hp⟩
    · exact absurd h0 h
    · have ho := (tcode_ok h0).2
      unfold offS at ho
      rw [sc_same n2 n3 lat _ (by omega) (by omega)] at hp
      exact ⟨fun w => same_got hp.1 hq.1 w, ht⟩
  zero := fun h0 x y h => by
    rcases h with ⟨_, h⟩ | ⟨h, _⟩
    · exact h
    · exact absurd h h0
  zeroT := fun h0 q t h => by
    rcases h with ⟨_, h⟩ | ⟨h, _⟩
    · exact h
    · exact absurd h h0
theorem waveTo_walk (g : Nat → Addr) (a f m : Nat) (mid lon lat : Int) (ha : a < 18446744073709551616) (hf : f < 18446744073709551616) (w : World) (hl : Laid w g) : Calls Tryz.prog 3 #[sV a f mid m, pV2 lon lat] w fun e w' => e = .returned (.bool true) ∧ Gr w w' :=
  waveTo_gen (hid (waveTo_facts g a f m mid lon lat ha hf)) w hl
end Go.Proofs.YtinopkmcddjgdaaGreatDoor
