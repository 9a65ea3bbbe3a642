/-
  The vectors' words; Cross and CrossOf as words.
-/
import Derived.Test.YtmiamfnnccjmeabDoorGpW
import Derived.Test.YtmiamfnnccjmeabDoorGpN
namespace Go.Proofs.YtmiamfnnccjmeabDoor
open Go.RowKit FB
attribute [local go_sem] run_store_float

/-- What a valid globe's words are. -/
structure GOK (a f : Nat) : Prop where
  la : Le 1053 a
  wf : Wd 4598175219545276416 f
  lf : Le 1021 f
theorem gok_of {a f : Nat} (ha : a < 18446744073709551616) (hf : f < 18446744073709551616) (h : okG a f = true) : GOK a f := by
  obtain ⟨h1, h2, h3, h4, h5⟩ := okG_le ha hf h
  refine ⟨h1, ⟨hf, ?_⟩, h2⟩
  have := h2.2
  omega
/-- The radius across the meridian at a latitude. -/
def nW (a f : Nat) (n : Int) : Nat := crW a f (sinV (nrm n))
theorem n_ok {a f : Nat} (h : GOK a f) (n : Int) : crO a f (sinV (nrm n)) = some (nW a f n) ∧ Le 1615 (nW a f n) := by
  obtain ⟨h0, h1⟩ := nrm_lt n
  exact cr_ok h.la h.wf h.lf (sin_wd _ h0 h1).1 (sinV_le _ h0 h1).1
theorem cross_w (a f : Nat) (n : Int) (h : GOK a f) (w : World) : Calls Tryd.prog 13 #[.agg #[.float .f64 a, .float .f64 f], .int .i64 n] w fun e w' => e = .returned (.float .f64 (nW a f n)) ∧ Below w.heap.size w w' := by
  refine (cross_any a f n h.lf w).mono ?_
  rintro e w' ⟨r, rfl, hr, hB⟩
  rw [(n_ok h n).1] at hr
  obtain rfl : r = _ := hr
  exact ⟨rfl, hB⟩
theorem crossOf_w (a f : Nat) (n : Int) (h : GOK a f) (w : World) : Calls Tryd.prog 14 #[.agg #[.float .f64 a, .float .f64 f], .int .i64 n] w fun e w' => e = .returned (.float .f64 (nW a f n)) ∧ Below w.heap.size w w' := by
  refine (crossOf_any a f n h.lf w).mono ?_
  rintro e w' ⟨r, rfl, hr, hB⟩
  rw [(n_ok h n).1] at hr
  obtain rfl : r = _ := hr
  exact ⟨rfl, hB⟩
theorem e1_le {f : Nat} (hf : Le 1021 f) : Le 1029 (e1Of f) := FS_le (k := 1027) ⟨by decide, by decide⟩ (e_le hf) (by decide) (by decide)
/-- The vector's words, the sines and cosines as they are handed in. -/
def dW (a f h : Nat) (lat : Int) (c : Nat) : Nat := FM (FA (nW a f lat) h) c
def uW (a f h : Nat) (lat : Int) : Nat := FA (FM (nW a f lat) (e1Of f)) h
theorem high_le {h : Nat} (hw : h < 18446744073709551616) (hi : inB 13935002356576944128 4741671816366391296 h = true) : Le 1053 h := by
  obtain ⟨n1, a1, a2⟩ := in_key hw ⟨by decide, by decide⟩ ⟨by decide, by decide⟩ hi
  have c1 : key 13935002356576944128 = -4711630319722168320 := by decide
  have c2 : key 4741671816366391296 = 4741671816366391296 := rfl
  exact le_of_key n1 (by omega)
theorem vec_eqs {a f h : Nat} (lat : Int) (g : GOK a f) (hh : Le 1053 h) (c d s : Nat) (hc : Le 1136 c) (hd : Le 1136 d) (hs : Le 1136 s) :
    Ieee.double.add (nW a f lat) h = some (FA (nW a f lat) h) ∧ Ieee.double.mul (FA (nW a f lat) h) c = some (dW a f h lat c) ∧ Ieee.double.mul (dW a f h lat c) d = some (FM (dW a f h lat c) d) ∧ Ieee.double.mul (nW a f lat) (e1Of f) = some (FM (nW a f lat) (e1Of f)) ∧ Ieee.double.add (FM (nW a f lat) (e1Of f)) h = some (uW a f h lat) ∧ Ieee.double.mul (uW a f h lat) s = some (FM (uW a f h lat) s) ∧ Num (FA (nW a f lat) h) ∧ Num (dW a f h lat c) ∧ Num (uW a f h lat) := by
  have hn := (n_ok g lat).2
  have h1 : Le 1617 (FA (nW a f lat) h) := FA_le hn (hh.mono (by decide)) (by decide) (by decide)
  have h2 : Le 1732 (dW a f h lat c) := FM_le h1 hc (by decide) (by decide) (by decide) (by decide) _ (by decide) (by decide) (by decide)
  have h3 : Le 1624 (FM (nW a f lat) (e1Of f)) := FM_le hn (e1_le g.lf) (by decide) (by decide) (by decide) (by decide) _ (by decide) (by decide) (by decide)
  have h4 : Le 1626 (uW a f h lat) := FA_le h3 (hh.mono (by decide)) (by decide) (by decide)
  have nn := hn.num (by decide) (by decide)
  have nh := hh.num (by decide) (by decide)
  have n1 := h1.num (by decide) (by decide)
  have n2 := h2.num (by decide) (by decide)
  have n3 := h3.num (by decide) (by decide)
  have n4 := h4.num (by decide) (by decide)
  exact ⟨add_num nn nh, mul_num n1 (hc.num (by decide) (by decide)), mul_num n2 (hd.num (by decide) (by decide)), mul_num nn ((e1_le g.lf).num (by decide) (by decide)), add_num n3 nh, mul_num n4 (hs.num (by decide) (by decide)), n1, n2, n4⟩
theorem FM_z {u u' v v' : Nat} (h1 : Num u) (h1' : Num u') (h2 : Num v) (h2' : Num v') (hu : SameZ u u') (hv : SameZ v v') : SameZ (FM u v) (FM u' v') := by
  have h := mul_sim hu hv
  rw [mul_num h1 h2, mul_num h1' h2'] at h
  rcases h with ⟨h, _⟩ | ⟨r, q, e1, e2, hz⟩
  · cases h
  · rw [Option.some.inj e1, Option.some.inj e2]; exact hz
end Go.Proofs.YtmiamfnnccjmeabDoor
