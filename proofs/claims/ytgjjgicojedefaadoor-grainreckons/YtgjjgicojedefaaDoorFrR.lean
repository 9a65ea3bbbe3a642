/-
  math/bits.Len64, LeadingZeros64, Div64, Rem64: Go's own text is walked.
-/
import Derived.Test.YtgjjgicojedefaaDoorFrQ
import Derived.Test.YtgjjgicojedefaaDoorFrE
import Derived.Lib.BitFns
import Derived.Lib.ItoaNum
namespace Go.Proofs.YtgjjgicojedefaaDoor
open Go.RowKit BG

set_option maxRecDepth 100000 in
theorem tab_size : Lib.len8tab.size = 256 := by decide +kernel
theorem tab_get {b : Int} (h : b.toNat < Lib.len8tab.size) (h0 : 0 ≤ b) (h1 : b ≤ 255) : ((Lib.len8tab[b.toNat]'h).toNat : Int) = (Lib.bitLen b.toNat : Int) := by
  have e : Lib.len8 b = (Lib.bitLen b.toNat : Int) := by
    have := Lib.len8_eq ⟨b.toNat, by omega⟩
    simp only [Int.toNat_of_nonneg h0] at this
    exact this
  rw [← e]
  unfold Lib.len8
  rw [getElem?_pos Lib.len8tab b.toNat h]
  rfl
theorem len_fin {k : Nat} {kk x b : Int} (hkk : kk = k) (hk : k ≤ 56) (hb : b.toNat = x.toNat / 2 ^ k) (hx : 2 ^ k ≤ x.toNat) (hx2 : x.toNat < 2 ^ 64) (h0 : 0 ≤ b) (h1 : b ≤ 255) (h : b.toNat < Lib.len8tab.size) : wrap64 (kk + wrap64 ((Lib.len8tab[b.toNat]'h).toNat : Int)) = (Lib.bitLen x.toNat : Int) := by
  have l : Lib.bitLen b.toNat ≤ 8 := Lib.bitLen_le8 ⟨b.toNat, by omega⟩
  have s := Lib.bitLen_shift k x.toNat hx hx2
  rw [← hb] at s
  have e := tab_get h h0 h1
  clear hx hx2 hb
  generalize ((Lib.len8tab[b.toNat]'h).toNat : Int) = T at *
  generalize Lib.bitLen b.toNat = B at *
  generalize Lib.bitLen x.toNat = X at *
  unfold wrap64
  omega
theorem len_fin0 {x : Int} (h0 : 0 ≤ x) (h1 : x ≤ 255) (h : x.toNat < Lib.len8tab.size) : wrap64 (wrap64 ((Lib.len8tab[x.toNat]'h).toNat : Int)) = (Lib.bitLen x.toNat : Int) := by
  rw [tab_get h h0 h1]
  have l : Lib.bitLen x.toNat ≤ 8 := Lib.bitLen_le8 ⟨x.toNat, by omega⟩
  unfold wrap64
  omega
end Go.Proofs.YtgjjgicojedefaaDoor
