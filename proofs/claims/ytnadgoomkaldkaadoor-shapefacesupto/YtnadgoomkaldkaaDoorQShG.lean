/-
  ShapeTurned: the law by its ways.
-/
import Derived.Test.YtnadgoomkaldkaaDoorQShF
namespace Go.Proofs.YtnadgoomkaldkaaDoor
open Go.RowKit
attribute [local go_sem ↓] Go.wp_at_zero Go.wp_at_succ

/-- A slice of points that the law is handed. -/
def SArg (w : World) (ad : Option Addr) (n cap : Nat) : Prop := ∃ (b o : Nat) (l : List Sp), l.length = n ∧ SSl w ad b o cap l
/-- What lies in memory when both rings are made. -/
structure LE (w W : World) (B : Nat) (p z : Sp) (ad : Option Addr) (b o cap : Nat) (l : List Sp) (ad1 : Option Addr) (b1 cap1 : Nat) (R : List Sp) (ad2 : Option Addr) (b2 cap2 : Nat) (M : List Sp) : Prop where
  p : At W w.heap.size (sc p)
  z : At W B (sc z)
  s : SSl W ad b o cap l
  r : SSl W ad1 b1 0 cap1 R
  m : SSl W ad2 b2 0 cap2 M
  gr : Gr w W
theorem LE.below {w W w' : World} {B : Nat} {p z : Sp} {ad : Option Addr} {b o cap : Nat} {l : List Sp} {ad1 : Option Addr} {b1 cap1 : Nat} {R : List Sp} {ad2 : Option Addr} {b2 cap2 : Nat} {M : List Sp} (h : LE w W B p z ad b o cap l ad1 b1 cap1 R ad2 b2 cap2 M) (hB : Below W.heap.size W w') : LE w w' B p z ad b o cap l ad1 b1 cap1 R ad2 b2 cap2 M :=
  ⟨At.below hB h.p, At.below hB h.z, h.s.below hB, h.r.below hB, h.m.below hB, Gr.step h.gr hB⟩
theorem eg_bd {l : List Sp} (h : rcd l = 0) (h30 : l.length ≤ 30) : -9223372036854775807 ≤ sw (eg l) ∧ sw (eg l) ≤ 9223372036854775807 := by
  obtain ⟨_, hr⟩ := rcd_ok h
  have h3 := hr.1
  have := sw_bd (eg l) (eg_ok (rg_ok hr) (by omega))
  rw [eg_len (by omega)] at this
  omega
/-- The first i points, turned around, moved. -/
def rvK (l : List Sp) (i : Nat) : List Sp := (List.range i).map fun j => sx l (l.length - 1 - j)
def mvK (d : Sp) (k : Nat) (l : List Sp) (i : Nat) : List Sp := (List.range i).map fun j => mv d (sx l ((j + k) % l.length))
theorem rvK_succ (l : List Sp) (i : Nat) : rvK l (i + 1) = rvK l i ++ [sx l (l.length - 1 - i)] := by simp [rvK, List.range_succ]
theorem mvK_succ (d : Sp) (k : Nat) (l : List Sp) (i : Nat) : mvK d k l (i + 1) = mvK d k l i ++ [mv d (sx l ((i + k) % l.length))] := by simp [mvK, List.range_succ]
theorem rvK_len (l : List Sp) (i : Nat) : (rvK l i).length = i := by simp [rvK]
theorem mvK_len (d : Sp) (k : Nat) (l : List Sp) (i : Nat) : (mvK d k l i).length = i := by simp [mvK]
end Go.Proofs.YtnadgoomkaldkaaDoor
