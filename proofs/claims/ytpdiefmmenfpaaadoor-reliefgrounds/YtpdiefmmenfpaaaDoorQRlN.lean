/-
  ReliefGrounds of any arguments; what lies in memory of a raster that the law is handed.
-/
import Derived.Test.YtpdiefmmenfpaaaDoorQRlJ
import Derived.Test.YtpdiefmmenfpaaaDoorQRlK
import Derived.Test.YtpdiefmmenfpaaaDoorQRlL
import Derived.Test.YtpdiefmmenfpaaaDoorQRlM
import Derived.Test.YtpdiefmmenfpaaaDoorQRlO
namespace Go.Proofs.YtpdiefmmenfpaaaDoor
open Go.RowKit

set_option maxRecDepth 4000 in
set_option maxHeartbeats 4000000 in
theorem reliefGrounds_no (g : Nat → Addr) (x y x2 y2 p : Int) (u : Value) (s : Bool) (w : World) (hl : Laid w g) (h1 : ∀ W, Gr w W → Calls Tryd.prog 8 #[u] W fun e w' => e = .returned (.bool s) ∧ w' = W) (hs : s = false ∨ 60 < p ∧ p ≤ 4000) : Calls Tryd.prog 3 #[u, spV x y, spV x2 y2, .int .i64 p] w fun e w' => e = .returned (.bool true) ∧ Gr w w' := by
  have F := hidb (LF.new w (.int .i64 x) (.int .i64 y) (.int .i64 x2) (.int .i64 y2) 24 24)
  have CR := hidb (grounded_any g _ (hl.below F.out.gr.out))
  have S1 := hidb h1
  clear hl h1
  cases s
  · clear hs
    go_enter Tryd.func3, Tryd.ntmps3
    go_wp2_with fail
    refine CR.out.mono ?_
    rintro e w1 ⟨rfl, hB⟩
    have E := hidb (F.out.below hB.out)
    clear hB F CR
    go_wp2_with fail
    refine (S1.out _ E.out.gr).mono ?_
    rintro e w2 ⟨rfl, rfl⟩
    go_wp2
    go_ret
    exact ⟨rfl, E.out.gr⟩
  · obtain ⟨hp1, hp2⟩ : 60 < p ∧ p ≤ 4000 := hs.resolve_left (by decide)
    clear hs
    go_enter Tryd.func3, Tryd.ntmps3
    go_wp2_with fail
    refine CR.out.mono ?_
    rintro e w1 ⟨rfl, hB⟩
    have E := hidb (F.out.below hB.out)
    clear hB F CR
    go_wp2_with fail
    refine (S1.out _ E.out.gr).mono ?_
    rintro e w2 ⟨rfl, rfl⟩
    go_wp2
    go_ret
    exact ⟨rfl, E.out.gr⟩
theorem reliefGrounds_law (g : Nat → Addr) (x y x2 y2 p : Int) (a : Option Addr) (w : World) (hl : Laid w g) (ha : RArg w a) (yb : -9223372036854775808 ≤ y ∧ y ≤ 9223372036854775807) (yb2 : -9223372036854775808 ≤ y2 ∧ y2 ≤ 9223372036854775807) : Calls Tryd.prog 3 #[.pointer a, spV x y, spV x2 y2, .int .i64 p] w fun e w' => e = .returned (.bool true) ∧ Gr w w' := by
  obtain ⟨s, c1, k1⟩ := small_arg ha
  by_cases hs : s = false ∨ 60 < p ∧ p ≤ 4000
  · exact reliefGrounds_no g x y x2 y2 p _ s w hl c1 hs
  · obtain ⟨pb, po, W, H, sd, b, o, cap, l, rfl, ra, hcap, ll⟩ := k1 (by cases s <;> simp_all)
    by_cases hv : vcode W H l = 0
    · obtain ⟨m, n, rfl, rfl, ok⟩ := ok_of hv
      obtain ⟨rfl, rs⟩ := hcap (by intro e; have h0 := ok.len; rw [e] at h0; have h3 := Nat.mul_le_mul ok.m1 ok.n1; omega)
      by_cases hp : p < 1
      · by_cases h1 : onI m n x y = true
        · exact reliefGrounds_B10 g x y x2 y2 p w hl ra.pt rs ok hv ll yb yb2 h1 hp
        · exact reliefGrounds_B00 g x y x2 y2 p w hl ra.pt rs ok hv ll yb yb2 (by simpa using h1) hp
      · by_cases hp2 : 4000 < p
        · by_cases h1 : onI m n x y = true
          · exact reliefGrounds_B11 g x y x2 y2 p w hl ra.pt rs ok hv ll yb yb2 h1 hp2
          · exact reliefGrounds_B01 g x y x2 y2 p w hl ra.pt rs ok hv ll yb yb2 (by simpa using h1) hp2
        · by_cases h1 : onI m n x y = true
          · by_cases h2 : onI m n x2 y2 = true
            · exact reliefGrounds_D g x y x2 y2 p p.toNat w hl ra.pt rs ok hv ll h1 h2 (by omega) (by omega) (by omega)
            · exact reliefGrounds_C1 g x y x2 y2 p w hl ra.pt rs ok hv ll yb yb2 h1 (by simpa using h2) (by omega) (by omega)
          · exact reliefGrounds_C0 g x y x2 y2 p w hl ra.pt rs ok hv ll yb yb2 (by simpa using h1) (by omega) (by omega)
    · by_cases hp : 60 < p
      · exact reliefGrounds_A1 g x y x2 y2 p w hl ra ll hp (by omega) hv
      · exact reliefGrounds_A0 g x y x2 y2 p w hl ra ll hp hv
end Go.Proofs.YtpdiefmmenfpaaaDoor
