/-
  FixNearest of any arguments.
-/
import Derived.Test.YtehkonddgiakaaaDoorQJ8
import Derived.Test.YtehkonddgiakaaaDoorQFnG5
namespace Go.Proofs.YtehkonddgiakaaaDoor
open Go.RowKit

set_option maxRecDepth 4000 in
set_option maxHeartbeats 4000000 in
theorem fixNearest_long (g : Nat → Addr) (ad : Option Addr) (n cap : Nat) (a b c d x y mi : Int) (w : World) (hl : Laid w g) (hn : 70 < n) : Calls Tryd.prog 4 #[.slice ad n cap, boV a b c d, spV x y, .int .i64 mi] w fun e w' => e = .returned (.bool true) ∧ Gr w w' := by
  have P := hidb (PvP.new w a b c d x y 47 45)
  have CF := hidb (fun W (hG : Gr w W) => fixes_any g W (hl.below hG.out))
  have hn' : 70 < (n : Int) := by omega
  clear hl hn
  go_enter Tryd.func4, Tryd.ntmps4
  go_wp2_with fail
  refine (CF.out _ P.out.gr).mono ?_
  rintro e w1 ⟨rfl, hB⟩
  replace P := hidb (P.out.below hB.out)
  clear hB
  go_wp2
  go_ret
  exact ⟨rfl, P.out.gr⟩
theorem fixNearest_law (g : Nat → Addr) (ad : Option Addr) (b0 o cap : Nat) (l : List Rg) (a b c d x y mi : Int) (w : World) (hl : Laid w g) (h : RSo w ad b0 o cap l) : Calls Tryd.prog 4 #[.slice ad l.length cap, boV a b c d, spV x y, .int .i64 mi] w fun e w' => e = .returned (.bool true) ∧ Gr w w' := by
  by_cases ll : l.length ≤ 70
  · rcases rerr_cases g l with ⟨hr, hrc, hok⟩ | ⟨i, hi, hr, hrc⟩
    · by_cases hb : okB a b c d = true
      · by_cases hc : 100000 < cnt a b c d
        · exact fixNearest_3 g ad b0 o cap l a b c d x y mi w hl h ll hr hrc hok hb hc
        · by_cases hc2 : 600 < cnt a b c d
          · exact fixNearest_4 g ad b0 o cap l a b c d x y mi w hl h ll hr hrc hok hb hc hc2
          · exact fixNearest_5 g ad b0 o cap l a b c d x y mi w hl h ll hr hrc hok hb hc hc2
      · exact fixNearest_2 g ad b0 o cap l a b c d x y mi w hl h ll hr hrc hok (by simpa using hb)
    · exact fixNearest_1 g ad b0 o cap l a b c d x y mi w hl h ll i hi hr hrc
  · exact fixNearest_long g ad l.length cap a b c d x y mi w hl (by omega)
end Go.Proofs.YtehkonddgiakaaaDoor
