/-
  container/heap's Push and Pop over the queue.
-/
import Derived.Test.YtmjlaonlhabblaaDoorQHqF
namespace Go.Proofs.YtmjlaonlhabblaaDoor
open Go.RowKit

set_option maxRecDepth 4000 in
set_option maxHeartbeats 8000000 in
theorem hpush_any {F base n : Nat} {a b c d e f v : Value} {q : List Wt} (p : Wt) (w : World) (hA : At w F [a, b, c, d, e, f, v]) (hO : w.ownsRow base 129 2 v n (qr q)) (hq : q.length = n) (hn : n ≤ 20000) (hF : F < base) (hb : base ≤ w.heap.size) (hp : Hp q n) : Calls Tryd.prog 70 #[.iface 127 (.pointer (some ⟨F, 6, none⟩)), .iface 129 (.agg #[.int .i64 p.1, .int .i64 (p.2 : Int)])] w fun r w' => r = .returned (.tuple #[]) ∧ ∃ g cap q', At w' F [a, b, c, d, e, f, .slice (some ⟨g, 0, none⟩) (n + 1) cap] ∧ OW w' base g cap q' ∧ q'.Perm (q ++ [p]) ∧ Hp q' (n + 1) ∧ Fr F v w w' ∧ (v.ownBlock = some g ∨ w.heap.size ≤ g) := by
  have HP := hidb (qpush_any p w hA hO hq hn hF hb)
  have mP := mPush ⟨F, 6, none⟩
  have HH : Hid (HUp (q ++ [p]) n) := by have := Hp.push (q := q) (by rw [hq]; exact hp) p; rw [hq] at this; exact this
  have HB := hidb (show q.length = n ∧ n ≤ 20000 ∧ F < base from ⟨hq, hn, hF⟩)
  have e1 : IntKind.i64.wrap (((n + 1 : Nat) : Int) - 1) = (n : Int) := by rw [show ((n + 1 : Nat) : Int) - 1 = (n : Int) by omega]; exact wrap_in (by omega) (by omega)
  clear hA hO hq hn hF hb hp
  go_enter Tryd.func70, Tryd.ntmps70
  go_wp2_with fail
  refine HP.out.mono ?_
  rintro r w1 ⟨rfl, g, cap, hA1, hO1, hF1, hg1⟩
  have mL := mLen _ _ _ hA1.c6.1
  have HU := hidb (up_any n w1 hA1 hO1 (by have := HB.out; simp; omega) HH.out (by have := HB.out; omega) HB.out.2.2)
  have HX := hidb (show At w1 F [a, b, c, d, e, f, .slice (some ⟨g, 0, none⟩) (n + 1) cap] ∧ Fr F v w w1 ∧ (v.ownBlock = some g ∨ w.heap.size ≤ g) ∧ F ≠ g from ⟨hA1, hF1, hg1, by have := hO1.lt; have := HB.out; omega⟩)
  generalize hnn : ((n + 1 : Nat) : Int) = nI at *
  clear hA1 hO1 hF1 hg1 HP mP
  go_wp2_with (first | (go_at_call 56; refine (len_any _ _ _ _).mono ?_; rintro r w9 ⟨rfl, rfl⟩) | fail)
  refine HU.out.mono ?_
  rintro r w2 ⟨rfl, q', hp', hh', hO', hN'⟩
  go_wp2
  refine bodyPost_end (results_none rfl _ _ _) rfl ⟨rfl, g, cap, q', ?_, hO', hp', ?_, ?_, HX.out.2.2.1⟩
  · exact HX.out.1.onl hN' HX.out.2.2.2
  · have := hp'.length_eq
    rw [this, List.length_append, HB.out.1] at hh'
    exact hh'
  · exact HX.out.2.1.trans (hN'.fr (F := F) (n := 0) (cap := 0)) (fun i hi => by
      have e : g = i := by simpa [Value.ownBlock] using hi
      rw [← e]; exact HX.out.2.2.1)
set_option maxRecDepth 4000 in
set_option maxHeartbeats 8000000 in
theorem hpop_any {F base g cap n : Nat} {a b c d e f : Value} {q : List Wt} (w : World) (hA : At w F [a, b, c, d, e, f, .slice (some ⟨g, 0, none⟩) (n + 1) cap]) (hO : OW w base g cap q) (hq : q.length = n + 1) (hn : n ≤ 20000) (hF : F < base) (hp : Hp q (n + 1)) : Calls Tryd.prog 71 #[.iface 127 (.pointer (some ⟨F, 6, none⟩))] w fun r w' => r = .returned (.iface 129 (.agg #[.int .i64 (wx q 0).1, .int .i64 ((wx q 0).2 : Int)])) ∧ ∃ q', At w' F [a, b, c, d, e, f, .slice (some ⟨g, 0, none⟩) n cap] ∧ OW w' base g cap (q'.take n) ∧ q'.Perm q ∧ Hp q' n ∧ wx q' n = wx q 0 ∧ Fr F (.slice (some ⟨g, 0, none⟩) n cap) w w' := by
  have mL := mLen _ _ _ hA.c6.1
  have mS := mSwap _ _ _ hA.c6.1
  have HS := hidb (swap_any 0 n (n + 1) hq.symm (by omega) (by omega) w hO)
  have HP := hidb (Hp.pop hp hq)
  have HX := hidb (show At w F [a, b, c, d, e, f, .slice (some ⟨g, 0, none⟩) (n + 1) cap] ∧ F ≠ g ∧ F < base ∧ n ≤ 20000 ∧ q.length = n + 1 ∧ (wsw q 0 n).Perm q ∧ wx (wsw q 0 n) n = wx q 0 from ⟨hA, by have := hO.lt; omega, hF, hn, hq, wsw_perm (by omega) (by omega), by rw [wsw_wx (by omega) (by omega), if_pos rfl]⟩)
  have e1 : IntKind.i64.wrap (((n + 1 : Nat) : Int) - 1) = (n : Int) := by rw [show ((n + 1 : Nat) : Int) - 1 = (n : Int) by omega]; exact wrap_in (by omega) (by omega)
  have HL := hidb (fun w => len_any (some ⟨g, 0, none⟩) (n + 1) cap w)
  obtain ⟨root, hroot⟩ : ∃ z, z = wx q 0 := ⟨_, rfl⟩
  rw [← hroot] at HX ⊢
  generalize hnn : ((n + 1 : Nat) : Int) = nI at *
  clear hA hO hq hn hF hp hroot hnn
  go_enter Tryd.func71, Tryd.ntmps71
  go_wp2_with (first | (go_at_call 56; refine (HL.out _).mono ?_; rintro r w9 ⟨rfl, rfl⟩) | fail)
  refine HS.out.mono ?_
  rintro r w1 ⟨rfl, hO1, hN1⟩
  have hA1 := HX.out.1.onl hN1 HX.out.2.1
  have HD := hidb (down_any w1 hA1 hO1 (by rw [wsw_len]; have := HX.out; omega) HP.out (by have := HX.out; omega) HX.out.2.2.1)
  have HA1 := hidb hA1
  have HN1 := hidb hN1
  clear hA1 hO1 hN1 mL mS HS
  go_wp2_with fail
  refine HD.out.mono ?_
  rintro r w2 ⟨t, rfl, q2, hp2, hh2, hO2, hN2, hx2⟩
  have hl2 : q2.length = n + 1 := by rw [hp2.length_eq, wsw_len]; exact HX.out.2.2.2.2.1
  have HQ := hidb (qpop_any w2 (HA1.out.onl hN2 HX.out.2.1) hO2 hl2 HX.out.2.2.2.1 HX.out.2.2.1)
  have hr : wx q2 n = root := by rw [hx2 n (Nat.le_refl _)]; exact HX.out.2.2.2.2.2.2
  rw [hr] at HQ
  have HZ := hidb (show q2.Perm q ∧ Hp q2 n ∧ wx q2 n = root ∧ Fr F (.slice (some ⟨g, 0, none⟩) n cap) w9 w2 from ⟨hp2.trans HX.out.2.2.2.2.2.1, hh2, hr, (HN1.out.trans hN2).fr⟩)
  have mP := mPop ⟨F, 6, none⟩
  clear hp2 hh2 hO2 hN2 hx2 hl2 hr HD HA1 HN1
  go_wp2_with fail
  refine HQ.out.mono ?_
  rintro r w3 ⟨rfl, hA3, hO3, hN3⟩
  go_wp2
  go_ret
  exact ⟨rfl, q2, hA3, hO3, HZ.out.1, HZ.out.2.1, HZ.out.2.2.1, HZ.out.2.2.2.trans hN3.frF (fun i hi => .inl hi)⟩
end Go.Proofs.YtmjlaonlhabblaaDoor
