/-
  The statement on servers' names, types and events' names, walked.
-/
import Derived.Test.YtfblafpcdlmbjaaEvent
namespace Go.Proofs.Ytfblafpcdlmbjaa
open Go.RowKit

set_option maxHeartbeats 1000000 in
theorem identNames_any (s : ByteArray) (w : World) (hs : s.size ≤ 140737488351232) :
    Calls Try.prog 4 #[.string s] w fun e w' => e = .returned (.bool true) ∧ Below w.heap.size w w' := by
  by_cases hl : 1000 < s.size
  · go_enter Try.func4, Try.ntmps4
    go_wp2
    go_ret
    exact ⟨rfl, Below.refl _ _⟩
  · go_enter Try.func4, Try.ntmps4
    go_wp2_with (first
      | (go_at_call 14; refine (server_any s _ hs).mono ?_; rintro e w1 ⟨rfl, hb1⟩)
      | (go_at_call 15; refine (refServer_any s _ hs).mono ?_; rintro e w' ⟨rfl, rfl⟩)
      | (go_at_call 16; refine (type_any s _ hs).mono ?_; rintro e w2 ⟨rfl, hb2⟩)
      | (go_at_call 17; refine (refType_any s _ hs).mono ?_; rintro e w' ⟨rfl, rfl⟩)
      | (go_at_call 18; refine (event_any s _ hs).mono ?_; rintro e w3 ⟨rfl, hb3⟩)
      | (go_at_call 19; refine (refEvent_any s _).mono ?_; rintro e w4 ⟨rfl, hb4⟩)
      | (go_at_call 13; refine (awake_any _).mono ?_; rintro e w5 ⟨rfl, hb5⟩))
    go_ret
    have c2 := hb1.trans (hb2.mono hb1.size)
    have c3 := c2.trans (hb3.mono c2.size)
    have c4 := c3.trans (hb4.mono c3.size)
    exact ⟨rfl, c4.trans (hb5.mono c4.size)⟩
end Go.Proofs.Ytfblafpcdlmbjaa
