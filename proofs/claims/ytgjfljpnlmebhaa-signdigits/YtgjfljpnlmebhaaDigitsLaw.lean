/- THE WALK OF SignDigits. -/
import Derived.Test.YtgjfljpnlmebhaaSRuns
import Derived.Test.YtgjfljpnlmebhaaRefDigits
namespace Go.Proofs.Ytgjfljpnlmebhaa
open Go.RowKit

set_option maxHeartbeats 2000000 in
theorem signDigits_walk (s : ByteArray) (w : World) (hs : s.data.toList.length ≤ reachBytes) :
    Calls Try.prog 6 #[.string s] w fun e w' => e = .returned (.bool true) ∧ Below w.heap.size w w' := by
  have hs' : s.size ≤ 140737488355328 := fits hs
  go_enter Try.func6, Try.ntmps6
  go_wp2_with fail
  refine (digits_any s _ hs').mono ?_
  unfold told
  rintro e w1 ⟨rfl, b1⟩
  have HB1 : Hid (Below _ _ w1) := b1
  clear b1
  go_wp2_with fail
  refine (refDigits_any s _ hs').mono ?_
  unfold told
  rintro e w2 ⟨rfl, b2⟩
  have HB2 : Hid (Below _ _ w2) := HB1.out.trans (b2.mono HB1.out.size)
  clear b2 HB1
  go_wp2_with fail
  refine (runs_any _).mono ?_
  rintro e w3 ⟨rfl, b3⟩
  have HB3 : Hid (Below _ _ w3) := HB2.out.trans (b3.mono HB2.out.size)
  clear b3 HB2
  go_wp2_with fail
  go_ret
  exact ⟨rfl, HB3.out⟩
end Go.Proofs.Ytgjfljpnlmebhaa
