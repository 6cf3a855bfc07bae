/- THE DOCUMENT's OWN DISK: make. -/
import Derived.Test.YtegniklofhopeaaYDpDrDm
import Derived.Test.YtegniklofhopeaaYDpDrDe
namespace Go.Proofs.Ytegniklofhopeaa
open Go.RowKit
open Mem Dk
theorem dr_make {P : Nat → Prop} {w : World} {p : Nat} {d : D} {v : Sl} {rs : List Rq.T} (h : Dr.At P w p d v rs) (s : ByteArray) (hs : s.size ≤ 24) (hh : has s d.fs = false) (few : d.fs.length < 1000) :
  Calls Try.prog 45 #[.pointer (some ⟨p,0,none⟩),.string s] w fun e w' => e = .returned (.int .i64 (Dk.spot s d.fs : Nat)) ∧ (∃ v' rs',Dr.At (nw P w) w' p ⟨ins ⟨s,[],0⟩ d.fs,d.off,d.left⟩ v' rs' ∧ ∀ g,(sl v').ownBlock = some g → w.heap.size ≤ g) ∧ UpdQ (fun b => b = p) w w' := by
 by_cases q : Dk.spot s d.fs < d.fs.length
 · exact dr_make_mid h s hs hh few q
 · exact dr_make_end h s hs hh few (Nat.le_antisymm (spot_le _ _) (Nat.le_of_not_lt q))
end Go.Proofs.Ytegniklofhopeaa
