/- TEXTS, as the contracts speak of them (no table of the library beside). -/
import Derived.Test.YtnelakpagjdcdaaPlain
import Derived.Lib.OthersKept
import Derived.Laws.Strings3
import Derived.Laws.Runes
import Derived.Laws.Concat
import Derived.Deep.RegionHeld3
namespace Go.Proofs.Ytnelakpagjdcdaa
open Go.RowKit

def txt (s : ByteArray) : List UInt8 := s.data.toList
theorem txt_len (s : ByteArray) : (txt s).length = s.size := Array.length_toList
theorem txt_ext {s t : ByteArray} (h : txt s = txt t) : s = t := by
  cases s; cases t
  simp only [txt] at h
  exact congrArg ByteArray.mk (Array.toList_inj.1 h)
theorem ret_str {a b : ByteArray} (h : a = b) : Ending.returned (.string a) = .returned (.string b) := by rw [h]
theorem tl (s : ByteArray) : s.toList = txt s := ByteArray.toList_eq s
theorem size_mk (l : List UInt8) : (ByteArray.mk l.toArray).size = l.length := rfl
theorem txt_mk (l : List UInt8) : txt (ByteArray.mk l.toArray) = l := rfl
theorem mk_txt (s : ByteArray) : s = ⟨(txt s).toArray⟩ := rfl
theorem fits {s : ByteArray} (h : s.data.toList.length ≤ reachBytes) : s.size ≤ 140737488355328 := by
  have h1 := txt_len s
  unfold txt at h1
  unfold reachBytes at h
  omega
theorem txt_app (a b : ByteArray) : txt (a ++ b) = txt a ++ txt b := by simp [txt, ByteArray.data_append]
theorem add_run (a b : ByteArray) (h : a.size + b.size ≤ 9223372036854775807) : ∃ t, a ++ b = t ∧ txt t = txt a ++ txt b ∧ t.size = a.size + b.size ∧ ∀ u, (Op.stringOp .add a b).run Try.prog u = .ok (.string t) u :=
  ⟨_, rfl, txt_app a b, by simp, fun u => run_string_add_sum u a b h⟩
theorem add_lists (a b : List UInt8) (h : a.length + b.length ≤ 100) : ∀ u, (Op.stringOp .add ⟨a.toArray⟩ ⟨b.toArray⟩).run Try.prog u = .ok (.string ⟨(a ++ b).toArray⟩) u := by
  intro u
  rw [run_string_add_sum u _ _ (by rw [size_mk, size_mk]; omega), ByteArray.mk_append_mk]
end Go.Proofs.Ytnelakpagjdcdaa
