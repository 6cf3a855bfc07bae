/- CONTRACTS OF PACKAGE kind: FromInt to FromDate, own, FromList, Kind. -/
import Derived.Test.YtfmfeagfinnmmabThK
import Derived.Lib.QuietBelow
namespace Go.Proofs.Ytfmfeagfinnmmab
open Go.RowKit
open Vl (T)
open Mem Tg

/-- a Thing as it is handed over -/
def tv (v : Value) : Value := .agg #[v]
theorem store_at {u : World} {a : Addr} {x z : Value} (hc : u.cell? a = some x) (hf : u.frozen? a = false) (hz : z.oneCell' = true) : (store a z).run Try.prog u = .ok () (u.setCell a z) := by
  rw [run_store _ _ _ _ _ hz, hc, hf]
  rfl
theorem store_fresh (u : World) (z : Value) (hz : z.oneCell' = true) : (store ⟨u.heap.size, 0, none⟩ z).run Try.prog (u.alloc (.cells #[.nilIface] 26)) = .ok () (u.alloc (.cells #[z] 26)) := by
  rw [store_at (x := .nilIface) (by simp [go_sem]) (by simp [go_sem]) hz]
  simp [go_sem]
theorem from_int (n : Int) (w0 w : World) (hw : Below w0.heap.size w0 w) :
    Calls Try.prog 14 #[.int .i64 n] w fun e w' => e = .returned (tv (.iface 64 (.int .i64 n))) ∧ Below w0.heap.size w0 w' := by
  have HW := Lib.hid hw
  clear hw
  go_enter Try.func14, Try.ntmps14
  go_wp2_with fail
  exact bodyPost_ret (v := tv (.iface 64 (.int .i64 n))) (by simp [results, tv, Try.results14, go_sem]) rfl ⟨rfl, below_box HW.out _⟩
theorem from_text (s : ByteArray) (w0 w : World) (hw : Below w0.heap.size w0 w) :
    Calls Try.prog 8 #[.string s] w fun e w' => e = .returned (tv (.iface 60 (.string s))) ∧ Below w0.heap.size w0 w' := by
  have HW := Lib.hid hw
  clear hw
  go_enter Try.func8, Try.ntmps8
  go_wp2_with fail
  exact bodyPost_ret (v := tv (.iface 60 (.string s))) (by simp [results, tv, Try.results8, go_sem]) rfl ⟨rfl, below_box HW.out _⟩
theorem from_flag (b : Bool) (w0 w : World) (hw : Below w0.heap.size w0 w) :
    Calls Try.prog 31 #[.bool b] w fun e w' => e = .returned (tv (.iface 67 (.bool b))) ∧ Below w0.heap.size w0 w' := by
  have HW := Lib.hid hw
  clear hw
  go_enter Try.func31, Try.ntmps31
  go_wp2_with fail
  exact bodyPost_ret (v := tv (.iface 67 (.bool b))) (by simp [results, tv, Try.results31, go_sem]) rfl ⟨rfl, below_box HW.out _⟩
theorem from_date (y m d : Int) (w0 w : World) (hw : Below w0.heap.size w0 w) :
    Calls Try.prog 32 #[.agg #[.int .i64 y, .int .i64 m, .int .i64 d]] w fun e w' => e = .returned (tv (.iface 68 (.agg #[.int .i64 y, .int .i64 m, .int .i64 d]))) ∧ Below w0.heap.size w0 w' := by
  have HW := Lib.hid hw
  clear hw
  go_enter Try.func32, Try.ntmps32
  go_wp2_with fail
  exact bodyPost_ret (v := tv (.iface 68 (.agg #[.int .i64 y, .int .i64 m, .int .i64 d]))) (by simp [results, tv, Try.results32, go_sem]) rfl ⟨rfl, below_box (below_box HW.out _) _⟩
theorem kind_own (ao : Option Addr) (n cap : Nat) (A : Nat → Prop) (vs : List Value) (w0 w : World) (hw : Below w0.heap.size w0 w) (hn : n = vs.length) (hn9 : n ≤ 100000) (hs : SegV A w ao vs) (h1 : ∀ v ∈ vs, v.oneCell' = true) :
    Calls Try.prog 20 #[.slice ao n cap] w fun e w' => e = .returned (.slice (some ⟨w.heap.size, 0, none⟩) n n) ∧ Block w' w.heap.size vs ∧ Below w.heap.size w w' ∧ Below w0.heap.size w0 w' := by
  have HW := Lib.hid hw
  have hmk := make n hn9
  have hB1 : Below w.heap.size w (w.alloc (.cells (zeros n) 26)) := (Below.refl _ _).alloc (Nat.le_refl _) _
  have hs' : SegV A (w.alloc (.cells (zeros n) 26)) ao vs := hs.frame (fun _ _ _ _ e => by rw [(bcell hB1).1 _ _ (cell_lt e)]; exact e) (fun _ _ _ _ a => a)
  obtain ⟨u', hcp, hblk, hbel, hsz⟩ := copy (w.alloc (.cells (zeros n) 26)) w.heap.size ao n cap A vs (block_made w n) hn hs' h1
  have HB := Lib.hid hblk
  have HB1 := Lib.hid (hbel _ _ hB1 (Nat.le_refl _))
  clear hw hn hs hs' h1 hblk hbel hB1 hsz
  go_enter Try.func20, Try.ntmps20
  go_wp2_with fail
  go_ret
  exact ⟨rfl, HB.out, HB1.out, bchain HW.out HB1.out⟩
end Go.Proofs.Ytfmfeagfinnmmab
