/- CONTRACTS OF PACKAGE kind: FromInt to FromDate, own, FromList, Kind. -/
import Derived.Test.YtfmfeagfinnmmaaThK
import Derived.Lib.QuietBelow
namespace Go.Proofs.Ytfmfeagfinnmmaa
open Go.RowKit
open Vl (T)
open Mem Tg

/-- a Thing as it is handed over -/
def tv (v : Value) : Value := .agg #[v]
theorem store_at {u : World} {a : Addr} {x z : Value} (hc : u.cell? a = some x) (hf : u.frozen? a = false) (hz : z.oneCell' = true) : (store a z).run Try.prog u = .ok () (u.setCell a z) := by
  rw [run_store _ _ _ _ _ hz, hc, hf]
  rfl
theorem store_fresh (u : World) (z : Value) (hz : z.oneCell' = true) : (store ⟨u.heap.size, 0, none⟩ z).run Try.prog (u.alloc (.cells #[.nilIface] 25)) = .ok () (u.alloc (.cells #[z] 25)) := by
  rw [store_at (x := .nilIface) (by simp [go_sem]) (by simp [go_sem]) hz]
  simp [go_sem]
theorem from_int (n : Int) (w0 w : World) (hw : Below w0.heap.size w0 w) :
    Calls Try.prog 12 #[.int .i64 n] w fun e w' => e = .returned (tv (.iface 73 (.int .i64 n))) ∧ Below w0.heap.size w0 w' := by
  have HW := Lib.hid hw
  clear hw
  go_enter Try.func12, Try.ntmps12
  go_wp2_with fail
  exact bodyPost_ret (v := tv (.iface 73 (.int .i64 n))) (by simp [results, tv, Try.results12, go_sem]) rfl ⟨rfl, below_box HW.out _⟩
theorem from_text (s : ByteArray) (w0 w : World) (hw : Below w0.heap.size w0 w) :
    Calls Try.prog 13 #[.string s] w fun e w' => e = .returned (tv (.iface 74 (.string s))) ∧ Below w0.heap.size w0 w' := by
  have HW := Lib.hid hw
  clear hw
  go_enter Try.func13, Try.ntmps13
  go_wp2_with fail
  exact bodyPost_ret (v := tv (.iface 74 (.string s))) (by simp [results, tv, Try.results13, go_sem]) rfl ⟨rfl, below_box HW.out _⟩
theorem from_flag (b : Bool) (w0 w : World) (hw : Below w0.heap.size w0 w) :
    Calls Try.prog 44 #[.bool b] w fun e w' => e = .returned (tv (.iface 77 (.bool b))) ∧ Below w0.heap.size w0 w' := by
  have HW := Lib.hid hw
  clear hw
  go_enter Try.func44, Try.ntmps44
  go_wp2_with fail
  exact bodyPost_ret (v := tv (.iface 77 (.bool b))) (by simp [results, tv, Try.results44, go_sem]) rfl ⟨rfl, below_box HW.out _⟩
theorem from_date (y m d : Int) (w0 w : World) (hw : Below w0.heap.size w0 w) :
    Calls Try.prog 45 #[.agg #[.int .i64 y, .int .i64 m, .int .i64 d]] w fun e w' => e = .returned (tv (.iface 78 (.agg #[.int .i64 y, .int .i64 m, .int .i64 d]))) ∧ Below w0.heap.size w0 w' := by
  have HW := Lib.hid hw
  clear hw
  go_enter Try.func45, Try.ntmps45
  go_wp2_with fail
  exact bodyPost_ret (v := tv (.iface 78 (.agg #[.int .i64 y, .int .i64 m, .int .i64 d]))) (by simp [results, tv, Try.results45, go_sem]) rfl ⟨rfl, below_box (below_box HW.out _) _⟩
theorem kind_own (ao : Option Addr) (n cap : Nat) (A : Nat → Prop) (vs : List Value) (w0 w : World) (hw : Below w0.heap.size w0 w) (hn : n = vs.length) (hn9 : n ≤ 100000) (hs : SegV A w ao vs) (h1 : ∀ v ∈ vs, v.oneCell' = true) :
    Calls Try.prog 33 #[.slice ao n cap] w fun e w' => e = .returned (.slice (some ⟨w.heap.size, 0, none⟩) n n) ∧ Block w' w.heap.size vs ∧ Below w.heap.size w w' ∧ Below w0.heap.size w0 w' := by
  have HW := Lib.hid hw
  have hmk := make n hn9
  have hB1 : Below w.heap.size w (w.alloc (.cells (zeros n) 25)) := (Below.refl _ _).alloc (Nat.le_refl _) _
  have hs' : SegV A (w.alloc (.cells (zeros n) 25)) ao vs := hs.frame (fun _ _ _ _ e => by rw [(bcell hB1).1 _ _ (cell_lt e)]; exact e) (fun _ _ _ _ a => a)
  obtain ⟨u', hcp, hblk, hbel, hsz⟩ := copy (w.alloc (.cells (zeros n) 25)) w.heap.size ao n cap A vs (block_made w n) hn hs' h1
  have HB := Lib.hid hblk
  have HB1 := Lib.hid (hbel _ _ hB1 (Nat.le_refl _))
  clear hw hn hs hs' h1 hblk hbel hB1 hsz
  go_enter Try.func33, Try.ntmps33
  go_wp2_with fail
  go_ret
  exact ⟨rfl, HB.out, HB1.out, bchain HW.out HB1.out⟩
theorem from_list (ao : Option Addr) (n cap : Nat) (A : Nat → Prop) (ts : List Th) (vs : List Value) (w0 w : World) (hw : Below w0.heap.size w0 w) (hn : n = vs.length) (hn9 : n ≤ 100000) (hs : SegV A w ao vs) (hE : Each A w ts vs) :
    Calls Try.prog 30 #[.slice ao n cap] w fun e w' => (∃ v, e = .returned (tv v) ∧ Is (fun b => A b ∨ w.heap.size ≤ b) w' (.list ts) v) ∧ Below w0.heap.size w0 w' := by
  have HW := Lib.hid hw
  have hB1 : Below w.heap.size w (w.alloc (.cells #[.nilIface] 25)) := (Below.refl _ _).alloc (Nat.le_refl _) _
  have hs' : SegV A (w.alloc (.cells #[.nilIface] 25)) ao vs := hs.frame (fun _ _ _ _ e => by rw [(bcell hB1).1 _ _ (cell_lt e)]; exact e) (fun _ _ _ _ a => a)
  have hl := hE.1
  have hE0 : Each (fun b => A b ∧ b < w.heap.size) w ts vs := hE.frame (fun _ _ _ _ e => e) (fun _ _ _ e a => ⟨a, cell_lt e⟩)
  have HE := Lib.hid (hE0.below hB1)
  have H1 := Lib.hid hE.oneCell
  have HS := Lib.hid hs'
  have HN := Lib.hid hn
  have HB1 := Lib.hid hB1
  have HL := Lib.hid hl
  clear hw hn hs hs' hE hB1 hE0 hl
  go_enter Try.func30, Try.ntmps30
  go_wp2_with fail
  refine (kind_own ao n cap A vs w _ HB1.out HN.out hn9 HS.out H1.out).mono ?_
  rintro e w1 ⟨rfl, hb, hb1, hb0⟩
  have HBk := Lib.hid hb
  have HE1 := Lib.hid (HE.out.below hb1)
  have hc : w1.cell? ⟨w.heap.size, 0, none⟩ = some .nilIface := by
    rw [(bcell hb1).1 _ _ (by simp)]
    simp [go_sem]
  have hfz : w1.frozen? ⟨w.heap.size, 0, none⟩ = false := by
    rw [(bcell hb1).2 _ _ (by simp)]
    simp [go_sem]
  have HB0 := Lib.hid (bchain HW.out hb0)
  have HW0 := Lib.hid hb0
  have hsz : (w.alloc (.cells #[.nilIface] 25)).heap.size = w.heap.size + 1 := by simp
  rw [hsz] at HBk
  clear hb hb1 hb0 hsz
  go_wp2_with fail
  refine bodyPost_ret (v := tv (.iface 70 (.slice (some ⟨w.heap.size + 1, 0, none⟩) n n))) (by simp [results, tv, Try.results30, go_sem, hc]) rfl ⟨⟨_, rfl, ?_⟩, HB0.out.setCell (p := ⟨w.heap.size, 0, none⟩) HW.out.size _⟩
  have hk : ∀ b o x, b ≠ w.heap.size → w1.cell? ⟨b, o, none⟩ = some x → (w1.setCell ⟨w.heap.size, 0, none⟩ (.iface 70 (.slice (some ⟨w.heap.size + 1, 0, none⟩) n n))).cell? ⟨b, o, none⟩ = some x := by
    intro b o x hne hx
    simp [go_sem, hx]
  refine .list (vs := vs) (by rw [HL.out]; exact HN.out) HN.out (Nat.le_refl _) (by omega) hn9 (fun k => by cases k) ?_ ?_
  · exact (Block.seg (A := fun b => b = w.heap.size + 1) HBk.out rfl).frame (fun b a o x e => hk b o x (by omega) e) (fun b _ _ _ a => .inr (by omega))
  · exact (HE1.out.frame (A' := fun b => A b ∨ w.heap.size ≤ b) (fun b a o x e => hk b o x (by omega) e) (fun b _ _ _ a => .inl a.1)).2
end Go.Proofs.Ytfmfeagfinnmmaa
