/- THE DOCUMENT's OWN ANSWER: impostref8.Get. (By genrget.py.) -/
import Derived.Test.YtndfhnaafaijcaaRgD
import Derived.Test.YtndfhnaafaijcaaMGl
set_option linter.unusedVariables false
set_option maxRecDepth 100000
namespace Go.Proofs.Ytndfhnaafaijcaa
open Go.RowKit
open Mem Pk Cm

/-- what is asked of the document's Get -/
def RGetE (bs : List UInt8) (w : World) (e : Ending) (w' : World) : Prop :=
  (∃ c, e = .returned (.tuple #[Cm.val c, .int .i64 (get bs).2]) ∧ Cm.In w' c (get bs).1.lines ∧ c.sem (get bs).1.lines = (get bs).1 ∧ c.n ≤ 1000) ∧ Below w.heap.size w w'
theorem rget_zero {bs : List UInt8} {x : Int} {w w' : World} (h : get bs = (S.zero, x)) (hb : Below w.heap.size w w') : RGetE bs w (.returned (.tuple #[Cm.val Cm.T.zero, .int .i64 x])) w' := by
  unfold RGetE
  rw [h]
  exact ⟨⟨Cm.T.zero, rfl, Cm.in_of (fitS empty_size empty_size empty_size fit0 fit0 fit0 fit0 fit0 fit0 fit0 fit0 fit0 fit0 (fun _ h => by cases h)) fit0 (Ln.ls_nil _), rfl, Nat.zero_le _⟩, hb⟩
theorem rget_is {bs : List UInt8} {s : S} {c : Cm.T} {w w' : World} (h : get bs = (s, 0)) (hI : Cm.In w' c s.lines) (hs : c.sem s.lines = s) (hn : c.n ≤ 1000) (hb : Below w.heap.size w w') : RGetE bs w (.returned (.tuple #[Cm.val c, .int .i64 0])) w' := by
  unfold RGetE
  rw [h]
  exact ⟨⟨c, rfl, hI, hs, hn⟩, hb⟩
/-- at a step of a region that draws its order: a store of the whole -/
theorem Cm.step_store {ops : Array Oper} {o : Oper} {a : Act} {w : World} {K : Act → World → Prop} {Q : Exit → Act → World → Prop} {E : Prop} (g : Nat) (old c : Cm.T) (hgd : o.guard = none) (x y : Operand) (ho : o.op = .store 37 x y)
    (hx : a.eval x = .pointer (some ⟨g, 0, none⟩)) (hy : a.eval y = Cm.val c) (hg : Cm.Blk w g old)
    (h : K (a.put o.dst undef) (w.setRow g (Cm.rv c).toArray)) : if Region.wanted o (yielded ops a.tmps) = true then Oper.wp Try.prog o a w K Q else E := by
  have hw : Region.wanted o (yielded ops a.tmps) = true := by simp [Region.wanted, hgd]
  rw [if_pos hw]
  exact wp_store_row 37 x y ho g (Cm.rv c).toArray hx hy 37 (Cm.rv old).toArray hg (by rw [Cm.info]; rfl) rfl (by simp [Cm.rv, Value.oneCell']) h
set_option maxHeartbeats 16000000 in
theorem rget_big (bs : List UInt8) (ao : Option Addr) (m cap : Nat) (w : World) (hL : By.Ls w ao m cap bs) (hbig : 1024 < m) :
    Calls Try.prog 25 #[.slice ao m cap] w (RGetE bs w) := by
  have HL := Lib.hid hL
  have HLen := Lib.hid hL.len
  have hcap := hL.reach
  have hfit := hL.fits
  have hb0 : Below w.heap.size w (w.alloc (.cells #[.int .i64 0, .string .empty, .int .i64 0, .string .empty, .int .i64 0, .int .i64 0, .int .i64 0, .int .i64 0, .int .i64 0, .int .i64 0, .int .i64 0, .slice none 0 0, .string .empty, .int .i64 0, .int .i64 0] 37)) := below_box (Below.refl _ _) _
  have HB0 := Lib.hid hb0
  have HL0 := Lib.hid (hL.below hb0)
  have HA0 : Hid (Cm.Blk (w.alloc (.cells #[.int .i64 0, .string .empty, .int .i64 0, .string .empty, .int .i64 0, .int .i64 0, .int .i64 0, .int .i64 0, .int .i64 0, .int .i64 0, .int .i64 0, .slice none 0 0, .string .empty, .int .i64 0, .int .i64 0] 37)) w.heap.size Cm.T.zero) := Lib.hid (heap_alloc_new w _)
  have HG := Lib.hid (get_big (bs := bs) (by rw [← HLen.out]; exact hbig))
  have a1 : (1024 : Int) < (m : Int) := by omega
  clear hL hb0
  go_enter Try.func25, Try.ntmps25
  go_wp2_with fail
  refine bodyPost_ret (Cm.results_blk2 Try.results25 rfl HA0.out) rfl ?_
  exact rget_zero HG.out HB0.out
end Go.Proofs.Ytndfhnaafaijcaa
