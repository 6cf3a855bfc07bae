/- WalCuts' STATES, and the calls between them. -/
import Derived.Test.YtlmjeackfepllaaGreatDoorYWkWlKd
import Derived.Test.YtlmjeackfepllaaGreatDoorYWkWlKe
set_option maxRecDepth 100000
set_option linter.unusedVariables false
namespace Go.Proofs.YtlmjeackfepllaaGreatDoor.Wl
open Go.RowKit
open Mem Dk
section
variable {R T : Nat → Prop} {w0 w u v : World} {g p n n' i b c : Nat} {s s' : Sg} {d : D} {r r2 : Hd.T} {l l2 : List Et.T} {e0 : Int}
theorem Kn.wide (h : Kn R w0 w b r l) (k : UpdQ T w u) (hT : ∀ b,T b → R b) : Kn (tg R w u) w0 u b r l := h.upd (k.mono hT)
def Lk (w0 w : World) (p b c n : Nat) (s : Sg) (r : Hd.T) (l : List Et.T) (r2 : Hd.T) (l2 : List Et.T) (e0 : Int) : Prop := ∃ (R : Nat → Prop) (d : D),Dm R w0 w p n s (Hd.h r2 l2) e0 d ∧ Kn R w0 w b r l ∧ Kn R w0 w c r2 l2
def Lc (w0 w : World) (p b c n : Nat) (s : Sg) (r : Hd.T) (l : List Et.T) (r2 : Hd.T) (l2 : List Et.T) (e0 : Int) : Prop := ∃ (R : Nat → Prop) (n' : Nat) (s' : Sg) (d : D),Dn R w0 w p n' s' d ∧ Cut n s (Hd.h r2 l2) e0 d.fs n' s' ∧ Kn R w0 w b r l ∧ Kn R w0 w c r2 l2
def La (w0 w : World) (p b c n : Nat) (s : Sg) (r : Hd.T) (l : List Et.T) (r2 : Hd.T) (l2 : List Et.T) (e0 : Int) : Prop := ∃ (R : Nat → Prop) (n' : Nat) (s' : Sg) (d : D),S R w0 w p d ∧ (∀ b,R b → b < w.heap.size) ∧ Cut n s (Hd.h r2 l2) e0 d.fs n' s' ∧ Kn R w0 w b r l ∧ Kn R w0 w c r2 l2
def Lo (w0 w : World) (g p b c n : Nat) (s : Sg) (r : Hd.T) (l : List Et.T) (r2 : Hd.T) (l2 : List Et.T) (e0 : Int) : Prop := ∃ (R : Nat → Prop) (n' : Nat) (s' : Sg) (d : D),Ws R w0 w g p n' s' d ∧ Kn R w0 w b r l ∧ Kn R w0 w c r2 l2 ∧ Part s.h (Hd.h r2 l2) s'.h ∧ (e0 = 0 → s'.h = (Hd.h r2 l2).bare) ∧ n' ≤ n + 1
theorem Lk.bel (h : Lk w0 w p b c n s r l r2 l2 e0) : Below w0.heap.size w0 w := by
 obtain ⟨R,d,h1,-⟩ := h
 exact h1.dsk.bel
theorem Lc.bel (h : Lc w0 w p b c n s r l r2 l2 e0) : Below w0.heap.size w0 w := by
 obtain ⟨R,n',s',d,h1,-⟩ := h
 exact h1.dsk.bel
theorem La.bel (h : La w0 w p b c n s r l r2 l2 e0) : Below w0.heap.size w0 w := by
 obtain ⟨R,n',s',d,h1,-⟩ := h
 exact h1.bel
theorem Lo.bel (h : Lo w0 w g p b c n s r l r2 l2 e0) : Below w0.heap.size w0 w := by
 obtain ⟨R,n',s',d,h1,-⟩ := h
 exact h1.bo.bel
theorem Lo.later (h : Lo w0 w g p b c n s r l r2 l2 e0) (k : Below w.heap.size w u) : Lo w0 u g p b c n s r l r2 l2 e0 := by
 obtain ⟨R,n',s',d,h1,h2,h3,h4,h5,h6⟩ := h
 exact ⟨R,n',s',d,h1.later k,h2.later k,h3.later k,h4,h5,h6⟩
theorem Lo.rows (h : Lo w0 w g p b c n s r l r2 l2 e0) : Hd.Block w b [r] ∧ Hd.Block w c [r2] := by
 obtain ⟨R,n',s',d,h1,h2,h3,-⟩ := h
 exact ⟨h2.hv.blk,h3.hv.blk⟩
theorem arm_save (hw : Ws R w0 w g p n s d) (h1 : Kn R w0 w b r l) (h2 : Kn R w0 w c r2 l2) (hn : n + 1 < 100) {m : Nat} (hm : (m : Int) ≤ 4) :
  Calls Tryz.prog 22 #[.pointer (some ⟨p,0,none⟩),.int .i64 m] w fun e w' => e = .returned (.tuple #[]) ∧ Hd.Block w' c [r2] ∧ Below w0.heap.size w0 w' ∧ Calls Tryz.prog 11 #[.pointer (some ⟨g,0,none⟩),Hd.val r2] w' fun e u => ∃ e0,e = .returned (.int .i64 e0) ∧ Lk w0 u p b c n s r l r2 l2 e0 := by
 refine (hw.bo.arm (m : Int) (fit_few hm)).mono ?_
 rintro e w' ⟨rfl,hb,hu⟩
 have k1 := h1.upd hu
 have k2 := h2.upd hu
 have hb2 := hb.mono (T := tg R w w') fun b z => ⟨.inl z,Nat.lt_of_lt_of_le (hw.lt b z) hu.size⟩
 have hs := tg_ge (u := w') hw.bo.bel hw.sub
 refine ⟨rfl,k2.hv.blk,hb.bel,(cut_save hb2 hw.rest hs hn k2.hl k2.right).mono ?_⟩
 rintro e u ⟨e0,d',rfl,hd,hu2⟩
 exact ⟨e0,rfl,_,d',hd,k1.upd hu2,k2.upd hu2⟩
theorem Lk.crash (h : Lk w0 w p b c n s r l r2 l2 e0) {ao : Option Addr} {m cap : Nat} {zs : List Int} (hI : Ints w0 ao m cap zs) :
  Calls Tryz.prog 24 #[.pointer (some ⟨p,0,none⟩),.slice ao m cap] w fun e w' => e = .returned (.tuple #[]) ∧ Lc w0 w' p b c n s r l r2 l2 e0 := by
 obtain ⟨R,d,h1,h2,h3⟩ := h
 refine (h1.crash hI).mono ?_
 rintro e w' ⟨rfl,n',s',d',hd,hc,hu⟩
 exact ⟨rfl,_,n',s',d',hd,hc,h2.upd hu,h3.upd hu⟩
theorem Lc.arm (h : Lc w0 w p b c n s r l r2 l2 e0) {m : Nat} (hm : (m : Int) ≤ 4) :
  Calls Tryz.prog 22 #[.pointer (some ⟨p,0,none⟩),.int .i64 m] w fun e w' => e = .returned (.tuple #[]) ∧ La w0 w' p b c n s r l r2 l2 e0 := by
 obtain ⟨R,n',s',d,h1,hc,h2,h3⟩ := h
 refine (h1.arm hc (m : Int) (fit_few hm)).mono ?_
 rintro e w' ⟨rfl,d',hs,hlt,hc2,hu⟩
 exact ⟨rfl,tg R w w',n',s',d',S.wide hs (fun b z => ⟨.inl z,hlt b z⟩) (tg_ge h1.dsk.bel h1.dsk.sub),fun b z => z.2,hc2,h2.upd hu,h3.upd hu⟩
theorem La.open (h : La w0 w p b c n s r l r2 l2 e0) :
  Calls Tryz.prog 10 #[.pointer (some ⟨p,0,none⟩)] w fun e w' => (∃ (po : Option Addr) (x : Int),e = .returned (.tuple #[.pointer po,.int .i64 x])) ∧ Lk w0 w' p b c n s r l r2 l2 e0 := by
 obtain ⟨R,n',s',d,hs,hlt,hc,h2,h3⟩ := h
 refine (cut_open hs hlt hc).mono ?_
 rintro e w' ⟨he,d',hd,hu⟩
 exact ⟨he,_,d',hd,h2.upd hu,h3.upd hu⟩
theorem Lc.reopen (h : Lc w0 w p b c n s r l r2 l2 e0) :
  Calls Tryz.prog 10 #[.pointer (some ⟨p,0,none⟩)] w fun e w' => ∃ g,e = .returned (.tuple #[.pointer (some ⟨g,0,none⟩),.int .i64 0]) ∧ Lo w0 w' g p b c n s r l r2 l2 e0 := by
 obtain ⟨R,n',s',d,h1,hc,h2,h3⟩ := h
 refine h1.reopen.mono ?_
 rintro e w' ⟨g,d',rfl,hw,hu⟩
 exact ⟨g,rfl,_,n',s',d',hw,h2.upd hu,h3.upd hu,hc.part,hc.ok,hc.le.2⟩
theorem Lo.hard (h : Lo w0 w g p b c n s r l r2 l2 e0) (hs : s.h = (Hd.h r l).bare) (k : Below w.heap.size w u) :
  Calls Tryz.prog 15 #[.pointer (some ⟨g,0,none⟩)] u fun e w' => ∃ x : Hd.T,e = .returned (Hd.val x) ∧ Below w.heap.size w w' ∧
   (∀ v,Below w'.heap.size w' v → Below w.heap.size w v → Calls Tryz.prog 34 #[Hd.val x,Hd.val (noSnap r),Hd.val (noSnap r2)] v fun e y => e = .returned (.bool true) ∧ Below w.heap.size w y) ∧
   (e0 = 0 → ∀ v,Below w'.heap.size w' v → Below w.heap.size w v → Calls Tryz.prog 14 #[Hd.val x,Hd.val (noSnap r2)] v fun e y => e = .returned (.bool true) ∧ Below w.heap.size w y) := by
 obtain ⟨R,n',s',d,h1,h2,h3,h4,h5,h6⟩ := h
 refine (k_hard (h1.later k)).mono ?_
 rintro e w' ⟨v,rfl,hl,hb⟩
 refine ⟨row s'.h v,rfl,bchain k hb,fun y k1 k2 => ?_,fun he y k1 k2 => same_bare h1 h3 (h5 he) v k2 (hl.later k1)⟩
 refine (told_between (h1.later k2) h4 hs rfl v (hl.later k1) (h2.hl.later k2).ls (h3.hl.later k2).ls h1.rest.wf).mono ?_
 rintro e z ⟨rfl,hz⟩
 exact ⟨rfl,bchain k2 hz⟩
def Lp (w0 w : World) (g p c : Nat) (r2 : Hd.T) (l2 : List Et.T) : Prop := ∃ (R : Nat → Prop) (n : Nat) (s : Sg) (d : D),Ws R w0 w g p n s d ∧ Kn R w0 w c r2 l2 ∧ s.h = (Hd.h r2 l2).bare
def Lq (w0 w : World) (p c : Nat) (r2 : Hd.T) (l2 : List Et.T) : Prop := ∃ (R : Nat → Prop) (n : Nat) (s : Sg) (d : D),Dn R w0 w p n s d ∧ Kn R w0 w c r2 l2 ∧ s.h = (Hd.h r2 l2).bare
theorem Lp.bel (h : Lp w0 w g p c r2 l2) : Below w0.heap.size w0 w := by
 obtain ⟨R,n',s',d,h1,-⟩ := h
 exact h1.bo.bel
theorem Lp.blk (h : Lp w0 w g p c r2 l2) : Hd.Block w c [r2] := by
 obtain ⟨R,n',s',d,h1,h2,-⟩ := h
 exact h2.hv.blk
theorem Lo.save (h : Lo w0 w g p b c n s r l r2 l2 e0) (hn : n + 2 < 100) :
  Calls Tryz.prog 11 #[.pointer (some ⟨g,0,none⟩),Hd.val r2] w fun e w' => e = .returned (.int .i64 0) ∧ Lp w0 w' g p c r2 l2 := by
 obtain ⟨R,n',s',d,h1,h2,h3,h4,h5,h6⟩ := h
 refine (k_save h1 (by omega) h3.hl h3.right).mono ?_
 rintro e w' ⟨rfl,n2,s2,d2,k1,k2,-,-,-,-,hu⟩
 exact ⟨rfl,_,n2,s2,d2,k1,h3.upd hu,k2⟩
theorem Lp.crash (h : Lp w0 w g p c r2 l2) {ao : Option Addr} {m cap : Nat} {zs : List Int} (hI : Ints w0 ao m cap zs) :
  Calls Tryz.prog 24 #[.pointer (some ⟨p,0,none⟩),.slice ao m cap] w fun e w' => e = .returned (.tuple #[]) ∧ Lq w0 w' p c r2 l2 := by
 obtain ⟨R,n,s,d,h1,h2,h3⟩ := h
 refine (h1.dn.crash hI).mono ?_
 rintro e w' ⟨rfl,d',hd,hu⟩
 exact ⟨rfl,_,n,s,d',hd,h2.upd hu,h3⟩
theorem Lq.reopen (h : Lq w0 w p c r2 l2) :
  Calls Tryz.prog 10 #[.pointer (some ⟨p,0,none⟩)] w fun e w' => ∃ g,e = .returned (.tuple #[.pointer (some ⟨g,0,none⟩),.int .i64 0]) ∧ Lp w0 w' g p c r2 l2 := by
 obtain ⟨R,n,s,d,h1,h2,h3⟩ := h
 refine h1.reopen.mono ?_
 rintro e w' ⟨g,d',rfl,hw,hu⟩
 exact ⟨g,rfl,_,n,s,d',hw,h2.upd hu,h3⟩
theorem Lp.hard (h : Lp w0 w g p c r2 l2) (k : Below w.heap.size w u) :
  Calls Tryz.prog 15 #[.pointer (some ⟨g,0,none⟩)] u fun e w' => ∃ x : Hd.T,e = .returned (Hd.val x) ∧ (∀ v,Below w'.heap.size w' v → Below w.heap.size w v → Calls Tryz.prog 14 #[Hd.val x,Hd.val (noSnap r2)] v fun e y => e = .returned (.bool true) ∧ Below w.heap.size w y) ∧ Below u.heap.size u w' := by
 obtain ⟨R,n,s,d,h1,h2,h3⟩ := h
 exact ask_hard h1 h2 h3 k
end
end Go.Proofs.YtlmjeackfepllaaGreatDoor.Wl
