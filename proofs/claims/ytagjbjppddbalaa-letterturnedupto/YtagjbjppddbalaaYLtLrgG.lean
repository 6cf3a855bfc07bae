/- impostref16.GetLetter. (By genlrg2.py.) -/
import Derived.Test.YtagjbjppddbalaaYLtLrgR
import Derived.Test.YtagjbjppddbalaaYLtLrgZ
set_option maxRecDepth 100000
set_option linter.unusedVariables false
namespace Go.Proofs.Ytagjbjppddbalaa
open Go.RowKit
open Mem Pk
theorem lrref_num (k : Nat) (p : Nat) (ao : Option Addr) (n cap : Nat) (bs : List UInt8) (s : St) (w : World) (hR : Rd w p ao n cap bs (Lr.sN bs s k)) :
  Calls Try.prog 40 #[.pointer (some ⟨p,0,none⟩)] w fun e w' => e = .returned (.int .i64 (Lr.vN bs s k)) ∧ Rd w' p ao n cap bs (Lr.sN bs s (k + 1)) ∧ Upd w p w' := ref_rd_num p ao n cap bs _ w hR
structure Gr (w u : World) (p n bc g : Nat) (bo : Option Addr) (bs : List UInt8) (s : St) (cs : Array Value) : Prop where
 rd : Rd u p bo n bc bs s
 bel : Below w.heap.size w u
 res : u.heap[w.heap.size]? = some (.cells #[.int .i64 0,.int .i64 0,.int .i64 0,.int .i64 0,.int .i64 0,.int .i64 0,.int .i64 0,.int .i64 0,.int .i64 0,.int .i64 0,.bool false,.string ⟨#[]⟩,.slice none 0 0] 24 (0,0))
 row : u.heap[g]? = some (.cells cs 24 (0,0))
 lt : w.heap.size < p
 gl : p < g
 off : ∀ q,g ≤ q → Off p q n bo
section
variable {w u v : World} {p n bc g : Nat} {bo : Option Addr} {bs : List UInt8} {s s' : St} {cs : Array Value}
theorem Gr.cell (h : Gr w u p n bc g bo bs s cs) (i : Nat) : u.cell? ⟨g,i,none⟩ = cs[i]? := cell_of_row u _ i _ _ _ h.row
theorem Gr.fz (h : Gr w u p n bc g bo bs s cs) (o : Nat) : u.frozen? ⟨g,o,none⟩ = false := frozen_of_row u _ o _ _ h.row
theorem Gr.rcell (h : Gr w u p n bc g bo bs s cs) (i : Nat) : u.cell? ⟨w.heap.size,i,none⟩ = (#[.int .i64 0,.int .i64 0,.int .i64 0,.int .i64 0,.int .i64 0,.int .i64 0,.int .i64 0,.int .i64 0,.int .i64 0,.int .i64 0,.bool false,.string ⟨#[]⟩,.slice none 0 0] : Array Value)[i]? := cell_of_row u _ i _ _ _ h.res
theorem Gr.rfz (h : Gr w u p n bc g bo bs s cs) (o : Nat) : u.frozen? ⟨w.heap.size,o,none⟩ = false := frozen_of_row u _ o _ _ h.res
theorem Gr.call (h : Gr w u p n bc g bo bs s cs) (q : Rd v p bo n bc bs s') (k : Upd u p v) : Gr w v p n bc g bo bs s' cs :=
 ⟨q,k.below w h.bel (Nat.le_of_lt h.lt),(k.block _ (Array.getElem?_eq_some_iff.1 h.res).1 (Nat.ne_of_lt h.lt)).trans h.res,(k.block _ (Array.getElem?_eq_some_iff.1 h.row).1 (Nat.ne_of_gt h.gl)).trans h.row,h.lt,h.gl,h.off⟩
theorem Gr.below (h : Gr w u p n bc g bo bs s cs) (k : Below u.heap.size u v) : Gr w v p n bc g bo bs s cs :=
 ⟨h.rd.below k,bchain h.bel k,(k.block _ (Array.getElem?_eq_some_iff.1 h.res).1).trans h.res,(k.block _ (Array.getElem?_eq_some_iff.1 h.row).1).trans h.row,h.lt,h.gl,h.off⟩
theorem Gr.set (h : Gr w u p n bc g bo bs s cs) (i : Nat) (x : Value) : Gr w (u.setCell ⟨g,i,none⟩ x) p n bc g bo bs s (cs.setIfInBounds i x) :=
 ⟨h.rd.other (h.off g (Nat.le_refl _)) x,bset h.bel (Nat.le_of_lt (Nat.lt_trans h.lt h.gl)) i x,by
  rw [heap_setCell_other u ⟨g,i,none⟩ w.heap.size x (by have := h.lt; have := h.gl; show w.heap.size ≠ g; omega)]
  exact h.res,heap_setCell_same u _ i _ _ x h.row,h.lt,h.gl,h.off⟩
theorem Gr.far (h : Gr w u p n bc g bo bs s cs) {q : Nat} (hq : g < q) (i : Nat) (x : Value) : Gr w (u.setCell ⟨q,i,none⟩ x) p n bc g bo bs s cs :=
 ⟨h.rd.other (h.off q (Nat.le_of_lt hq)) x,bset h.bel (by have := h.lt; have := h.gl; omega) i x,by
  rw [heap_setCell_other u ⟨q,i,none⟩ w.heap.size x (by have := h.lt; have := h.gl; show w.heap.size ≠ q; omega)]
  exact h.res,by
  rw [heap_setCell_other u ⟨q,i,none⟩ g x (by show g ≠ q; omega)]
  exact h.row,h.lt,h.gl,h.off⟩
theorem Gr.app (h : Gr w u p n bc g bo bs s cs) {row : Option Nat} (o : Obj) (gr : (u.alloc o).grownBy v row) (hr : ∀ k,row = some k → g < k ∧ k < u.heap.size) : Gr w v p n bc g bo bs s cs := by
 have hb : Below u.heap.size u (u.alloc o) := (Below.refl _ _).alloc (Nat.le_refl _) o
 have h2 := h.below hb
 refine ⟨h2.rd.grown gr fun q e => h.off q (Nat.le_of_lt (hr q e).1),h2.bel.grown gr h2.bel.size (fun k e => by have := (hr k e).1; have := h.lt; have := h.gl; omega),?_,?_,h.lt,h.gl,h.off⟩
 · exact (gr.block _ (Array.getElem?_eq_some_iff.1 h2.res).1 (fun e => by have := (hr _ e.symm).1; have := h.lt; have := h.gl; omega)).trans h2.res
 · exact (gr.block _ (Array.getElem?_eq_some_iff.1 h2.row).1 (fun e => by have := (hr _ e.symm).1; omega)).trans h2.row
theorem Gr.void (h : Gr w u p n bc g bo bs s cs) (x : Int) (hx : Lr.getE bs = x) (hz : Lr.getM bs = Lr.zeroM) : Lr.GetE w bs (.returned (.tuple #[Lr.val ⟨0,0,0,0,0,0,0,0,0,0,false,⟨#[]⟩,⟨none,0,0⟩⟩,.int .i64 x])) (Lr.lay u w.heap.size ⟨0,0,0,0,0,0,0,0,0,0,false,⟨#[]⟩,⟨none,0,0⟩⟩) := by
 refine ⟨⟨0,0,0,0,0,0,0,0,0,0,false,⟨#[]⟩,⟨none,0,0⟩⟩,by rw [hx],?_,?_,?_,Lr.below_lay h.bel (Nat.le_refl _) _⟩
 ·
  rw [hz]
  rfl
 ·
  rw [hz]
  exact Et.own_nil _ _
 ·
  rw [hz]
  intro x hx
  cases hx
theorem Gr.got (h : Gr w u p n bc g bo bs s cs) {r : Lr.T} {M : Lr.M} (ho : Et.Own u (g + 1) (.slice r.ents.ao r.ents.n r.ents.cap) M.ents) (hx : Lr.getE bs = 0) (hz : Lr.getM bs = M) (hr : Lr.m r M.ents = M) (hs : ∀ e ∈ M.ents,Et.Short e) : Lr.GetE w bs (.returned (.tuple #[Lr.val r,.int .i64 0])) (Lr.lay u w.heap.size r) := by
 refine ⟨r,by rw [hx],by rw [hz,hr],?_,by rw [hz]; exact hs,Lr.below_lay h.bel (Nat.le_refl _) _⟩
 rw [hz]
 exact Et.own_mono (Lr.own_lay ho (by have := h.lt; have := h.gl; omega) _) (by have := h.lt; have := h.gl; omega)
end
theorem Et.own_ne {w : World} {B : Nat} {v : Value} {M : List Et.T} (h : Et.Own w B v M) {q : Nat} (hne : ∀ k,v.ownBlock = some k → k ≠ q) (o : Nat) (x : Value) : Et.Own (w.setCell ⟨q,o,none⟩ x) B v M := by
 obtain ⟨h1,h2⟩ := h
 refine ⟨h1,?_⟩
 rcases h2 with h2 | ⟨g,cap,cur,h',hb,hg,h3⟩
 · exact .inl h2
 ·
  exact .inr ⟨g,cap,cur,h',hb,by
   rw [heap_setCell_other w ⟨q,o,none⟩ g x (by show g ≠ q; exact hne g (by rw [h']; rfl))]
   exact hg,h3⟩
theorem Lr.text_wrong {bs : List UInt8} {most : Int} {s : St} (h : s.err ≠ 0) (hp : s.at' ≤ bs.length) : rText bs most s = (str ((bs.take s.at').drop s.at'),s) := by
 have e1 : rNum bs s = (0,s) := rNum_wrong h
 have e2 : rWithin bs 0 most s = (0,s) := by rw [rWithin_wrong (by rw [e1]; exact h),e1]
 have e3 : rCount bs most s = (0,s) := by rw [rCount_ok (by rw [e2]; simp; omega),e2]
 rw [rText_of e3]
 simp
theorem Lr.ent_wrong {bs : List UInt8} {s : St} (h : s.err ≠ 0) (hp : s.at' ≤ bs.length) : (Lr.rEnt bs s).2 = s := by
 unfold Lr.rEnt
 rw [rNum_wrong h]
 dsimp only
 rw [rNum_wrong h]
 dsimp only
 rw [Lr.text_wrong h hp]
theorem Lr.ents_wrong {bs : List UInt8} : ∀ (k : Nat) (s : St),s.err ≠ 0 → s.at' ≤ bs.length → (Lr.rEnts bs k s).2 = s
 | 0,s,_,_ => rfl
 | k + 1,s,h,hp => by
  rw [Lr.rEnts,Lr.ent_wrong h hp]
  exact Lr.ents_wrong k s h hp
theorem Lr.ents_add (bs : List UInt8) : ∀ (a b : Nat) (s : St),(Lr.rEnts bs (a + b) s).2 = (Lr.rEnts bs b (Lr.rEnts bs a s).2).2
 | 0,b,s => by rw [Nat.zero_add]; rfl
 | a + 1,b,s => by
  rw [show a + 1 + b = (a + b) + 1 by omega,Lr.rEnts,Lr.ents_add bs a b]
  rfl
set_option maxHeartbeats 8000000 in
theorem rl_get (bs : List UInt8) (ao : Option Addr) (n cap : Nat) (w : World) (hL : By.Ls w ao n cap bs) (hm : n ≤ 140737488355328) : Calls Try.prog 20 #[.slice ao n cap] w (Lr.GetE w bs) := by
 obtain ⟨w0,hw0⟩ : ∃ U,w.alloc (.cells #[.int .i64 0,.int .i64 0,.int .i64 0,.int .i64 0,.int .i64 0,.int .i64 0,.int .i64 0,.int .i64 0,.int .i64 0,.int .i64 0,.bool false,.string ⟨#[]⟩,.slice none 0 0] 24) = U := ⟨_,rfl⟩
 have hb0 : Below w.heap.size w w0 := hw0 ▸ (Below.refl _ _).alloc (Nat.le_refl _) _
 have HB0 := Lib.hid hb0
 have HL := Lib.hid (hL.below hb0)
 have HLen := Lib.hid hL.len
 have HRs : Hid (w0.heap[w.heap.size]? = some (.cells #[.int .i64 0,.int .i64 0,.int .i64 0,.int .i64 0,.int .i64 0,.int .i64 0,.int .i64 0,.int .i64 0,.int .i64 0,.int .i64 0,.bool false,.string ⟨#[]⟩,.slice none 0 0] 24 (0,0))) := Lib.hid (hw0 ▸ heap_alloc_new w _)
 have hs0 : w0.heap.size = w.heap.size + 1 := by rw [← hw0]; simp
 have HS0 := Lib.hid hs0
 have hcap := hL.reach
 have hfit := hL.fits
 have HW0 := Lib.hid hw0
 clear hL hb0 hs0 hw0
 go_enter Try.func20,Try.ntmps20
 go_wp2_with fail
 rw [HW0.out]
 clear HW0
 refine (lref_read bs ao n cap w0 HL.out hm).mono ?_
 rintro e w1 ⟨⟨p,bo,bc,rfl,hp,r1⟩,b1⟩
 have HR1 : Hid (Rd w1 p bo n bc bs (Lr.sN bs Wl.s0 0)) := Lib.hid r1
 have HB1 := Lib.hid b1
 have HP := Lib.hid hp
 clear r1 b1 hp
 go_wp2_with fail
 refine (lrref_num 0 p bo n bc bs Wl.s0 w1 HR1.out).mono ?_
 rintro e w2 ⟨rfl,r2,k2⟩
 have hbx : Below w2.heap.size w2 (w2.alloc (.cells #[.int .i64 (Lr.vN bs Wl.s0 0),.int .i64 0,.int .i64 0,.int .i64 0,.int .i64 0,.int .i64 0,.int .i64 0,.int .i64 0,.int .i64 0,.int .i64 0,.bool false,.string ⟨#[]⟩,.slice none 0 0] 24)) := (Below.refl _ _).alloc (Nat.le_refl _) _
 have HG0 : Hid (Gr w (w2.alloc (.cells #[.int .i64 (Lr.vN bs Wl.s0 0),.int .i64 0,.int .i64 0,.int .i64 0,.int .i64 0,.int .i64 0,.int .i64 0,.int .i64 0,.int .i64 0,.int .i64 0,.bool false,.string ⟨#[]⟩,.slice none 0 0] 24)) p n bc w2.heap.size bo bs (Lr.sN bs Wl.s0 1) #[.int .i64 (Lr.vN bs Wl.s0 0),.int .i64 0,.int .i64 0,.int .i64 0,.int .i64 0,.int .i64 0,.int .i64 0,.int .i64 0,.int .i64 0,.int .i64 0,.bool false,.string ⟨#[]⟩,.slice none 0 0]) := Lib.hid (by
  have h1 := HR1.out.c1
  have h0 := (Array.getElem?_eq_some_iff.1 HRs.out).1
  have hp := HP.out
  have hs := HS0.out
  have hu : Upd w0 p w2 := (Upd.of p HB1.out).trans k2
  have hz := hu.size
  refine ⟨r2.below hbx,bchain (hu.below w HB0.out (by omega)) hbx,?_,heap_alloc_new w2 _,by omega,by have := cell_lt h1; have := k2.size; omega,fun q hq => r2.off hq⟩
  rw [hbx.block _ (by omega),hu.block _ h0 (by omega)]
  exact HRs.out)
 have HGl : Hid (p < w2.heap.size) := Lib.hid (by
  have h1 := cell_lt HR1.out.c1
  have := k2.size
  omega)
 obtain ⟨U0,hU0⟩ : ∃ U,w2.alloc (.cells #[.int .i64 (Lr.vN bs Wl.s0 0),.int .i64 0,.int .i64 0,.int .i64 0,.int .i64 0,.int .i64 0,.int .i64 0,.int .i64 0,.int .i64 0,.int .i64 0,.bool false,.string ⟨#[]⟩,.slice none 0 0] 24) = U := ⟨_,rfl⟩
 rw [hU0] at HG0
 have HU0 := Lib.hid hU0
 obtain ⟨g,hg⟩ : ∃ g,w2.heap.size = g := ⟨_,rfl⟩
 rw [hg] at HG0 HGl
 have HGg := Lib.hid hg
 clear hU0 r2 k2 hbx HR1 HB1 HP HRs HB0 HS0 HL hg
 go_wp2_with fail
 rw [HU0.out,HGg.out]
 clear HU0 HGg
 refine (lrref_num 1 p bo n bc bs Wl.s0 U0 HG0.out.rd).mono ?_
 rintro e y1 ⟨rfl,r1,k1⟩
 have HQ1 : Hid (Gr w y1 p n bc g bo bs (Lr.sN bs Wl.s0 2) #[.int .i64 (Lr.vN bs Wl.s0 0),.int .i64 0,.int .i64 0,.int .i64 0,.int .i64 0,.int .i64 0,.int .i64 0,.int .i64 0,.int .i64 0,.int .i64 0,.bool false,.string ⟨#[]⟩,.slice none 0 0]) := Lib.hid (HG0.out.call r1 k1)
 clear r1 k1
 have c1 := HQ1.out.cell 1
 have z1 := HQ1.out.fz 1
 simp only [List.getElem?_toArray,List.getElem?_cons_zero,List.getElem?_cons_succ] at c1
 have HG1 : Hid (Gr w (y1.setCell ⟨g,1,none⟩ (.int .i64 (Lr.vN bs Wl.s0 1))) p n bc g bo bs (Lr.sN bs Wl.s0 2) #[.int .i64 (Lr.vN bs Wl.s0 0),.int .i64 (Lr.vN bs Wl.s0 1),.int .i64 0,.int .i64 0,.int .i64 0,.int .i64 0,.int .i64 0,.int .i64 0,.int .i64 0,.int .i64 0,.bool false,.string ⟨#[]⟩,.slice none 0 0]) := Lib.hid (HQ1.out.set 1 (.int .i64 (Lr.vN bs Wl.s0 1)))
 obtain ⟨U1,hU1⟩ : ∃ U,y1.setCell ⟨g,1,none⟩ (.int .i64 (Lr.vN bs Wl.s0 1)) = U := ⟨_,rfl⟩
 rw [hU1] at HG1
 go_wp2_with fail
 clear hU1 c1 z1 HQ1 HG0
 refine (lrref_num 2 p bo n bc bs Wl.s0 U1 HG1.out.rd).mono ?_
 rintro e y2 ⟨rfl,r2,k2⟩
 have HQ2 : Hid (Gr w y2 p n bc g bo bs (Lr.sN bs Wl.s0 3) #[.int .i64 (Lr.vN bs Wl.s0 0),.int .i64 (Lr.vN bs Wl.s0 1),.int .i64 0,.int .i64 0,.int .i64 0,.int .i64 0,.int .i64 0,.int .i64 0,.int .i64 0,.int .i64 0,.bool false,.string ⟨#[]⟩,.slice none 0 0]) := Lib.hid (HG1.out.call r2 k2)
 clear r2 k2
 have c2 := HQ2.out.cell 2
 have z2 := HQ2.out.fz 2
 simp only [List.getElem?_toArray,List.getElem?_cons_zero,List.getElem?_cons_succ] at c2
 have HG2 : Hid (Gr w (y2.setCell ⟨g,2,none⟩ (.int .i64 (Lr.vN bs Wl.s0 2))) p n bc g bo bs (Lr.sN bs Wl.s0 3) #[.int .i64 (Lr.vN bs Wl.s0 0),.int .i64 (Lr.vN bs Wl.s0 1),.int .i64 (Lr.vN bs Wl.s0 2),.int .i64 0,.int .i64 0,.int .i64 0,.int .i64 0,.int .i64 0,.int .i64 0,.int .i64 0,.bool false,.string ⟨#[]⟩,.slice none 0 0]) := Lib.hid (HQ2.out.set 2 (.int .i64 (Lr.vN bs Wl.s0 2)))
 obtain ⟨U2,hU2⟩ : ∃ U,y2.setCell ⟨g,2,none⟩ (.int .i64 (Lr.vN bs Wl.s0 2)) = U := ⟨_,rfl⟩
 rw [hU2] at HG2
 go_wp2_with fail
 clear hU2 c2 z2 HQ2 HG1
 refine (lrref_num 3 p bo n bc bs Wl.s0 U2 HG2.out.rd).mono ?_
 rintro e y3 ⟨rfl,r3,k3⟩
 have HQ3 : Hid (Gr w y3 p n bc g bo bs (Lr.sN bs Wl.s0 4) #[.int .i64 (Lr.vN bs Wl.s0 0),.int .i64 (Lr.vN bs Wl.s0 1),.int .i64 (Lr.vN bs Wl.s0 2),.int .i64 0,.int .i64 0,.int .i64 0,.int .i64 0,.int .i64 0,.int .i64 0,.int .i64 0,.bool false,.string ⟨#[]⟩,.slice none 0 0]) := Lib.hid (HG2.out.call r3 k3)
 clear r3 k3
 have c3 := HQ3.out.cell 3
 have z3 := HQ3.out.fz 3
 simp only [List.getElem?_toArray,List.getElem?_cons_zero,List.getElem?_cons_succ] at c3
 have HG3 : Hid (Gr w (y3.setCell ⟨g,3,none⟩ (.int .i64 (Lr.vN bs Wl.s0 3))) p n bc g bo bs (Lr.sN bs Wl.s0 4) #[.int .i64 (Lr.vN bs Wl.s0 0),.int .i64 (Lr.vN bs Wl.s0 1),.int .i64 (Lr.vN bs Wl.s0 2),.int .i64 (Lr.vN bs Wl.s0 3),.int .i64 0,.int .i64 0,.int .i64 0,.int .i64 0,.int .i64 0,.int .i64 0,.bool false,.string ⟨#[]⟩,.slice none 0 0]) := Lib.hid (HQ3.out.set 3 (.int .i64 (Lr.vN bs Wl.s0 3)))
 obtain ⟨U3,hU3⟩ : ∃ U,y3.setCell ⟨g,3,none⟩ (.int .i64 (Lr.vN bs Wl.s0 3)) = U := ⟨_,rfl⟩
 rw [hU3] at HG3
 go_wp2_with fail
 clear hU3 c3 z3 HQ3 HG2
 refine (lrref_num 4 p bo n bc bs Wl.s0 U3 HG3.out.rd).mono ?_
 rintro e y4 ⟨rfl,r4,k4⟩
 have HQ4 : Hid (Gr w y4 p n bc g bo bs (Lr.sN bs Wl.s0 5) #[.int .i64 (Lr.vN bs Wl.s0 0),.int .i64 (Lr.vN bs Wl.s0 1),.int .i64 (Lr.vN bs Wl.s0 2),.int .i64 (Lr.vN bs Wl.s0 3),.int .i64 0,.int .i64 0,.int .i64 0,.int .i64 0,.int .i64 0,.int .i64 0,.bool false,.string ⟨#[]⟩,.slice none 0 0]) := Lib.hid (HG3.out.call r4 k4)
 clear r4 k4
 have c4 := HQ4.out.cell 4
 have z4 := HQ4.out.fz 4
 simp only [List.getElem?_toArray,List.getElem?_cons_zero,List.getElem?_cons_succ] at c4
 have HG4 : Hid (Gr w (y4.setCell ⟨g,4,none⟩ (.int .i64 (Lr.vN bs Wl.s0 4))) p n bc g bo bs (Lr.sN bs Wl.s0 5) #[.int .i64 (Lr.vN bs Wl.s0 0),.int .i64 (Lr.vN bs Wl.s0 1),.int .i64 (Lr.vN bs Wl.s0 2),.int .i64 (Lr.vN bs Wl.s0 3),.int .i64 (Lr.vN bs Wl.s0 4),.int .i64 0,.int .i64 0,.int .i64 0,.int .i64 0,.int .i64 0,.bool false,.string ⟨#[]⟩,.slice none 0 0]) := Lib.hid (HQ4.out.set 4 (.int .i64 (Lr.vN bs Wl.s0 4)))
 obtain ⟨U4,hU4⟩ : ∃ U,y4.setCell ⟨g,4,none⟩ (.int .i64 (Lr.vN bs Wl.s0 4)) = U := ⟨_,rfl⟩
 rw [hU4] at HG4
 go_wp2_with fail
 clear hU4 c4 z4 HQ4 HG3
 refine (lrref_num 5 p bo n bc bs Wl.s0 U4 HG4.out.rd).mono ?_
 rintro e y5 ⟨rfl,r5,k5⟩
 have HQ5 : Hid (Gr w y5 p n bc g bo bs (Lr.sN bs Wl.s0 6) #[.int .i64 (Lr.vN bs Wl.s0 0),.int .i64 (Lr.vN bs Wl.s0 1),.int .i64 (Lr.vN bs Wl.s0 2),.int .i64 (Lr.vN bs Wl.s0 3),.int .i64 (Lr.vN bs Wl.s0 4),.int .i64 0,.int .i64 0,.int .i64 0,.int .i64 0,.int .i64 0,.bool false,.string ⟨#[]⟩,.slice none 0 0]) := Lib.hid (HG4.out.call r5 k5)
 clear r5 k5
 have c5 := HQ5.out.cell 5
 have z5 := HQ5.out.fz 5
 simp only [List.getElem?_toArray,List.getElem?_cons_zero,List.getElem?_cons_succ] at c5
 have HG5 : Hid (Gr w (y5.setCell ⟨g,5,none⟩ (.int .i64 (Lr.vN bs Wl.s0 5))) p n bc g bo bs (Lr.sN bs Wl.s0 6) #[.int .i64 (Lr.vN bs Wl.s0 0),.int .i64 (Lr.vN bs Wl.s0 1),.int .i64 (Lr.vN bs Wl.s0 2),.int .i64 (Lr.vN bs Wl.s0 3),.int .i64 (Lr.vN bs Wl.s0 4),.int .i64 (Lr.vN bs Wl.s0 5),.int .i64 0,.int .i64 0,.int .i64 0,.int .i64 0,.bool false,.string ⟨#[]⟩,.slice none 0 0]) := Lib.hid (HQ5.out.set 5 (.int .i64 (Lr.vN bs Wl.s0 5)))
 obtain ⟨U5,hU5⟩ : ∃ U,y5.setCell ⟨g,5,none⟩ (.int .i64 (Lr.vN bs Wl.s0 5)) = U := ⟨_,rfl⟩
 rw [hU5] at HG5
 go_wp2_with fail
 clear hU5 c5 z5 HQ5 HG4
 refine (lrref_num 6 p bo n bc bs Wl.s0 U5 HG5.out.rd).mono ?_
 rintro e y6 ⟨rfl,r6,k6⟩
 have HQ6 : Hid (Gr w y6 p n bc g bo bs (Lr.sN bs Wl.s0 7) #[.int .i64 (Lr.vN bs Wl.s0 0),.int .i64 (Lr.vN bs Wl.s0 1),.int .i64 (Lr.vN bs Wl.s0 2),.int .i64 (Lr.vN bs Wl.s0 3),.int .i64 (Lr.vN bs Wl.s0 4),.int .i64 (Lr.vN bs Wl.s0 5),.int .i64 0,.int .i64 0,.int .i64 0,.int .i64 0,.bool false,.string ⟨#[]⟩,.slice none 0 0]) := Lib.hid (HG5.out.call r6 k6)
 clear r6 k6
 have c6 := HQ6.out.cell 6
 have z6 := HQ6.out.fz 6
 simp only [List.getElem?_toArray,List.getElem?_cons_zero,List.getElem?_cons_succ] at c6
 have HG6 : Hid (Gr w (y6.setCell ⟨g,6,none⟩ (.int .i64 (Lr.vN bs Wl.s0 6))) p n bc g bo bs (Lr.sN bs Wl.s0 7) #[.int .i64 (Lr.vN bs Wl.s0 0),.int .i64 (Lr.vN bs Wl.s0 1),.int .i64 (Lr.vN bs Wl.s0 2),.int .i64 (Lr.vN bs Wl.s0 3),.int .i64 (Lr.vN bs Wl.s0 4),.int .i64 (Lr.vN bs Wl.s0 5),.int .i64 (Lr.vN bs Wl.s0 6),.int .i64 0,.int .i64 0,.int .i64 0,.bool false,.string ⟨#[]⟩,.slice none 0 0]) := Lib.hid (HQ6.out.set 6 (.int .i64 (Lr.vN bs Wl.s0 6)))
 obtain ⟨U6,hU6⟩ : ∃ U,y6.setCell ⟨g,6,none⟩ (.int .i64 (Lr.vN bs Wl.s0 6)) = U := ⟨_,rfl⟩
 rw [hU6] at HG6
 go_wp2_with fail
 clear hU6 c6 z6 HQ6 HG5
 refine (lrref_num 7 p bo n bc bs Wl.s0 U6 HG6.out.rd).mono ?_
 rintro e y7 ⟨rfl,r7,k7⟩
 have HQ7 : Hid (Gr w y7 p n bc g bo bs (Lr.sN bs Wl.s0 8) #[.int .i64 (Lr.vN bs Wl.s0 0),.int .i64 (Lr.vN bs Wl.s0 1),.int .i64 (Lr.vN bs Wl.s0 2),.int .i64 (Lr.vN bs Wl.s0 3),.int .i64 (Lr.vN bs Wl.s0 4),.int .i64 (Lr.vN bs Wl.s0 5),.int .i64 (Lr.vN bs Wl.s0 6),.int .i64 0,.int .i64 0,.int .i64 0,.bool false,.string ⟨#[]⟩,.slice none 0 0]) := Lib.hid (HG6.out.call r7 k7)
 clear r7 k7
 have c7 := HQ7.out.cell 7
 have z7 := HQ7.out.fz 7
 simp only [List.getElem?_toArray,List.getElem?_cons_zero,List.getElem?_cons_succ] at c7
 have HG7 : Hid (Gr w (y7.setCell ⟨g,7,none⟩ (.int .i64 (Lr.vN bs Wl.s0 7))) p n bc g bo bs (Lr.sN bs Wl.s0 8) #[.int .i64 (Lr.vN bs Wl.s0 0),.int .i64 (Lr.vN bs Wl.s0 1),.int .i64 (Lr.vN bs Wl.s0 2),.int .i64 (Lr.vN bs Wl.s0 3),.int .i64 (Lr.vN bs Wl.s0 4),.int .i64 (Lr.vN bs Wl.s0 5),.int .i64 (Lr.vN bs Wl.s0 6),.int .i64 (Lr.vN bs Wl.s0 7),.int .i64 0,.int .i64 0,.bool false,.string ⟨#[]⟩,.slice none 0 0]) := Lib.hid (HQ7.out.set 7 (.int .i64 (Lr.vN bs Wl.s0 7)))
 obtain ⟨U7,hU7⟩ : ∃ U,y7.setCell ⟨g,7,none⟩ (.int .i64 (Lr.vN bs Wl.s0 7)) = U := ⟨_,rfl⟩
 rw [hU7] at HG7
 go_wp2_with fail
 clear hU7 c7 z7 HQ7 HG6
 refine (lrref_num 8 p bo n bc bs Wl.s0 U7 HG7.out.rd).mono ?_
 rintro e y8 ⟨rfl,r8,k8⟩
 have HQ8 : Hid (Gr w y8 p n bc g bo bs (Lr.sN bs Wl.s0 9) #[.int .i64 (Lr.vN bs Wl.s0 0),.int .i64 (Lr.vN bs Wl.s0 1),.int .i64 (Lr.vN bs Wl.s0 2),.int .i64 (Lr.vN bs Wl.s0 3),.int .i64 (Lr.vN bs Wl.s0 4),.int .i64 (Lr.vN bs Wl.s0 5),.int .i64 (Lr.vN bs Wl.s0 6),.int .i64 (Lr.vN bs Wl.s0 7),.int .i64 0,.int .i64 0,.bool false,.string ⟨#[]⟩,.slice none 0 0]) := Lib.hid (HG7.out.call r8 k8)
 clear r8 k8
 have c8 := HQ8.out.cell 8
 have z8 := HQ8.out.fz 8
 simp only [List.getElem?_toArray,List.getElem?_cons_zero,List.getElem?_cons_succ] at c8
 have HG8 : Hid (Gr w (y8.setCell ⟨g,8,none⟩ (.int .i64 (Lr.vN bs Wl.s0 8))) p n bc g bo bs (Lr.sN bs Wl.s0 9) #[.int .i64 (Lr.vN bs Wl.s0 0),.int .i64 (Lr.vN bs Wl.s0 1),.int .i64 (Lr.vN bs Wl.s0 2),.int .i64 (Lr.vN bs Wl.s0 3),.int .i64 (Lr.vN bs Wl.s0 4),.int .i64 (Lr.vN bs Wl.s0 5),.int .i64 (Lr.vN bs Wl.s0 6),.int .i64 (Lr.vN bs Wl.s0 7),.int .i64 (Lr.vN bs Wl.s0 8),.int .i64 0,.bool false,.string ⟨#[]⟩,.slice none 0 0]) := Lib.hid (HQ8.out.set 8 (.int .i64 (Lr.vN bs Wl.s0 8)))
 obtain ⟨U8,hU8⟩ : ∃ U,y8.setCell ⟨g,8,none⟩ (.int .i64 (Lr.vN bs Wl.s0 8)) = U := ⟨_,rfl⟩
 rw [hU8] at HG8
 go_wp2_with fail
 clear hU8 c8 z8 HQ8 HG7
 refine (lrref_num 9 p bo n bc bs Wl.s0 U8 HG8.out.rd).mono ?_
 rintro e y9 ⟨rfl,r9,k9⟩
 have HQ9 : Hid (Gr w y9 p n bc g bo bs (Lr.sN bs Wl.s0 10) #[.int .i64 (Lr.vN bs Wl.s0 0),.int .i64 (Lr.vN bs Wl.s0 1),.int .i64 (Lr.vN bs Wl.s0 2),.int .i64 (Lr.vN bs Wl.s0 3),.int .i64 (Lr.vN bs Wl.s0 4),.int .i64 (Lr.vN bs Wl.s0 5),.int .i64 (Lr.vN bs Wl.s0 6),.int .i64 (Lr.vN bs Wl.s0 7),.int .i64 (Lr.vN bs Wl.s0 8),.int .i64 0,.bool false,.string ⟨#[]⟩,.slice none 0 0]) := Lib.hid (HG8.out.call r9 k9)
 clear r9 k9
 have c9 := HQ9.out.cell 9
 have z9 := HQ9.out.fz 9
 simp only [List.getElem?_toArray,List.getElem?_cons_zero,List.getElem?_cons_succ] at c9
 have HG9 : Hid (Gr w (y9.setCell ⟨g,9,none⟩ (.int .i64 (Lr.vN bs Wl.s0 9))) p n bc g bo bs (Lr.sN bs Wl.s0 10) #[.int .i64 (Lr.vN bs Wl.s0 0),.int .i64 (Lr.vN bs Wl.s0 1),.int .i64 (Lr.vN bs Wl.s0 2),.int .i64 (Lr.vN bs Wl.s0 3),.int .i64 (Lr.vN bs Wl.s0 4),.int .i64 (Lr.vN bs Wl.s0 5),.int .i64 (Lr.vN bs Wl.s0 6),.int .i64 (Lr.vN bs Wl.s0 7),.int .i64 (Lr.vN bs Wl.s0 8),.int .i64 (Lr.vN bs Wl.s0 9),.bool false,.string ⟨#[]⟩,.slice none 0 0]) := Lib.hid (HQ9.out.set 9 (.int .i64 (Lr.vN bs Wl.s0 9)))
 obtain ⟨U9,hU9⟩ : ∃ U,y9.setCell ⟨g,9,none⟩ (.int .i64 (Lr.vN bs Wl.s0 9)) = U := ⟨_,rfl⟩
 rw [hU9] at HG9
 go_wp2_with fail
 clear hU9 c9 z9 HQ9 HG8
 refine (lref_flag p bo n bc bs (Lr.sN bs Wl.s0 10) U9 HG9.out.rd).mono ?_
 rintro e y10 ⟨rfl,r10,k10⟩
 have HQ10 : Hid (Gr w y10 p n bc g bo bs (Lr.sF bs Wl.s0) #[.int .i64 (Lr.vN bs Wl.s0 0),.int .i64 (Lr.vN bs Wl.s0 1),.int .i64 (Lr.vN bs Wl.s0 2),.int .i64 (Lr.vN bs Wl.s0 3),.int .i64 (Lr.vN bs Wl.s0 4),.int .i64 (Lr.vN bs Wl.s0 5),.int .i64 (Lr.vN bs Wl.s0 6),.int .i64 (Lr.vN bs Wl.s0 7),.int .i64 (Lr.vN bs Wl.s0 8),.int .i64 (Lr.vN bs Wl.s0 9),.bool false,.string ⟨#[]⟩,.slice none 0 0]) := Lib.hid (HG9.out.call r10 k10)
 clear r10 k10
 have c10 := HQ10.out.cell 10
 have z10 := HQ10.out.fz 10
 simp only [List.getElem?_toArray,List.getElem?_cons_zero,List.getElem?_cons_succ] at c10
 have HG10 : Hid (Gr w (y10.setCell ⟨g,10,none⟩ (.bool (Lr.rFlag bs (Lr.sN bs Wl.s0 10)).1)) p n bc g bo bs (Lr.sF bs Wl.s0) #[.int .i64 (Lr.vN bs Wl.s0 0),.int .i64 (Lr.vN bs Wl.s0 1),.int .i64 (Lr.vN bs Wl.s0 2),.int .i64 (Lr.vN bs Wl.s0 3),.int .i64 (Lr.vN bs Wl.s0 4),.int .i64 (Lr.vN bs Wl.s0 5),.int .i64 (Lr.vN bs Wl.s0 6),.int .i64 (Lr.vN bs Wl.s0 7),.int .i64 (Lr.vN bs Wl.s0 8),.int .i64 (Lr.vN bs Wl.s0 9),.bool (Lr.rFlag bs (Lr.sN bs Wl.s0 10)).1,.string ⟨#[]⟩,.slice none 0 0]) := Lib.hid (HQ10.out.set 10 (.bool (Lr.rFlag bs (Lr.sN bs Wl.s0 10)).1))
 obtain ⟨U10,hU10⟩ : ∃ U,y10.setCell ⟨g,10,none⟩ (.bool (Lr.rFlag bs (Lr.sN bs Wl.s0 10)).1) = U := ⟨_,rfl⟩
 rw [hU10] at HG10
 go_wp2_with fail
 clear hU10 c10 z10 HQ10 HG9
 refine (ref_rd_text p bo n bc bs 600 (Lr.sF bs Wl.s0) U10 HG10.out.rd).mono ?_
 rintro e y11 ⟨rfl,r11,k11⟩
 have HQ11 : Hid (Gr w y11 p n bc g bo bs (Lr.sT bs Wl.s0) #[.int .i64 (Lr.vN bs Wl.s0 0),.int .i64 (Lr.vN bs Wl.s0 1),.int .i64 (Lr.vN bs Wl.s0 2),.int .i64 (Lr.vN bs Wl.s0 3),.int .i64 (Lr.vN bs Wl.s0 4),.int .i64 (Lr.vN bs Wl.s0 5),.int .i64 (Lr.vN bs Wl.s0 6),.int .i64 (Lr.vN bs Wl.s0 7),.int .i64 (Lr.vN bs Wl.s0 8),.int .i64 (Lr.vN bs Wl.s0 9),.bool (Lr.rFlag bs (Lr.sN bs Wl.s0 10)).1,.string ⟨#[]⟩,.slice none 0 0]) := Lib.hid (HG10.out.call r11 k11)
 clear r11 k11
 have c11 := HQ11.out.cell 11
 have z11 := HQ11.out.fz 11
 simp only [List.getElem?_toArray,List.getElem?_cons_zero,List.getElem?_cons_succ] at c11
 have HG11 : Hid (Gr w (y11.setCell ⟨g,11,none⟩ (.string (rText bs 600 (Lr.sF bs Wl.s0)).1)) p n bc g bo bs (Lr.sT bs Wl.s0) #[.int .i64 (Lr.vN bs Wl.s0 0),.int .i64 (Lr.vN bs Wl.s0 1),.int .i64 (Lr.vN bs Wl.s0 2),.int .i64 (Lr.vN bs Wl.s0 3),.int .i64 (Lr.vN bs Wl.s0 4),.int .i64 (Lr.vN bs Wl.s0 5),.int .i64 (Lr.vN bs Wl.s0 6),.int .i64 (Lr.vN bs Wl.s0 7),.int .i64 (Lr.vN bs Wl.s0 8),.int .i64 (Lr.vN bs Wl.s0 9),.bool (Lr.rFlag bs (Lr.sN bs Wl.s0 10)).1,.string (rText bs 600 (Lr.sF bs Wl.s0)).1,.slice none 0 0]) := Lib.hid (HQ11.out.set 11 (.string (rText bs 600 (Lr.sF bs Wl.s0)).1))
 obtain ⟨U11,hU11⟩ : ∃ U,y11.setCell ⟨g,11,none⟩ (.string (rText bs 600 (Lr.sF bs Wl.s0)).1) = U := ⟨_,rfl⟩
 rw [hU11] at HG11
 go_wp2_with fail
 clear hU11 c11 z11 HQ11 HG10
 refine (ref_rd_count p bo n bc bs 8 (Lr.sT bs Wl.s0) U11 HG11.out.rd).mono ?_
 rintro e y12 ⟨rfl,r12,k12⟩
 have HQ := Lib.hid (HG11.out.call r12 k12)
 clear r12 k12 HG11
 obtain ⟨a0,ha0⟩ : ∃ a,Lr.vN bs Wl.s0 0 = a := ⟨_,rfl⟩
 rw [ha0] at HQ ⊢
 obtain ⟨a1,ha1⟩ : ∃ a,Lr.vN bs Wl.s0 1 = a := ⟨_,rfl⟩
 rw [ha1] at HQ ⊢
 obtain ⟨a2,ha2⟩ : ∃ a,Lr.vN bs Wl.s0 2 = a := ⟨_,rfl⟩
 rw [ha2] at HQ ⊢
 obtain ⟨a3,ha3⟩ : ∃ a,Lr.vN bs Wl.s0 3 = a := ⟨_,rfl⟩
 rw [ha3] at HQ ⊢
 obtain ⟨a4,ha4⟩ : ∃ a,Lr.vN bs Wl.s0 4 = a := ⟨_,rfl⟩
 rw [ha4] at HQ ⊢
 obtain ⟨a5,ha5⟩ : ∃ a,Lr.vN bs Wl.s0 5 = a := ⟨_,rfl⟩
 rw [ha5] at HQ ⊢
 obtain ⟨a6,ha6⟩ : ∃ a,Lr.vN bs Wl.s0 6 = a := ⟨_,rfl⟩
 rw [ha6] at HQ ⊢
 obtain ⟨a7,ha7⟩ : ∃ a,Lr.vN bs Wl.s0 7 = a := ⟨_,rfl⟩
 rw [ha7] at HQ ⊢
 obtain ⟨a8,ha8⟩ : ∃ a,Lr.vN bs Wl.s0 8 = a := ⟨_,rfl⟩
 rw [ha8] at HQ ⊢
 obtain ⟨a9,ha9⟩ : ∃ a,Lr.vN bs Wl.s0 9 = a := ⟨_,rfl⟩
 rw [ha9] at HQ ⊢
 obtain ⟨a10,ha10⟩ : ∃ a,(Lr.rFlag bs (Lr.sN bs Wl.s0 10)).1 = a := ⟨_,rfl⟩
 rw [ha10] at HQ ⊢
 obtain ⟨a11,ha11⟩ : ∃ a,(rText bs 600 (Lr.sF bs Wl.s0)).1 = a := ⟨_,rfl⟩
 rw [ha11] at HQ ⊢
 have HRT : Hid (∀ v : Sl,Lr.rT bs Wl.s0 v = ⟨a0,a1,a2,a3,a4,a5,a6,a7,a8,a9,a10,a11,v⟩) := Lib.hid fun v => by
  unfold Lr.rT
  rw [ha0,ha1,ha2,ha3,ha4,ha5,ha6,ha7,ha8,ha9,ha10,ha11]
 clear ha0 ha1 ha2 ha3 ha4 ha5 ha6 ha7 ha8 ha9 ha10 ha11
 have HP := Lib.hid (rCount_pos bs 8 (Lr.sT bs Wl.s0))
 have HMx : Hid ((rCount bs 8 (Lr.sT bs Wl.s0)).1 ≤ 8) := Lib.hid (by have h := Lr.count_most bs 8 (Lr.sT bs Wl.s0); rcases h with h | h <;> omega)
 have HEM : Hid (Lr.eM bs Wl.s0 = (Lr.rEnts bs (rCount bs 8 (Lr.sT bs Wl.s0)).1.toNat (rCount bs 8 (Lr.sT bs Wl.s0)).2).2) := Lib.hid rfl
 have HME : Hid ((Lr.rM bs Wl.s0).ents = (Lr.rEnts bs (rCount bs 8 (Lr.sT bs Wl.s0)).1.toNat (rCount bs 8 (Lr.sT bs Wl.s0)).2).1) := Lib.hid rfl
 obtain ⟨c,s1,hv⟩ : ∃ c s1,rCount bs 8 (Lr.sT bs Wl.s0) = (c,s1) := ⟨_,_,rfl⟩
 rw [hv] at HQ HP HMx HEM HME ⊢
 dsimp only at HQ HP HMx HEM HME ⊢
 obtain ⟨N,hN⟩ : ∃ N : Nat,c = (N : Int) := ⟨c.toNat,by have := HP.out; omega⟩
 subst hN
 rw [Int.toNat_natCast] at HEM HME
 have hN1 : N ≤ 8 := by have := HMx.out; omega
 clear hv
 go_wp2_with fail
 go_loopw [7,8] (fun j _ wr => ∃ (k : Nat) (vo : Option Addr) (q vc : Nat),k ≤ N ∧ j = .int .i64 k ∧ Hid (Gr w wr p n bc g bo bs (Lr.rEnts bs k s1).2 #[.int .i64 a0,.int .i64 a1,.int .i64 a2,.int .i64 a3,.int .i64 a4,.int .i64 a5,.int .i64 a6,.int .i64 a7,.int .i64 a8,.int .i64 a9,.bool a10,.string a11,.slice vo q vc]) ∧ Hid (Et.Own wr (g + 1) (.slice vo q vc) (Lr.rEnts bs k s1).1)) (fun j _ _ => N - (intOf j).toNat)
 case atStart => exact ⟨0,none,0,0,by omega,rfl,HQ,Lib.hid (Et.own_nil _ _)⟩
 case round =>
  clear HQ
  rename World => wz
  obtain ⟨k,vo,q,vc,hk,rfl,HG,HO⟩ := hrel
  have d2 := HG.out.rd.c2
  by_cases hlt : k < N
  ·
   by_cases he : (Lr.rEnts bs k s1).2.err = 0
   ·
    have HSn := Lib.hid (Lr.ents_snoc bs k s1)
    have HLn := Lib.hid (Lr.ents_len bs k s1)
    generalize Lr.rEnts bs k s1 = rk at HG HO HSn HLn d2 he
    obtain ⟨L,sk⟩ := rk
    dsimp only at HG HO HSn HLn d2 he
    rw [he] at d2
    go_wp2_with fail
    refine (ref_rd_num p bo n bc bs sk wz HG.out.rd).mono ?_
    rintro e y1 ⟨rfl,r1,k1⟩
    have HG1 := Lib.hid (HG.out.call r1 k1)
    have HO1 := Lib.hid (rows_upd HO.out k1 (by have := HG.out.gl; omega))
    obtain ⟨x1,s2,hx1⟩ : ∃ x s,rNum bs sk = (x,s) := ⟨_,_,rfl⟩
    have HX1 := Lib.hid hx1
    rw [hx1] at HG1 ⊢
    dsimp only at HG1 ⊢
    clear r1 k1 hx1 HO HG d2 he
    obtain ⟨E1,hE1,hbE,hCE⟩ := Et.boxed1 y1 ⟨x1,0,⟨#[]⟩⟩
    have HG2 := Lib.hid (HG1.out.below hbE)
    have HO2 := Lib.hid (Et.own_below HO1.out hbE)
    have HB2 : Hid (E1.heap[y1.heap.size]? = some (.cells #[.int .i64 x1,.int .i64 0,.string ⟨#[]⟩] 36 (0,0))) := Lib.hid (hE1 ▸ heap_alloc_new y1 _)
    have HOq : Hid (∀ k,(Value.slice vo q vc).ownBlock = some k → k ≠ y1.heap.size) := Lib.hid (fun k e => Nat.ne_of_lt (World.ownsRow.lt HO1.out k e).2)
    have HGQ : Hid (g < y1.heap.size) := Lib.hid (Array.getElem?_eq_some_iff.1 HG1.out.row).1
    have HE1 := Lib.hid hE1
    obtain ⟨q0,hq0⟩ : ∃ q,y1.heap.size = q := ⟨_,rfl⟩
    rw [hq0] at HB2 HGQ HOq
    have HQ0 := Lib.hid hq0
    clear hE1 hbE hCE HG1 HO1 hq0
    go_wp2_with fail
    rw [HE1.out,HQ0.out]
    clear HE1 HQ0
    refine (ref_rd_num p bo n bc bs s2 E1 HG2.out.rd).mono ?_
    rintro e y2 ⟨rfl,r2,k2⟩
    have HG3 := Lib.hid (HG2.out.call r2 k2)
    have HO3 := Lib.hid (rows_upd HO2.out k2 (by have := HG2.out.gl; omega))
    have HB3 := Lib.hid ((k2.block _ (Array.getElem?_eq_some_iff.1 HB2.out).1 (by have := HG2.out.gl; have := HGQ.out; omega)).trans HB2.out)
    obtain ⟨x2,s3,hx2⟩ : ∃ x s,rNum bs s2 = (x,s) := ⟨_,_,rfl⟩
    have HX2 := Lib.hid hx2
    rw [hx2] at HG3 ⊢
    dsimp only at HG3 ⊢
    have c1 : y2.cell? ⟨q0,1,none⟩ = some (.int .i64 0) := (cell_of_row y2 q0 1 _ _ _ HB3.out).trans rfl
    have z1 := frozen_of_row y2 q0 1 _ _ HB3.out
    have HG4 := Lib.hid (HG3.out.far HGQ.out 1 (.int .i64 x2))
    have HO4 := Lib.hid (Et.own_ne HO3.out HOq.out 1 (.int .i64 x2))
    have HB4 : Hid ((y2.setCell ⟨q0,1,none⟩ (.int .i64 x2)).heap[q0]? = some (.cells #[.int .i64 x1,.int .i64 x2,.string ⟨#[]⟩] 36 (0,0))) := Lib.hid ((heap_setCell_same y2 q0 1 _ _ (.int .i64 x2) HB3.out).trans rfl)
    obtain ⟨E4,hE4⟩ : ∃ E,y2.setCell ⟨q0,1,none⟩ (.int .i64 x2) = E := ⟨_,rfl⟩
    rw [hE4] at HG4 HO4 HB4
    clear r2 k2 hx2 HO3 HG3 HB3 HO2 HG2 HB2
    go_wp2_with fail
    clear hE4 c1 z1
    refine (ref_rd_text p bo n bc bs 1100 s3 E4 HG4.out.rd).mono ?_
    rintro e y3 ⟨rfl,r3,k3⟩
    have HG5 := Lib.hid (HG4.out.call r3 k3)
    have HO5 := Lib.hid (rows_upd HO4.out k3 (by have := HG4.out.gl; omega))
    have HB5 := Lib.hid ((k3.block _ (Array.getElem?_eq_some_iff.1 HB4.out).1 (by have := HG4.out.gl; have := HGQ.out; omega)).trans HB4.out)
    obtain ⟨x3,s4,hx3⟩ : ∃ x s,rText bs 1100 s3 = (x,s) := ⟨_,_,rfl⟩
    have HX3 := Lib.hid hx3
    rw [hx3] at HG5 ⊢
    dsimp only at HG5 ⊢
    have c2 : y3.cell? ⟨q0,2,none⟩ = some (.string ⟨#[]⟩) := (cell_of_row y3 q0 2 _ _ _ HB5.out).trans rfl
    have z2 := frozen_of_row y3 q0 2 _ _ HB5.out
    have HG6 := Lib.hid (HG5.out.far HGQ.out 2 (.string x3))
    have HO6 := Lib.hid (Et.own_ne HO5.out HOq.out 2 (.string x3))
    have HB6 : Hid ((y3.setCell ⟨q0,2,none⟩ (.string x3)).heap[q0]? = some (.cells #[.int .i64 x1,.int .i64 x2,.string x3] 36 (0,0))) := Lib.hid ((heap_setCell_same y3 q0 2 _ _ (.string x3) HB5.out).trans rfl)
    obtain ⟨E6,hE6⟩ : ∃ E,y3.setCell ⟨q0,2,none⟩ (.string x3) = E := ⟨_,rfl⟩
    rw [hE6] at HG6 HO6 HB6
    have HRe : Hid (Lr.rEnt bs sk = (⟨x1,x2,x3⟩,s4)) := Lib.hid (by
     unfold Lr.rEnt
     rw [HX1.out]
     dsimp only
     rw [HX2.out]
     dsimp only
     rw [HX3.out])
    rw [HRe.out] at HSn
    dsimp only at HSn
    have g12 := HG6.out.cell 12
    simp only [List.getElem?_toArray,List.getElem?_cons_zero,List.getElem?_cons_succ] at g12
    have e0 : E6.cell? ⟨q0,0,none⟩ = some (.int .i64 x1) := (cell_of_row E6 q0 0 _ _ _ HB6.out).trans rfl
    have e1 : E6.cell? ⟨q0,1,none⟩ = some (.int .i64 x2) := (cell_of_row E6 q0 1 _ _ _ HB6.out).trans rfl
    have e2 : E6.cell? ⟨q0,2,none⟩ = some (.string x3) := (cell_of_row E6 q0 2 _ _ _ HB6.out).trans rfl
    clear r3 k3 hx3 HO5 HG5 HB5 HO4 HG4 HB4
    go_wp2_with (at_builtin; go_must (refine Et.wpList_append _ rfl (.tmp 72) (.tmp 74) rfl (g + 1) (.slice vo q vc) L rfl (Et.own_alloc HO6.out _) (some ⟨E6.heap.size,0,none⟩) 1 1 [⟨x1,x2,x3⟩] rfl rfl (fun h => by cases h) (Et.seg_block (heap_alloc_new E6 _)) (by have := HLn.out; omega) (by have := (Array.getElem?_eq_some_iff.1 HG6.out.row).1; simp; omega) ?_))
    intro v5 w5 o5 gr5 _
    obtain ⟨va,vcp,hv5⟩ := rows_slice o5
    subst hv5
    have HG7 := Lib.hid (HG6.out.app _ gr5 (fun k e => ⟨by have := Et.own_ge HO6.out k e; omega,(World.ownsRow.lt HO6.out k e).2⟩))
    have g12' := HG7.out.cell 12
    simp only [List.getElem?_toArray,List.getElem?_cons_zero,List.getElem?_cons_succ] at g12'
    have z12 := HG7.out.fz 12
    obtain ⟨q5,hq5⟩ : ∃ q5,(L ++ [⟨x1,x2,x3⟩] : List Et.T).length = q5 := ⟨_,rfl⟩
    rw [hq5] at o5 ⊢
    have HG8 : Hid (Gr w (w5.setCell ⟨g,12,none⟩ (.slice va q5 vcp)) p n bc g bo bs s4 #[.int .i64 a0,.int .i64 a1,.int .i64 a2,.int .i64 a3,.int .i64 a4,.int .i64 a5,.int .i64 a6,.int .i64 a7,.int .i64 a8,.int .i64 a9,.bool a10,.string a11,.slice va q5 vcp]) := Lib.hid (HG7.out.set 12 (.slice va q5 vcp))
    have HO8 := Lib.hid (Et.own_far o5 (b := g) (Nat.lt_succ_self _) 12 (.slice va q5 vcp))
    clear gr5 o5 hE6 c2 z2 e0 e1 e2 g12 HG6 HO6 HB6 HG7 hq5
    go_wp2_with fail
    go_roundw
    case rel =>
     refine ⟨k + 1,va,q5,vcp,by omega,by go_num,Lib.hid ?_,Lib.hid ?_⟩
     ·
      rw [HSn.out.2]
      exact HG8.out
     ·
      rw [HSn.out.1]
      exact HO8.out
    case measure => simp [intOf]; omega
   ·
    have HEx : Hid (Lr.eM bs Wl.s0 = (Lr.rEnts bs k s1).2) := Lib.hid (by
     rw [HEM.out,show N = k + (N - k) by omega,Lr.ents_add,Lr.ents_wrong _ _ he (by rw [← HLen.out]; exact HG.out.rd.place)])
    have HGE : Hid (Lr.getE bs = if (rEnd bs (Lr.eM bs Wl.s0)).1 ≠ 0 then (rEnd bs (Lr.eM bs Wl.s0)).1 else if Lr.rightB (Lr.rM bs Wl.s0) = true then 0 else 4) := Lib.hid rfl
    have HGM : Hid (Lr.getM bs = if (rEnd bs (Lr.eM bs Wl.s0)).1 = 0 ∧ Lr.rightB (Lr.rM bs Wl.s0) = true then Lr.rM bs Wl.s0 else Lr.zeroM) := Lib.hid rfl
    rw [HEx.out] at HGE HGM
    have qe : ((Lr.rEnts bs k s1).2.err == 0) = false := beq_eq_false_iff_ne.2 he
    have hz : (rEnd bs (Lr.rEnts bs k s1).2).1 ≠ 0 := by
     rw [rEnd_else (fun z => he z.1)]
     exact he
    generalize (Lr.rEnts bs k s1).2 = sk at HG HGE HGM d2 qe hz
    have HE1 : Hid (Lr.getE bs = (rEnd bs sk).1) := Lib.hid (by rw [HGE.out]; exact if_pos hz)
    have HM1 : Hid (Lr.getM bs = Lr.zeroM) := Lib.hid (by rw [HGM.out]; exact if_neg (fun z => hz z.1))
    have qz : ((rEnd bs sk).1 != 0) = true := bne_iff_ne.2 hz
    clear he hz HGE HGM HEx HO
    go_wp2_with fail
    refine (ref_rd_end p bo n bc bs sk wz HG.out.rd).mono ?_
    rintro e y13 ⟨rfl,r13,k13⟩
    have HZ := Lib.hid (HG.out.call r13 k13)
    generalize (rEnd bs sk).1 = ze at HE1 qz ⊢
    clear r13 k13 HG d2
    have x0 := HZ.out.rcell 0
    have q0 := HZ.out.rfz 0
    have x1 := HZ.out.rcell 1
    have q1 := HZ.out.rfz 1
    have x2 := HZ.out.rcell 2
    have q2 := HZ.out.rfz 2
    have x3 := HZ.out.rcell 3
    have q3 := HZ.out.rfz 3
    have x4 := HZ.out.rcell 4
    have q4 := HZ.out.rfz 4
    have x5 := HZ.out.rcell 5
    have q5 := HZ.out.rfz 5
    have x6 := HZ.out.rcell 6
    have q6 := HZ.out.rfz 6
    have x7 := HZ.out.rcell 7
    have q7 := HZ.out.rfz 7
    have x8 := HZ.out.rcell 8
    have q8 := HZ.out.rfz 8
    have x9 := HZ.out.rcell 9
    have q9 := HZ.out.rfz 9
    have x10 := HZ.out.rcell 10
    have q10 := HZ.out.rfz 10
    have x11 := HZ.out.rcell 11
    have q11 := HZ.out.rfz 11
    have x12 := HZ.out.rcell 12
    have q12 := HZ.out.rfz 12
    simp only [List.getElem?_toArray,List.getElem?_cons_zero,List.getElem?_cons_succ] at x0 x1 x2 x3 x4 x5 x6 x7 x8 x9 x10 x11 x12
    go_wp2_with fail
    have hfin := Lr.heap_lay HZ.out.res ⟨0,0,0,0,0,0,0,0,0,0,false,⟨#[]⟩,⟨none,0,0⟩⟩
    have HF := Lib.hid (HZ.out.void ze HE1.out HM1.out)
    obtain ⟨W,hWl⟩ : ∃ W,Lr.lay y13 w.heap.size ⟨0,0,0,0,0,0,0,0,0,0,false,⟨#[]⟩,⟨none,0,0⟩⟩ = W := ⟨_,rfl⟩
    rw [hWl] at hfin HF
    unfold Lr.lay at hWl
    try dsimp only at hWl
    rw [hWl]
    exact bodyPost_ret (Lr.results_lr2 Try.results20 rfl hfin rfl) rfl HF.out
  ·
   obtain rfl : k = N := by omega
   have HGE : Hid (Lr.getE bs = if (rEnd bs (Lr.eM bs Wl.s0)).1 ≠ 0 then (rEnd bs (Lr.eM bs Wl.s0)).1 else if Lr.rightB (Lr.rM bs Wl.s0) = true then 0 else 4) := Lib.hid rfl
   have HGM : Hid (Lr.getM bs = if (rEnd bs (Lr.eM bs Wl.s0)).1 = 0 ∧ Lr.rightB (Lr.rM bs Wl.s0) = true then Lr.rM bs Wl.s0 else Lr.zeroM) := Lib.hid rfl
   have HSh : Hid (∀ e ∈ (Lr.rM bs Wl.s0).ents,Et.Short e) := Lib.hid (Lr.ents_short bs _ _)
   have HRM : Hid (Lr.m ⟨a0,a1,a2,a3,a4,a5,a6,a7,a8,a9,a10,a11,⟨vo,q,vc⟩⟩ (Lr.rM bs Wl.s0).ents = Lr.rM bs Wl.s0) := Lib.hid (by
    rw [← HRT.out]
    rfl)
   rw [HEM.out] at HGE HGM
   rw [← HME.out] at HO
   generalize (Lr.rEnts bs k s1).2 = sk at HG HGE HGM d2
   generalize Lr.rM bs Wl.s0 = M at HO HRM HGE HGM HSh
   clear HRT HEM HME
   go_wp2_with fail
   refine (ref_rd_end p bo n bc bs sk wz HG.out.rd).mono ?_
   rintro e y13 ⟨rfl,r13,k13⟩
   have HZ := Lib.hid (HG.out.call r13 k13)
   have HOz := Lib.hid (rows_upd HO.out k13 (by have := HG.out.gl; omega))
   generalize (rEnd bs sk).2 = s5 at HZ
   generalize (rEnd bs sk).1 = ze at HGE HGM ⊢
   clear r13 k13 HG d2 HO
   by_cases hz : ze = 0
   ·
    subst hz
    have hLs : Et.Ls y13 vo q vc M.ents := Lr.ents_ls (r := ⟨a0,a1,a2,a3,a4,a5,a6,a7,a8,a9,a10,a11,⟨vo,q,vc⟩⟩) (B := g + 1) HOz.out HSh.out
    have HCr := Lib.hid (Lr.rl_right ⟨a0,a1,a2,a3,a4,a5,a6,a7,a8,a9,a10,a11,⟨vo,q,vc⟩⟩ M.ents y13 hLs)
    rw [HRM.out] at HCr
    unfold Lr.val at HCr
    dsimp only at HCr
    cases hq : Lr.rightB M
    ·
     rw [hq] at HCr HGE HGM
     have HE1 : Hid (Lr.getE bs = 4) := Lib.hid (by rw [HGE.out]; rfl)
     have HM1 : Hid (Lr.getM bs = Lr.zeroM) := Lib.hid (by rw [HGM.out]; exact if_neg (fun z => by cases z.2))
     clear hq HGE HGM hLs
     have c0 := HZ.out.cell 0
     have c1 := HZ.out.cell 1
     have c2 := HZ.out.cell 2
     have c3 := HZ.out.cell 3
     have c4 := HZ.out.cell 4
     have c5 := HZ.out.cell 5
     have c6 := HZ.out.cell 6
     have c7 := HZ.out.cell 7
     have c8 := HZ.out.cell 8
     have c9 := HZ.out.cell 9
     have c10 := HZ.out.cell 10
     have c11 := HZ.out.cell 11
     have c12 := HZ.out.cell 12
     simp only [List.getElem?_toArray,List.getElem?_cons_zero,List.getElem?_cons_succ] at c0 c1 c2 c3 c4 c5 c6 c7 c8 c9 c10 c11 c12
     go_wp2_with (go_at_call 15; refine HCr.out.mono ?_)
     rintro e w5 ⟨rfl,b5⟩
     have HQ5 := Lib.hid (HZ.out.below b5)
     clear b5 HZ c0 c1 c2 c3 c4 c5 c6 c7 c8 c9 c10 c11 c12
     have x0 := HQ5.out.rcell 0
     have q0 := HQ5.out.rfz 0
     have x1 := HQ5.out.rcell 1
     have q1 := HQ5.out.rfz 1
     have x2 := HQ5.out.rcell 2
     have q2 := HQ5.out.rfz 2
     have x3 := HQ5.out.rcell 3
     have q3 := HQ5.out.rfz 3
     have x4 := HQ5.out.rcell 4
     have q4 := HQ5.out.rfz 4
     have x5 := HQ5.out.rcell 5
     have q5 := HQ5.out.rfz 5
     have x6 := HQ5.out.rcell 6
     have q6 := HQ5.out.rfz 6
     have x7 := HQ5.out.rcell 7
     have q7 := HQ5.out.rfz 7
     have x8 := HQ5.out.rcell 8
     have q8 := HQ5.out.rfz 8
     have x9 := HQ5.out.rcell 9
     have q9 := HQ5.out.rfz 9
     have x10 := HQ5.out.rcell 10
     have q10 := HQ5.out.rfz 10
     have x11 := HQ5.out.rcell 11
     have q11 := HQ5.out.rfz 11
     have x12 := HQ5.out.rcell 12
     have q12 := HQ5.out.rfz 12
     simp only [List.getElem?_toArray,List.getElem?_cons_zero,List.getElem?_cons_succ] at x0 x1 x2 x3 x4 x5 x6 x7 x8 x9 x10 x11 x12
     go_wp2_with fail
     have hfin := Lr.heap_lay HQ5.out.res ⟨0,0,0,0,0,0,0,0,0,0,false,⟨#[]⟩,⟨none,0,0⟩⟩
     have HF := Lib.hid (HQ5.out.void 4 HE1.out HM1.out)
     obtain ⟨W,hWl⟩ : ∃ W,Lr.lay w5 w.heap.size ⟨0,0,0,0,0,0,0,0,0,0,false,⟨#[]⟩,⟨none,0,0⟩⟩ = W := ⟨_,rfl⟩
     rw [hWl] at hfin HF
     unfold Lr.lay at hWl
     try dsimp only at hWl
     rw [hWl]
     exact bodyPost_ret (Lr.results_lr2 Try.results20 rfl hfin rfl) rfl HF.out
    ·
     rw [hq] at HCr HGE HGM
     have HE1 : Hid (Lr.getE bs = 0) := Lib.hid (by rw [HGE.out]; rfl)
     have HM1 : Hid (Lr.getM bs = M) := Lib.hid (by rw [HGM.out]; exact if_pos ⟨rfl,rfl⟩)
     clear hq HGE HGM hLs
     have c0 := HZ.out.cell 0
     have c1 := HZ.out.cell 1
     have c2 := HZ.out.cell 2
     have c3 := HZ.out.cell 3
     have c4 := HZ.out.cell 4
     have c5 := HZ.out.cell 5
     have c6 := HZ.out.cell 6
     have c7 := HZ.out.cell 7
     have c8 := HZ.out.cell 8
     have c9 := HZ.out.cell 9
     have c10 := HZ.out.cell 10
     have c11 := HZ.out.cell 11
     have c12 := HZ.out.cell 12
     simp only [List.getElem?_toArray,List.getElem?_cons_zero,List.getElem?_cons_succ] at c0 c1 c2 c3 c4 c5 c6 c7 c8 c9 c10 c11 c12
     go_wp2_with (go_at_call 15; refine HCr.out.mono ?_)
     rintro e w5 ⟨rfl,b5⟩
     have HQ5 := Lib.hid (HZ.out.below b5)
     have HO5 := Lib.hid (Et.own_below HOz.out b5)
     clear b5 HZ c0 c1 c2 c3 c4 c5 c6 c7 c8 c9 c10 c11 c12
     have c0 := HQ5.out.cell 0
     have c1 := HQ5.out.cell 1
     have c2 := HQ5.out.cell 2
     have c3 := HQ5.out.cell 3
     have c4 := HQ5.out.cell 4
     have c5 := HQ5.out.cell 5
     have c6 := HQ5.out.cell 6
     have c7 := HQ5.out.cell 7
     have c8 := HQ5.out.cell 8
     have c9 := HQ5.out.cell 9
     have c10 := HQ5.out.cell 10
     have c11 := HQ5.out.cell 11
     have c12 := HQ5.out.cell 12
     simp only [List.getElem?_toArray,List.getElem?_cons_zero,List.getElem?_cons_succ] at c0 c1 c2 c3 c4 c5 c6 c7 c8 c9 c10 c11 c12
     have x0 := HQ5.out.rcell 0
     have q0 := HQ5.out.rfz 0
     have x1 := HQ5.out.rcell 1
     have q1 := HQ5.out.rfz 1
     have x2 := HQ5.out.rcell 2
     have q2 := HQ5.out.rfz 2
     have x3 := HQ5.out.rcell 3
     have q3 := HQ5.out.rfz 3
     have x4 := HQ5.out.rcell 4
     have q4 := HQ5.out.rfz 4
     have x5 := HQ5.out.rcell 5
     have q5 := HQ5.out.rfz 5
     have x6 := HQ5.out.rcell 6
     have q6 := HQ5.out.rfz 6
     have x7 := HQ5.out.rcell 7
     have q7 := HQ5.out.rfz 7
     have x8 := HQ5.out.rcell 8
     have q8 := HQ5.out.rfz 8
     have x9 := HQ5.out.rcell 9
     have q9 := HQ5.out.rfz 9
     have x10 := HQ5.out.rcell 10
     have q10 := HQ5.out.rfz 10
     have x11 := HQ5.out.rcell 11
     have q11 := HQ5.out.rfz 11
     have x12 := HQ5.out.rcell 12
     have q12 := HQ5.out.rfz 12
     simp only [List.getElem?_toArray,List.getElem?_cons_zero,List.getElem?_cons_succ] at x0 x1 x2 x3 x4 x5 x6 x7 x8 x9 x10 x11 x12
     go_wp2_with fail
     have hfin := Lr.heap_lay HQ5.out.res ⟨a0,a1,a2,a3,a4,a5,a6,a7,a8,a9,a10,a11,⟨vo,q,vc⟩⟩
     have HF := Lib.hid (HQ5.out.got (r := ⟨a0,a1,a2,a3,a4,a5,a6,a7,a8,a9,a10,a11,⟨vo,q,vc⟩⟩) HO5.out HE1.out HM1.out HRM.out HSh.out)
     obtain ⟨W,hWl⟩ : ∃ W,Lr.lay w5 w.heap.size ⟨a0,a1,a2,a3,a4,a5,a6,a7,a8,a9,a10,a11,⟨vo,q,vc⟩⟩ = W := ⟨_,rfl⟩
     rw [hWl] at hfin HF
     unfold Lr.lay at hWl
     try dsimp only at hWl
     rw [hWl]
     exact bodyPost_ret (Lr.results_lr2 Try.results20 rfl hfin rfl) rfl HF.out
   ·
    have HE1 : Hid (Lr.getE bs = ze) := Lib.hid (by rw [HGE.out]; exact if_pos hz)
    have HM1 : Hid (Lr.getM bs = Lr.zeroM) := Lib.hid (by rw [HGM.out]; exact if_neg (fun q => hz q.1))
    have qz : (ze != 0) = true := bne_iff_ne.2 hz
    clear hz HGE HGM
    have x0 := HZ.out.rcell 0
    have q0 := HZ.out.rfz 0
    have x1 := HZ.out.rcell 1
    have q1 := HZ.out.rfz 1
    have x2 := HZ.out.rcell 2
    have q2 := HZ.out.rfz 2
    have x3 := HZ.out.rcell 3
    have q3 := HZ.out.rfz 3
    have x4 := HZ.out.rcell 4
    have q4 := HZ.out.rfz 4
    have x5 := HZ.out.rcell 5
    have q5 := HZ.out.rfz 5
    have x6 := HZ.out.rcell 6
    have q6 := HZ.out.rfz 6
    have x7 := HZ.out.rcell 7
    have q7 := HZ.out.rfz 7
    have x8 := HZ.out.rcell 8
    have q8 := HZ.out.rfz 8
    have x9 := HZ.out.rcell 9
    have q9 := HZ.out.rfz 9
    have x10 := HZ.out.rcell 10
    have q10 := HZ.out.rfz 10
    have x11 := HZ.out.rcell 11
    have q11 := HZ.out.rfz 11
    have x12 := HZ.out.rcell 12
    have q12 := HZ.out.rfz 12
    simp only [List.getElem?_toArray,List.getElem?_cons_zero,List.getElem?_cons_succ] at x0 x1 x2 x3 x4 x5 x6 x7 x8 x9 x10 x11 x12
    go_wp2_with fail
    have hfin := Lr.heap_lay HZ.out.res ⟨0,0,0,0,0,0,0,0,0,0,false,⟨#[]⟩,⟨none,0,0⟩⟩
    have HF := Lib.hid (HZ.out.void ze HE1.out HM1.out)
    obtain ⟨W,hWl⟩ : ∃ W,Lr.lay y13 w.heap.size ⟨0,0,0,0,0,0,0,0,0,0,false,⟨#[]⟩,⟨none,0,0⟩⟩ = W := ⟨_,rfl⟩
    rw [hWl] at hfin HF
    unfold Lr.lay at hWl
    try dsimp only at hWl
    rw [hWl]
    exact bodyPost_ret (Lr.results_lr2 Try.results20 rfl hfin rfl) rfl HF.out
end Go.Proofs.Ytagjbjppddbalaa
