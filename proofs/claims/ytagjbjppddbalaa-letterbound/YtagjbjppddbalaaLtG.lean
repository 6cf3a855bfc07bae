/- CONTRACTS OF PACKAGE letter: read, Get. (By genltg.py.) -/
import Derived.Test.YtagjbjppddbalaaLtF
import Derived.Test.YtagjbjppddbalaaEtM
set_option maxRecDepth 100000
set_option linter.unusedVariables false
namespace Go.Proofs.Ytagjbjppddbalaa
open Go.RowKit
open Mem Pk

/-- a reader beside an answer's block that waits -/
structure Rq (w u : World) (p : Nat) (ao : Option Addr) (n cap : Nat) (bs : List UInt8) (s : St) : Prop where
  rd : Rd u p ao n cap bs s
  upd : Upd w p u
  res : u.heap[w.heap.size]? = some (.cells #[.int .i64 0, .int .i64 0, .int .i64 0, .int .i64 0, .int .i64 0, .int .i64 0, .int .i64 0, .int .i64 0, .int .i64 0, .int .i64 0, .bool false, .string ⟨#[]⟩, .slice none 0 0] 24 (0, 0))
  lt : p < w.heap.size
section
variable {w u v : World} {p n cap : Nat} {ao : Option Addr} {bs : List UInt8} {s s' : St}
theorem Rq.start (hR : Rd w p ao n cap bs s) : Rq w (w.alloc (.cells #[.int .i64 0, .int .i64 0, .int .i64 0, .int .i64 0, .int .i64 0, .int .i64 0, .int .i64 0, .int .i64 0, .int .i64 0, .int .i64 0, .bool false, .string ⟨#[]⟩, .slice none 0 0] 24)) p ao n cap bs s :=
  have hb : Below w.heap.size w (w.alloc (.cells #[.int .i64 0, .int .i64 0, .int .i64 0, .int .i64 0, .int .i64 0, .int .i64 0, .int .i64 0, .int .i64 0, .int .i64 0, .int .i64 0, .bool false, .string ⟨#[]⟩, .slice none 0 0] 24)) := (Below.refl _ _).alloc (Nat.le_refl _) _
  ⟨hR.below hb, Upd.of p hb, heap_alloc_new w _, cell_lt hR.c0⟩
theorem Rq.call (h : Rq w u p ao n cap bs s) (r : Rd v p ao n cap bs s') (k : Upd u p v) : Rq w v p ao n cap bs s' :=
  ⟨r, h.upd.trans k, (k.block _ (Array.getElem?_eq_some_iff.1 h.res).1 (by have := h.lt; omega)).trans h.res, h.lt⟩
theorem Rq.cell (h : Rq w u p ao n cap bs s) (i : Nat) : u.cell? ⟨w.heap.size, i, none⟩ = (#[.int .i64 0, .int .i64 0, .int .i64 0, .int .i64 0, .int .i64 0, .int .i64 0, .int .i64 0, .int .i64 0, .int .i64 0, .int .i64 0, .bool false, .string ⟨#[]⟩, .slice none 0 0] : Array Value)[i]? := cell_of_row u _ i _ _ _ h.res
theorem Rq.fz (h : Rq w u p ao n cap bs s) (o : Nat) : u.frozen? ⟨w.heap.size, o, none⟩ = false := frozen_of_row u _ o _ _ h.res
end
theorem lrd_num (k : Nat) (p : Nat) (ao : Option Addr) (n cap : Nat) (bs : List UInt8) (s : St) (w : World) (hR : Rd w p ao n cap bs (Lr.sN bs s k)) :
    Calls Try.prog 47 #[.pointer (some ⟨p, 0, none⟩)] w fun e w' => e = .returned (.int .i64 (Lr.vN bs s k)) ∧ Rd w' p ao n cap bs (Lr.sN bs s (k + 1)) ∧ Upd w p w' := rd_num p ao n cap bs _ w hR
/-- a letter's row laid into a block -/
def Lr.lay (u : World) (g : Nat) (r : Lr.T) : World := (((((((((((((u.setCell ⟨g, 0, none⟩ (.int .i64 r.kind)).setCell ⟨g, 1, none⟩ (.int .i64 r.frm)).setCell ⟨g, 2, none⟩ (.int .i64 r.to)).setCell ⟨g, 3, none⟩ (.int .i64 r.term)).setCell ⟨g, 4, none⟩ (.int .i64 r.idx)).setCell ⟨g, 5, none⟩ (.int .i64 r.bt)).setCell ⟨g, 6, none⟩ (.int .i64 r.com)).setCell ⟨g, 7, none⟩ (.int .i64 r.mem)).setCell ⟨g, 8, none⟩ (.int .i64 r.off)).setCell ⟨g, 9, none⟩ (.int .i64 r.size)).setCell ⟨g, 10, none⟩ (.bool r.yes)).setCell ⟨g, 11, none⟩ (.string r.data)).setCell ⟨g, 12, none⟩ (.slice r.ents.ao r.ents.n r.ents.cap))
def Lr.rvA (r : Lr.T) : Array Value := #[.int .i64 r.kind, .int .i64 r.frm, .int .i64 r.to, .int .i64 r.term, .int .i64 r.idx, .int .i64 r.bt, .int .i64 r.com, .int .i64 r.mem, .int .i64 r.off, .int .i64 r.size, .bool r.yes, .string r.data, .slice r.ents.ao r.ents.n r.ents.cap]
theorem Lr.lrInfo : (Try.prog.info? 24).map (·.size) = some 13 := by kernel_rfl
theorem Lr.results_lr {fn : Func} {p : Tmp} (h : fn.results = #[.cell p 24]) {tmps : Array Value} {w : World} {g : Nat} {r : Lr.T} (hp : tmps.getD p undef = .pointer (some ⟨g, 0, none⟩))
    (hg : w.heap[g]? = some (.cells (Lr.rvA r) 24 (0, 0))) : (results fn tmps).run Try.prog w = .ok (Lr.val r) w :=
  results_cell_row h tmps w g 24 (Lr.rvA r) (0, 0) _ hp hg Try.underlying24 rfl (by rw [Lr.lrInfo]; rfl)
theorem Lr.heap_lay {w : World} {g : Nat} {x0 x1 x2 x3 x4 x5 x6 x7 x8 x9 x10 x11 x12 : Value} {ty : TypeId} (h : w.heap[g]? = some (.cells #[x0, x1, x2, x3, x4, x5, x6, x7, x8, x9, x10, x11, x12] ty (0, 0))) (r : Lr.T) : (Lr.lay w g r).heap[g]? = some (.cells (Lr.rvA r) ty (0, 0)) := by
  unfold Lr.lay
  have h0 := (heap_setCell_same _ g 0 _ _ (.int .i64 r.kind) h).trans (show _ = some (Obj.cells #[.int .i64 r.kind, x1, x2, x3, x4, x5, x6, x7, x8, x9, x10, x11, x12] ty (0, 0)) from rfl)
  have h1 := (heap_setCell_same _ g 1 _ _ (.int .i64 r.frm) h0).trans (show _ = some (Obj.cells #[.int .i64 r.kind, .int .i64 r.frm, x2, x3, x4, x5, x6, x7, x8, x9, x10, x11, x12] ty (0, 0)) from rfl)
  have h2 := (heap_setCell_same _ g 2 _ _ (.int .i64 r.to) h1).trans (show _ = some (Obj.cells #[.int .i64 r.kind, .int .i64 r.frm, .int .i64 r.to, x3, x4, x5, x6, x7, x8, x9, x10, x11, x12] ty (0, 0)) from rfl)
  have h3 := (heap_setCell_same _ g 3 _ _ (.int .i64 r.term) h2).trans (show _ = some (Obj.cells #[.int .i64 r.kind, .int .i64 r.frm, .int .i64 r.to, .int .i64 r.term, x4, x5, x6, x7, x8, x9, x10, x11, x12] ty (0, 0)) from rfl)
  have h4 := (heap_setCell_same _ g 4 _ _ (.int .i64 r.idx) h3).trans (show _ = some (Obj.cells #[.int .i64 r.kind, .int .i64 r.frm, .int .i64 r.to, .int .i64 r.term, .int .i64 r.idx, x5, x6, x7, x8, x9, x10, x11, x12] ty (0, 0)) from rfl)
  have h5 := (heap_setCell_same _ g 5 _ _ (.int .i64 r.bt) h4).trans (show _ = some (Obj.cells #[.int .i64 r.kind, .int .i64 r.frm, .int .i64 r.to, .int .i64 r.term, .int .i64 r.idx, .int .i64 r.bt, x6, x7, x8, x9, x10, x11, x12] ty (0, 0)) from rfl)
  have h6 := (heap_setCell_same _ g 6 _ _ (.int .i64 r.com) h5).trans (show _ = some (Obj.cells #[.int .i64 r.kind, .int .i64 r.frm, .int .i64 r.to, .int .i64 r.term, .int .i64 r.idx, .int .i64 r.bt, .int .i64 r.com, x7, x8, x9, x10, x11, x12] ty (0, 0)) from rfl)
  have h7 := (heap_setCell_same _ g 7 _ _ (.int .i64 r.mem) h6).trans (show _ = some (Obj.cells #[.int .i64 r.kind, .int .i64 r.frm, .int .i64 r.to, .int .i64 r.term, .int .i64 r.idx, .int .i64 r.bt, .int .i64 r.com, .int .i64 r.mem, x8, x9, x10, x11, x12] ty (0, 0)) from rfl)
  have h8 := (heap_setCell_same _ g 8 _ _ (.int .i64 r.off) h7).trans (show _ = some (Obj.cells #[.int .i64 r.kind, .int .i64 r.frm, .int .i64 r.to, .int .i64 r.term, .int .i64 r.idx, .int .i64 r.bt, .int .i64 r.com, .int .i64 r.mem, .int .i64 r.off, x9, x10, x11, x12] ty (0, 0)) from rfl)
  have h9 := (heap_setCell_same _ g 9 _ _ (.int .i64 r.size) h8).trans (show _ = some (Obj.cells #[.int .i64 r.kind, .int .i64 r.frm, .int .i64 r.to, .int .i64 r.term, .int .i64 r.idx, .int .i64 r.bt, .int .i64 r.com, .int .i64 r.mem, .int .i64 r.off, .int .i64 r.size, x10, x11, x12] ty (0, 0)) from rfl)
  have h10 := (heap_setCell_same _ g 10 _ _ (.bool r.yes) h9).trans (show _ = some (Obj.cells #[.int .i64 r.kind, .int .i64 r.frm, .int .i64 r.to, .int .i64 r.term, .int .i64 r.idx, .int .i64 r.bt, .int .i64 r.com, .int .i64 r.mem, .int .i64 r.off, .int .i64 r.size, .bool r.yes, x11, x12] ty (0, 0)) from rfl)
  have h11 := (heap_setCell_same _ g 11 _ _ (.string r.data) h10).trans (show _ = some (Obj.cells #[.int .i64 r.kind, .int .i64 r.frm, .int .i64 r.to, .int .i64 r.term, .int .i64 r.idx, .int .i64 r.bt, .int .i64 r.com, .int .i64 r.mem, .int .i64 r.off, .int .i64 r.size, .bool r.yes, .string r.data, x12] ty (0, 0)) from rfl)
  have h12 := (heap_setCell_same _ g 12 _ _ (.slice r.ents.ao r.ents.n r.ents.cap) h11).trans (show _ = some (Obj.cells #[.int .i64 r.kind, .int .i64 r.frm, .int .i64 r.to, .int .i64 r.term, .int .i64 r.idx, .int .i64 r.bt, .int .i64 r.com, .int .i64 r.mem, .int .i64 r.off, .int .i64 r.size, .bool r.yes, .string r.data, .slice r.ents.ao r.ents.n r.ents.cap] ty (0, 0)) from rfl)
  exact h12
theorem Lr.own_lay {u : World} {g B : Nat} {v : Value} {xs : List Et.T} (h : Et.Own u B v xs) (hg : g < B) (r : Lr.T) : Et.Own (Lr.lay u g r) B v xs := Et.own_far (Et.own_far (Et.own_far (Et.own_far (Et.own_far (Et.own_far (Et.own_far (Et.own_far (Et.own_far (Et.own_far (Et.own_far (Et.own_far (Et.own_far h hg 0 _) hg 1 _) hg 2 _) hg 3 _) hg 4 _) hg 5 _) hg 6 _) hg 7 _) hg 8 _) hg 9 _) hg 10 _) hg 11 _) hg 12 _
theorem Lr.rd_lay {u : World} {p g n cap : Nat} {ao : Option Addr} {bs : List UInt8} {s : St} (h : Rd u p ao n cap bs s) (hg : Off p g n ao) (r : Lr.T) : Rd (Lr.lay u g r) p ao n cap bs s := (((((((((((((((((((((((((h.other hg _)).other hg _)).other hg _)).other hg _)).other hg _)).other hg _)).other hg _)).other hg _)).other hg _)).other hg _)).other hg _)).other hg _)).other hg _)
theorem Lr.upd_lay {w u : World} {p g : Nat} (h : Upd w p u) (hg : w.heap.size ≤ g) (r : Lr.T) : Upd w p (Lr.lay u g r) := (((((((((((((h.fresh hg _).fresh hg _).fresh hg _).fresh hg _).fresh hg _).fresh hg _).fresh hg _).fresh hg _).fresh hg _).fresh hg _).fresh hg _).fresh hg _).fresh hg _)
theorem Lr.below_lay {w u : World} {g : Nat} (h : Below w.heap.size w u) (hg : w.heap.size ≤ g) (r : Lr.T) : Below w.heap.size w (Lr.lay u g r) := (bset (bset (bset (bset (bset (bset (bset (bset (bset (bset (bset (bset (bset h hg 0 _) hg 1 _) hg 2 _) hg 3 _) hg 4 _) hg 5 _) hg 6 _) hg 7 _) hg 8 _) hg 9 _) hg 10 _) hg 11 _) hg 12 _)
/-- a letter as it is read, its entries as a slice -/
def Lr.rT (bs : List UInt8) (s : St) (v : Sl) : Lr.T := ⟨Lr.vN bs s 0, Lr.vN bs s 1, Lr.vN bs s 2, Lr.vN bs s 3, Lr.vN bs s 4, Lr.vN bs s 5, Lr.vN bs s 6, Lr.vN bs s 7, Lr.vN bs s 8, Lr.vN bs s 9, (Lr.rFlag bs (Lr.sN bs s 10)).1, (rText bs 600 (Lr.sF bs s)).1, v⟩
set_option maxHeartbeats 1000000 in
theorem lt_read (p : Nat) (ao : Option Addr) (n cap : Nat) (bs : List UInt8) (s : St) (w : World) (hR : Rd w p ao n cap bs s) :
    Calls Try.prog 28 #[.pointer (some ⟨p, 0, none⟩)] w fun e w' => ∃ v : Sl, e = .returned (Lr.val (Lr.rT bs s v)) ∧ Et.Own w' w.heap.size (.slice v.ao v.n v.cap) (Lr.rM bs s).ents ∧ Rd w' p ao n cap bs (Lr.eM bs s) ∧ Upd w p w' := by
  have HX0 := Lib.hid (Rq.start hR)
  obtain ⟨w0, hw0⟩ : ∃ U, w.alloc (.cells #[.int .i64 0, .int .i64 0, .int .i64 0, .int .i64 0, .int .i64 0, .int .i64 0, .int .i64 0, .int .i64 0, .int .i64 0, .int .i64 0, .bool false, .string ⟨#[]⟩, .slice none 0 0] 24) = U := ⟨_, rfl⟩
  rw [hw0] at HX0
  have HRo := Lib.hid (hR.off (Nat.le_refl w.heap.size))
  have hrw : Rd w0 p ao n cap bs (Lr.sN bs s 0) := HX0.out.rd
  clear hR
  go_enter Try.func28, Try.ntmps28
  go_wp2_with fail
  clear hw0
  refine (lrd_num 0 p ao n cap bs s w0 hrw).mono ?_
  rintro e w1 ⟨rfl, r0, k0⟩
  have HX1 := Lib.hid (HX0.out.call r0 k0)
  clear r0 k0 hrw
  go_wp2_with fail
  refine (lrd_num 1 p ao n cap bs s w1 HX1.out.rd).mono ?_
  rintro e w2 ⟨rfl, r1, k1⟩
  have HX2 := Lib.hid (HX1.out.call r1 k1)
  clear r1 k1
  go_wp2_with fail
  refine (lrd_num 2 p ao n cap bs s w2 HX2.out.rd).mono ?_
  rintro e w3 ⟨rfl, r2, k2⟩
  have HX3 := Lib.hid (HX2.out.call r2 k2)
  clear r2 k2
  go_wp2_with fail
  refine (lrd_num 3 p ao n cap bs s w3 HX3.out.rd).mono ?_
  rintro e w4 ⟨rfl, r3, k3⟩
  have HX4 := Lib.hid (HX3.out.call r3 k3)
  clear r3 k3
  go_wp2_with fail
  refine (lrd_num 4 p ao n cap bs s w4 HX4.out.rd).mono ?_
  rintro e w5 ⟨rfl, r4, k4⟩
  have HX5 := Lib.hid (HX4.out.call r4 k4)
  clear r4 k4
  go_wp2_with fail
  refine (lrd_num 5 p ao n cap bs s w5 HX5.out.rd).mono ?_
  rintro e w6 ⟨rfl, r5, k5⟩
  have HX6 := Lib.hid (HX5.out.call r5 k5)
  clear r5 k5
  go_wp2_with fail
  refine (lrd_num 6 p ao n cap bs s w6 HX6.out.rd).mono ?_
  rintro e w7 ⟨rfl, r6, k6⟩
  have HX7 := Lib.hid (HX6.out.call r6 k6)
  clear r6 k6
  go_wp2_with fail
  refine (lrd_num 7 p ao n cap bs s w7 HX7.out.rd).mono ?_
  rintro e w8 ⟨rfl, r7, k7⟩
  have HX8 := Lib.hid (HX7.out.call r7 k7)
  clear r7 k7
  go_wp2_with fail
  refine (lrd_num 8 p ao n cap bs s w8 HX8.out.rd).mono ?_
  rintro e w9 ⟨rfl, r8, k8⟩
  have HX9 := Lib.hid (HX8.out.call r8 k8)
  clear r8 k8
  go_wp2_with fail
  refine (lrd_num 9 p ao n cap bs s w9 HX9.out.rd).mono ?_
  rintro e w10 ⟨rfl, r9, k9⟩
  have HX10 := Lib.hid (HX9.out.call r9 k9)
  clear r9 k9
  go_wp2_with fail
  refine (lrd_flag p ao n cap bs (Lr.sN bs s 10) w10 HX10.out.rd).mono ?_
  rintro e w11 ⟨rfl, r10, k10⟩
  have HX11 : Hid (Rq w w11 p ao n cap bs (Lr.sF bs s)) := Lib.hid (HX10.out.call r10 k10)
  clear r10 k10
  go_wp2_with fail
  refine (rd_text p ao n cap bs 600 (Lr.sF bs s) w11 HX11.out.rd).mono ?_
  rintro e w12 ⟨rfl, r11, k11⟩
  have HX12 : Hid (Rq w w12 p ao n cap bs (Lr.sT bs s)) := Lib.hid (HX11.out.call r11 k11)
  clear r11 k11
  go_wp2_with fail
  refine (lt_entries p ao n cap bs (Lr.sT bs s) w12 HX12.out.rd).mono ?_
  rintro e w13 ⟨v, rfl, o12, r12, k12⟩
  have HX13 : Hid (Rq w w13 p ao n cap bs (Lr.eM bs s)) := Lib.hid (HX12.out.call r12 k12)
  have HO : Hid (Et.Own w13 (w.heap.size + 1) v (Lr.rM bs s).ents) := Lib.hid (Et.own_mono o12 (by
    have h1 := (Array.getElem?_eq_some_iff.1 HX12.out.res).1
    omega))
  clear r12 k12 o12
  obtain ⟨va, vcp, hv3⟩ := rows_slice HO.out
  subst hv3
  obtain ⟨vn, hvn⟩ : ∃ vn, (Lr.rM bs s).ents.length = vn := ⟨_, rfl⟩
  rw [hvn] at HO ⊢
  clear hvn
  have x0 := HX13.out.cell 0
  have q0 := HX13.out.fz 0
  have x1 := HX13.out.cell 1
  have q1 := HX13.out.fz 1
  have x2 := HX13.out.cell 2
  have q2 := HX13.out.fz 2
  have x3 := HX13.out.cell 3
  have q3 := HX13.out.fz 3
  have x4 := HX13.out.cell 4
  have q4 := HX13.out.fz 4
  have x5 := HX13.out.cell 5
  have q5 := HX13.out.fz 5
  have x6 := HX13.out.cell 6
  have q6 := HX13.out.fz 6
  have x7 := HX13.out.cell 7
  have q7 := HX13.out.fz 7
  have x8 := HX13.out.cell 8
  have q8 := HX13.out.fz 8
  have x9 := HX13.out.cell 9
  have q9 := HX13.out.fz 9
  have x10 := HX13.out.cell 10
  have q10 := HX13.out.fz 10
  have x11 := HX13.out.cell 11
  have q11 := HX13.out.fz 11
  have x12 := HX13.out.cell 12
  have q12 := HX13.out.fz 12
  simp only [List.getElem?_toArray, List.getElem?_cons_zero, List.getElem?_cons_succ] at x0 x1 x2 x3 x4 x5 x6 x7 x8 x9 x10 x11 x12
  have HOf := Lib.hid ((HX0.out.rd.off (Nat.le_refl w0.heap.size)))
  have HOff : Hid (Off p w.heap.size n ao) := Lib.hid HRo.out
  clear HX0 HX1 HX2 HX3 HX4 HX5 HX6 HX7 HX8 HX9 HX10 HX11 HX12 HOf
  obtain ⟨a0, ha0⟩ : ∃ a, Lr.vN bs s 0 = a := ⟨_, rfl⟩
  rw [ha0]
  obtain ⟨a1, ha1⟩ : ∃ a, Lr.vN bs s 1 = a := ⟨_, rfl⟩
  rw [ha1]
  obtain ⟨a2, ha2⟩ : ∃ a, Lr.vN bs s 2 = a := ⟨_, rfl⟩
  rw [ha2]
  obtain ⟨a3, ha3⟩ : ∃ a, Lr.vN bs s 3 = a := ⟨_, rfl⟩
  rw [ha3]
  obtain ⟨a4, ha4⟩ : ∃ a, Lr.vN bs s 4 = a := ⟨_, rfl⟩
  rw [ha4]
  obtain ⟨a5, ha5⟩ : ∃ a, Lr.vN bs s 5 = a := ⟨_, rfl⟩
  rw [ha5]
  obtain ⟨a6, ha6⟩ : ∃ a, Lr.vN bs s 6 = a := ⟨_, rfl⟩
  rw [ha6]
  obtain ⟨a7, ha7⟩ : ∃ a, Lr.vN bs s 7 = a := ⟨_, rfl⟩
  rw [ha7]
  obtain ⟨a8, ha8⟩ : ∃ a, Lr.vN bs s 8 = a := ⟨_, rfl⟩
  rw [ha8]
  obtain ⟨a9, ha9⟩ : ∃ a, Lr.vN bs s 9 = a := ⟨_, rfl⟩
  rw [ha9]
  obtain ⟨a10, ha10⟩ : ∃ a, (Lr.rFlag bs (Lr.sN bs s 10)).1 = a := ⟨_, rfl⟩
  rw [ha10]
  obtain ⟨a11, ha11⟩ : ∃ a, (rText bs 600 (Lr.sF bs s)).1 = a := ⟨_, rfl⟩
  rw [ha11]
  have HRT : Hid (∀ v : Sl, Lr.rT bs s v = ⟨a0, a1, a2, a3, a4, a5, a6, a7, a8, a9, a10, a11, v⟩) := Lib.hid fun v => by
    unfold Lr.rT
    rw [ha0, ha1, ha2, ha3, ha4, ha5, ha6, ha7, ha8, ha9, ha10, ha11]
  clear ha0 ha1 ha2 ha3 ha4 ha5 ha6 ha7 ha8 ha9 ha10 ha11
  go_wp2_with fail
  have hfin := Lr.heap_lay HX13.out.res ⟨a0, a1, a2, a3, a4, a5, a6, a7, a8, a9, a10, a11, ⟨va, vn, vcp⟩⟩
  have HO2 := Lib.hid (Lr.own_lay HO.out (Nat.lt_succ_self _) ⟨a0, a1, a2, a3, a4, a5, a6, a7, a8, a9, a10, a11, ⟨va, vn, vcp⟩⟩)
  have HR2 := Lib.hid (Lr.rd_lay HX13.out.rd HOff.out ⟨a0, a1, a2, a3, a4, a5, a6, a7, a8, a9, a10, a11, ⟨va, vn, vcp⟩⟩)
  have HU2 := Lib.hid (Lr.upd_lay HX13.out.upd (Nat.le_refl _) ⟨a0, a1, a2, a3, a4, a5, a6, a7, a8, a9, a10, a11, ⟨va, vn, vcp⟩⟩)
  obtain ⟨W, hWl⟩ : ∃ W, Lr.lay w13 w.heap.size ⟨a0, a1, a2, a3, a4, a5, a6, a7, a8, a9, a10, a11, ⟨va, vn, vcp⟩⟩ = W := ⟨_, rfl⟩
  rw [hWl] at hfin HO2 HR2 HU2
  unfold Lr.lay at hWl
  dsimp only at hWl
  rw [hWl]
  refine bodyPost_ret (Lr.results_lr Try.results28 rfl hfin) rfl ?_
  exact ⟨⟨va, vn, vcp⟩, by rw [HRT.out], Et.own_mono HO2.out (Nat.le_succ _), HR2.out, HU2.out⟩
end Go.Proofs.Ytagjbjppddbalaa
