import Derived.Deep.RegionHeld3
import Derived.Laws.CopyOwn
import Derived.Laws.MakeOwn
import Derived.Deep.RegionLaw
import Derived.Deep.DeepCutAuto
import Derived.Deep.CutBlock
import Derived.Test.YtjpfpojbalepeabGreatZB21
import Derived.Test.YtjpfpojbalepeabGreatZB23
import Derived.Test.YtjpfpojbalepeabGreatZB24
import Derived.Test.YtjpfpojbalepeabGreatZB26
import Derived.Test.YtjpfpojbalepeabGreatZB27
import Derived.Test.YtjpfpojbalepeabGreatZB28
import Derived.Test.YtjpfpojbalepeabGreatZB29
set_option maxRecDepth 100000
set_option linter.unusedVariables false
namespace Go.Proofs.YtjpfpojbalepeabGreat
open Go.RowKit
open Mem
open Go.Sort (grow)
section
variable {ops : Array Oper} {o : Oper} {a : Act} {S : World → Prop} {t : Tmp} {g : Nat}
theorem Bl.y_next (hgd : o.guard = none) (ho : o.op = .fieldAddr 73 (.tmp t) 1) (hp : a.tmps.toList[t]? = some (.pointer (some ⟨g,0,none⟩))) : YieldsIf Tryz.prog ops S o (.pointer (some ⟨g,1,none⟩)) a := by
 refine .inl ⟨by simp [Region.wanted,hgd],fun u _ => ?_⟩
 simp only [execOp,ho,Ca.evT hp]
 simp [go_sem]
theorem Bl.y_book (hgd : o.guard = none) (ho : o.op = .fieldAddr 40 (.tmp t) 3) (hp : a.tmps.toList[t]? = some (.pointer (some ⟨g,0,none⟩))) : YieldsIf Tryz.prog ops S o (.pointer (some ⟨g,3,none⟩)) a := by
 refine .inl ⟨by simp [Region.wanted,hgd],fun u _ => ?_⟩
 simp only [execOp,ho,Ca.evT hp]
 simp [go_sem]
theorem Bl.y_int {k : Nat} {n : Int} (hgd : o.guard = none) (ho : o.op = .load 3 (.tmp t)) (hp : a.tmps.toList[t]? = some (.pointer (some ⟨g,k,none⟩))) (hS : ∀ u,S u → u.cell? ⟨g,k,none⟩ = some (.int .i64 n)) : YieldsIf Tryz.prog ops S o (.int .i64 n) a := by
 refine .inl ⟨by simp [Region.wanted,hgd],fun u hu => ?_⟩
 have h := hS u hu
 simp only [execOp,ho,Ca.evT hp]
 simp [go_sem,h]
theorem Bl.y_bal {k : Nat} {ao : Option Addr} {n c : Nat} (hgd : o.guard = none) (ho : o.op = .load 37 (.tmp t)) (hp : a.tmps.toList[t]? = some (.pointer (some ⟨g,k,none⟩))) (hS : ∀ u,S u → u.cell? ⟨g,k,none⟩ = some (.slice ao n c)) : YieldsIf Tryz.prog ops S o (.slice ao n c) a := by
 refine .inl ⟨by simp [Region.wanted,hgd],fun u hu => ?_⟩
 have h := hS u hu
 simp only [execOp,ho,Ca.evT hp]
 simp [go_sem,h]
theorem Bl.y_sub1 {n : Int} (hgd : o.guard = none) (ho : o.op = .binOp .sub 3 (.tmp t) (.const (.int .i64 1)) 3) (hp : a.tmps.toList[t]? = some (.int .i64 n)) (h1 : -9223372036854775808 ≤ n - 1) (h2 : n - 1 ≤ 9223372036854775807) : YieldsIf Tryz.prog ops S o (.int .i64 (n - 1)) a := by
 refine .inl ⟨by simp [Region.wanted,hgd],fun u _ => ?_⟩
 have hwr : IntKind.i64.wrap (n - 1) = n - 1 := by rw [IntKind.wrap_i64]; omega
 have e1 : a.eval (.const (.int .i64 1)) = .int .i64 1 := rfl
 simp only [execOp,ho,Ca.evT hp,e1]
 simp [go_sem,hwr]
theorem Rp.y_build {x y : Tmp} {m n : Int} (hgd : o.guard = none) (ho : o.op = .build 48 #[(1,.tmp x),(2,.tmp y)]) (hx : a.tmps.toList[x]? = some (.int .i64 m)) (hy : a.tmps.toList[y]? = some (.int .i64 n)) : YieldsIf Tryz.prog ops S o (Rp.val ⟨0,m,n⟩) a := by
 refine .inl ⟨by simp [Region.wanted,hgd],fun u _ => ?_⟩
 simp only [execOp,ho,List.map_toArray,List.map_cons,List.map_nil,Ca.evT hx,Ca.evT hy]
 simp [go_sem,Rp.val]
end
def Bl.chk8 (ops : Array Oper) : Bool := Region.noSelect ops && Bl.tk ops [false,false,false,false,false,false,false,false] 0 && Bl.tk ops [true,false,false,false,false,false,false,false] 1 && Bl.tk ops [true,true,false,false,false,false,false,false] 2 && Bl.tk ops [true,true,true,false,false,false,false,false] 3 && Bl.tk ops [true,true,true,true,false,false,false,false] 4 && (Region.ready .any ops #[true,true,true,true,true,false,false,false] == [5]) && Bl.tk ops [true,true,true,true,true,true,false,false] 6 && (Region.ready .any ops #[true,true,true,true,true,true,true,false] == [7]) && (Region.ready .any ops #[true,true,true,true,true,true,true,true] == [])
theorem Bl.wp_ask {id : Nat} {o0 o1 o2 o3 o4 o5 o6 o7 : Oper} {a : Act} {w : World} {Q : Exit → Act → World → Prop} {S : World → Prop} (v0 v1 v2 v3 v4 : Value) {f : FuncId} {args : Array Value} (hS : S w.drew) (hc : Bl.chk8 #[o0,o1,o2,o3,o4,o5,o6,o7] = true)
  (y0 : YieldsIf Tryz.prog #[o0,o1,o2,o3,o4,o5,o6,o7] S o0 v0 a) (y1 : YieldsIf Tryz.prog #[o0,o1,o2,o3,o4,o5,o6,o7] S o1 v1 (a.put o0.dst v0)) (y2 : YieldsIf Tryz.prog #[o0,o1,o2,o3,o4,o5,o6,o7] S o2 v2 ((a.put o0.dst v0).put o1.dst v1)) (y3 : YieldsIf Tryz.prog #[o0,o1,o2,o3,o4,o5,o6,o7] S o3 v3 (((a.put o0.dst v0).put o1.dst v1).put o2.dst v2)) (y4 : YieldsIf Tryz.prog #[o0,o1,o2,o3,o4,o5,o6,o7] S o4 v4 ((((a.put o0.dst v0).put o1.dst v1).put o2.dst v2).put o3.dst v3))
  (q0 : ∀ c a w,Q (.panic c) (Act.put a o0.dst v0) w → Q (.panic c) a w) (q1 : ∀ c a w,Q (.panic c) (Act.put a o1.dst v1) w → Q (.panic c) a w) (q2 : ∀ c a w,Q (.panic c) (Act.put a o2.dst v2) w → Q (.panic c) a w) (q3 : ∀ c a w,Q (.panic c) (Act.put a o3.dst v3) w → Q (.panic c) a w) (q4 : ∀ c a w,Q (.panic c) (Act.put a o4.dst v4) w → Q (.panic c) a w)
  (hg5 : o5.guard = none) (hrun : (execOp (((((a.put o0.dst v0).put o1.dst v1).put o2.dst v2).put o3.dst v3).put o4.dst v4).eval o5).run Tryz.prog w.drew = .ok (.enter f args) w.drew)
  (k : Calls Tryz.prog f args w.drew fun e w' => ∃ (v5 : Value) (r r0 : Rp.T) (gR x y : Nat),e = .returned v5 ∧ S w' ∧ YieldsIf Tryz.prog #[o0,o1,o2,o3,o4,o5,o6,o7] S o6 (Rp.val r) ((((((a.put o0.dst v0).put o1.dst v1).put o2.dst v2).put o3.dst v3).put o4.dst v4).put o5.dst v5) ∧ (∀ c a w,Q (.panic c) (Act.put a o6.dst (Rp.val r)) w → Q (.panic c) a w) ∧
   o7.guard = none ∧ o7.op = .store 48 (.tmp x) (.tmp y) ∧ o7.dst = none ∧ (((((((a.put o0.dst v0).put o1.dst v1).put o2.dst v2).put o3.dst v3).put o4.dst v4).put o5.dst v5).put o6.dst (Rp.val r)).tmps.toList[x]? = some (.pointer (some ⟨gR,0,none⟩)) ∧ (((((((a.put o0.dst v0).put o1.dst v1).put o2.dst v2).put o3.dst v3).put o4.dst v4).put o5.dst v5).put o6.dst (Rp.val r)).tmps.toList[y]? = some (Rp.val r) ∧ Rp.Bk w' gR r0 ∧ S (Rp.lay w' gR r) ∧
   Q .normal (((((((a.put o0.dst v0).put o1.dst v1).put o2.dst v2).put o3.dst v3).put o4.dst v4).put o5.dst v5).put o6.dst (Rp.val r)) (Rp.lay w' gR r)) :
  (Code.region id #[o0,o1,o2,o3,o4,o5,o6,o7] true).wp Tryz.prog Q a w := by
 unfold Bl.chk8 at hc
 simp only [Bool.and_eq_true,beq_iff_eq] at hc
 obtain ⟨⟨⟨⟨⟨⟨⟨⟨⟨c,c0⟩,c1⟩,c2⟩,c3⟩,c4⟩,c5⟩,c6⟩,c7⟩,c8⟩ := hc
 refine wp_region_held_drew (S := S) (by kernel_rfl) hS (fun hH => ?_)
 show wpAnyH Tryz.prog .any #[o0,o1,o2,o3,o4,o5,o6,o7] Q _ 8 [false,false,false,false,false,false,false,false].toArray a w.drew
 refine Bl.take_if (i := 0) (oi := o0) rfl c c0 q0 y0 hH ?_
 refine Bl.take_if (i := 1) (oi := o1) rfl c c1 q1 y1 hH ?_
 refine Bl.take_if (i := 2) (oi := o2) rfl c c2 q2 y2 hH ?_
 refine Bl.take_if (i := 3) (oi := o3) rfl c c3 q3 y3 hH ?_
 refine Bl.take_if (i := 4) (oi := o4) rfl c c4 q4 y4 hH ?_
 refine Bl.one_if (i := 5) (oi := o5) rfl c5 (fun K hK => ?_)
 refine Bl.step_call hg5 hrun (k.mono ?_)
 rintro e w' ⟨v5,r,r0,gR,x,y,rfl,hS',y6,q6,g7,h7,d7,ex,ey,hB,hS7,hk⟩
 refine ⟨_,rfl,hK.out _ _ hS' fun hH' => ?_⟩
 clear hK K
 refine Bl.take_if (i := 6) (oi := o6) rfl c c6 q6 y6 hS' ?_
 refine Bl.one_if (i := 7) (oi := o7) rfl c7 (fun K hK => ?_)
 refine Rp.step_put g7 h7 d7 ex ey hB (hK.out _ _ hS7 fun hH3 => ?_)
 clear hK K
 exact wpAnyH_done c8 hk _
def Bl.askR (s : Bl.St) (c : ByteArray) : Rp.T := if Se.ix c s.ser < s.ser.length then ⟨0,(Se.own s.ser c).next - 1,Po.val Po.owedA s.book⟩ else ⟨11,0,0⟩
set_option maxHeartbeats 400000 in
theorem bil_ask (s : Bl.St) (h : Bl.Sv) (c : ByteArray) (w0 w : World) (hw : Below w0.heap.size w0 w) (hL : Bl.Lies w h s) (hR : Bl.Right s) :
  Calls Tryz.prog 70 #[h.val,.string c] w fun e w' => e = .returned (Rp.val (Bl.askR s c)) ∧ Below w0.heap.size w0 w' := by
 have HW := Lib.hid hw
 have HL := Lib.hid hL
 have HR := Lib.hid hR
 obtain ⟨U,hU,hB,k0,k1,hs⟩ := Bl.al2 w (.cells #[.slice h.tab.ao h.tab.n h.tab.cap,.slice h.ser.ao h.ser.n h.ser.cap,.slice h.post.ao h.post.n h.post.cap,.slice h.book.ao h.book.n h.book.cap,.slice h.sess.ao h.sess.n h.sess.cap,.int .i64 h.next] 40) (.cells #[.int .i64 0,.int .i64 0,.int .i64 0] 48)
 have hA : Bl.At U w.heap.size h := k0
 have hZ : Rp.Bk U (w.heap.size + 1) ⟨0,0,0⟩ := k1
 have HA := Lib.hid hA
 have HZ := Lib.hid hZ
 have HB := Lib.hid hB
 have HS := Lib.hid hs
 obtain ⟨x0,x1,x2,x3,x4,x5⟩ := hA.cells
 clear k0 k1 hL hR hw hB hs hA hZ
 unfold Bl.Sv.val Bl.sl
 go_enter Tryz.func70,Tryz.ntmps70
 go_wp2_with fail
 clear hU
 refine (ser_find s.ser c h.ser.ao h.ser.n h.ser.cap U U (Below.refl _ _) (HL.out.ser.below HB.out)).mono ?_
 rintro e w1 ⟨rfl,b1⟩
 have HSh : Hid (Se.ix c s.ser < s.ser.length → Se.sound (Se.own s.ser c) = true) := Lib.hid fun q => ((Se.right_iff _).1 HR.out.ser).2.1 _ (Se.own_mem q)
 by_cases hi : Se.ix c s.ser < s.ser.length
 ·
  have HP : Hid (Bl.askR s c = ⟨0,(Se.own s.ser c).next - 1,Po.val Po.owedA s.book⟩) := Lib.hid (if_pos hi)
  have hd : decide (Se.ix c s.ser < s.ser.length) = true := decide_eq_true hi
  obtain ⟨r,hr⟩ : ∃ r,Se.own s.ser c = r := ⟨_,rfl⟩
  have HSo := Lib.hid (Se.sound_iff.1 (HSh.out hi))
  rw [hr] at HP HSo ⊢
  rw [hd]
  clear hd hi hr
  have hl1 := Se.lim_iff.1 HSo.out.2.1
  have hlo : -9223372036854775808 ≤ r.next - 1 := by have := HSo.out.2.2.1; omega
  have hhi : r.next - 1 ≤ 9223372036854775807 := by have := HSo.out.2.2.2; omega
  clear hl1
  obtain ⟨W,hW,hbW,hC⟩ := Sr.boxed1 w1 r
  have HCW := Lib.hid hC
  have hA1 := (HA.out.below b1).below hbW
  have HA1 := Lib.hid hA1
  have HZ1 := Lib.hid ((HZ.out.below b1).below hbW)
  have HB1 := Lib.hid (bchain b1 hbW)
  have HSz := Lib.hid b1.size
  unfold Sr.C at hC
  obtain ⟨a0,a1,a2,a3⟩ := hC
  have t3 := hA1.cells.2.2.2.1
  clear b1 hbW hA1 x0 x1 x2 x3 x4 x5
  unfold Sr.val
  go_wp2_with fail
  clear hW
  have hne1 : w1.heap.size ≠ w.heap.size + 1 := by have := HZ1.out.lt; have := HB1.out.size; have := HS.out; have := HSz.out; omega
  refine Bl.wp_ask (f := 102) (args := #[.slice h.book.ao h.book.n h.book.cap,.string Po.owedA]) (S := fun u => u.cell? ⟨w1.heap.size,1,none⟩ = some (.int .i64 r.next) ∧ u.cell? ⟨w.heap.size,3,none⟩ = some (.slice h.book.ao h.book.n h.book.cap)) (.pointer (some ⟨w1.heap.size,1,none⟩)) (.int .i64 r.next) (.int .i64 (r.next - 1)) (.pointer (some ⟨w.heap.size,3,none⟩)) (.slice h.book.ao h.book.n h.book.cap) ⟨a1,t3⟩ ?_ ?_ ?_ ?_ ?_ ?_ ?_ ?_ ?_ ?_ ?_ ?_ ?_ ?_
  · kernel_rfl
  · exact Bl.y_next (t := 5) rfl rfl rfl
  · exact Bl.y_int (t := 17) rfl rfl rfl fun u hu => hu.1
  · exact Bl.y_sub1 (t := 18) rfl rfl rfl hlo hhi
  · exact Bl.y_book (t := 2) rfl rfl rfl
  · exact Bl.y_bal (t := 20) rfl rfl rfl fun u hu => hu.2
  · exact fun _ _ _ h => h
  · exact fun _ _ _ h => h
  · exact fun _ _ _ h => h
  · exact fun _ _ _ h => h
  · exact fun _ _ _ h => h
  · rfl
  ·
   refine Bl.enters rfl ?_ Tryz.func102 ?_ rfl _
   · kernel_rfl
   · kernel_rfl
  refine (bil_amount s.book Po.owedA h.book.ao h.book.n h.book.cap W _ (Below.refl _ _).drew (HL.out.book.below (bchain HB.out (bchain HB1.out (Below.refl _ _).drew))) HR.out.sorted).mono ?_
  rintro e w2 ⟨rfl,b2⟩
  have hZ2 := HZ1.out.below b2
  have u1 := ((bcell b2).1 _ _ (cell_lt a1)).trans a1
  have u3 := ((bcell b2).1 _ _ (cell_lt t3)).trans t3
  refine ⟨_,⟨0,r.next - 1,Po.val Po.owedA s.book⟩,⟨0,0,0⟩,w.heap.size + 1,4,23,rfl,⟨u1,u3⟩,?_,?_,rfl,rfl,rfl,?_,?_,hZ2,⟨?_,?_⟩,?_⟩
  ·
   refine Rp.y_build (x := 19) (y := 22) rfl rfl ?_ ?_
   · kernel_rfl
   · kernel_rfl
  · exact fun _ _ _ h => h
  · kernel_rfl
  · kernel_rfl
  · exact (World.cell?_of_block (setRow_other w2 (w.heap.size + 1) w1.heap.size _ hne1)).trans u1
  · exact (World.cell?_of_block (setRow_other w2 (w.heap.size + 1) w.heap.size _ (by omega))).trans u3
  go_wp2_with fail
  refine bodyPost_ret (Rp.results1 Tryz.results70 ?_ (hZ2.lay _)) ?_ ⟨by rw [HP.out],Rp.below_lay (bchain HW.out (bchain HB.out (bchain HB1.out b2))) (by have := HW.out.size; omega) _⟩
  · kernel_rfl
  · kernel_rfl
 ·
  have HP : Hid (Bl.askR s c = ⟨11,0,0⟩) := Lib.hid (if_neg hi)
  have hd : decide (Se.ix c s.ser < s.ser.length) = false := decide_eq_false hi
  rw [hd]
  clear hd
  obtain ⟨r,hr⟩ : ∃ r,Se.own s.ser c = r := ⟨_,rfl⟩
  rw [hr]
  clear hr
  obtain ⟨W,hW,hbW,hC⟩ := Sr.boxed1 w1 r
  have HZ1 := Lib.hid ((HZ.out.below b1).below hbW)
  have HB1 := Lib.hid (bchain b1 hbW)
  clear b1 hbW x0 x1 x2 x3 x4 x5
  unfold Sr.val
  go_wp2_with fail
  clear hW
  refine (bil_refusal 11 W W (Below.refl _ _)).mono ?_
  rintro e w2 ⟨rfl,b2⟩
  have hZ2 := HZ1.out.below b2
  have HZ2 := Lib.hid hZ2
  have HB2 := Lib.hid b2
  clear b2
  go_wp2_with (first | ((with_reducible apply Rp.wpl_put (r := ⟨11,0,0⟩) hZ2); rfl; rfl; rfl; rfl))
  exact bodyPost_ret (Rp.results1 Tryz.results70 rfl (HZ2.out.lay _)) rfl ⟨by rw [HP.out],Rp.below_lay (bchain HW.out (bchain HB.out (bchain HB1.out HB2.out))) (by have := HW.out.size; omega) _⟩
end Go.Proofs.YtjpfpojbalepeabGreat
namespace Go.Proofs.YtjpfpojbalepeabGreat
open Go.RowKit
open Mem
open Go.Sort (grow)
def Bl.chkO (ops : Array Oper) : Bool := Region.noSelect ops && Bl.tk ops [false,false,false,false,false,false,false,false] 0 && Bl.tk ops [true,false,false,false,false,false,false,false] 1 && Bl.tk ops [true,true,false,false,false,false,false,false] 2 && Bl.tk ops [true,true,true,false,false,false,false,false] 3 && Bl.tk ops [true,true,true,true,false,false,false,false] 4 && Bl.tk ops [true,true,true,true,true,false,false,false] 5 && (Region.ready .any ops #[true,true,true,true,true,true,false,false] == [6]) && (Region.ready .any ops #[true,true,true,true,true,true,true,false] == [7]) && (Region.ready .any ops #[true,true,true,true,true,true,true,true] == [])
theorem Bl.wp_out8 {id : Nat} {o0 o1 o2 o3 o4 o5 o6 o7 : Oper} {a : Act} {w : World} {Q : Exit → Act → World → Prop} {S : World → Prop} (h h0 : Bl.Sv) (r r0 : Rp.T) (v1 v2 v3 v4 : Value) (gS gR : Nat) {x3 y3 x4 y4 : Tmp} (hS : S w.drew) (hA : Bl.At w gS h0) (hB : Rp.Bk w gR r0) (hn : gS ≠ gR) (hS1 : ∀ u,S u → S (Bl.lay u gS h)) (hS2 : ∀ u,S u → S (Rp.lay u gR r)) (hc : Bl.chkO #[o0,o1,o2,o3,o4,o5,o6,o7] = true)
  (y0 : YieldsIf Tryz.prog #[o0,o1,o2,o3,o4,o5,o6,o7] S o0 h.val a) (y1 : YieldsIf Tryz.prog #[o0,o1,o2,o3,o4,o5,o6,o7] S o1 v1 (a.put o0.dst h.val)) (y2 : YieldsIf Tryz.prog #[o0,o1,o2,o3,o4,o5,o6,o7] S o2 v2 ((a.put o0.dst h.val).put o1.dst v1)) (y3' : YieldsIf Tryz.prog #[o0,o1,o2,o3,o4,o5,o6,o7] S o3 v3 (((a.put o0.dst h.val).put o1.dst v1).put o2.dst v2)) (y4' : YieldsIf Tryz.prog #[o0,o1,o2,o3,o4,o5,o6,o7] S o4 v4 ((((a.put o0.dst h.val).put o1.dst v1).put o2.dst v2).put o3.dst v3)) (y5 : YieldsIf Tryz.prog #[o0,o1,o2,o3,o4,o5,o6,o7] S o5 (Rp.val r) (((((a.put o0.dst h.val).put o1.dst v1).put o2.dst v2).put o3.dst v3).put o4.dst v4))
  (q0 : ∀ c a w,Q (.panic c) (Act.put a o0.dst h.val) w → Q (.panic c) a w) (q1 : ∀ c a w,Q (.panic c) (Act.put a o1.dst v1) w → Q (.panic c) a w) (q2 : ∀ c a w,Q (.panic c) (Act.put a o2.dst v2) w → Q (.panic c) a w) (q3 : ∀ c a w,Q (.panic c) (Act.put a o3.dst v3) w → Q (.panic c) a w) (q4 : ∀ c a w,Q (.panic c) (Act.put a o4.dst v4) w → Q (.panic c) a w) (q5 : ∀ c a w,Q (.panic c) (Act.put a o5.dst (Rp.val r)) w → Q (.panic c) a w)
  (ho3 : o6.op = .store 40 (.tmp x3) (.tmp y3)) (hg3 : o6.guard = none) (hd3 : o6.dst = none) (ho4 : o7.op = .store 48 (.tmp x4) (.tmp y4)) (hg4 : o7.guard = none) (hd4 : o7.dst = none)
  (e3 : ((((((a.put o0.dst h.val).put o1.dst v1).put o2.dst v2).put o3.dst v3).put o4.dst v4).put o5.dst (Rp.val r)).tmps.toList[x3]? = some (.pointer (some ⟨gS,0,none⟩)))
  (f3 : ((((((a.put o0.dst h.val).put o1.dst v1).put o2.dst v2).put o3.dst v3).put o4.dst v4).put o5.dst (Rp.val r)).tmps.toList[y3]? = some h.val)
  (e4 : ((((((a.put o0.dst h.val).put o1.dst v1).put o2.dst v2).put o3.dst v3).put o4.dst v4).put o5.dst (Rp.val r)).tmps.toList[x4]? = some (.pointer (some ⟨gR,0,none⟩)))
  (f4 : ((((((a.put o0.dst h.val).put o1.dst v1).put o2.dst v2).put o3.dst v3).put o4.dst v4).put o5.dst (Rp.val r)).tmps.toList[y4]? = some (Rp.val r))
  (k : Q .normal ((((((a.put o0.dst h.val).put o1.dst v1).put o2.dst v2).put o3.dst v3).put o4.dst v4).put o5.dst (Rp.val r)) (Bl.out2 w.drew gS gR h r)) :
  (Code.region id #[o0,o1,o2,o3,o4,o5,o6,o7] true).wp Tryz.prog Q a w := by
 unfold Bl.chkO at hc
 simp only [Bool.and_eq_true,beq_iff_eq] at hc
 obtain ⟨⟨⟨⟨⟨⟨⟨⟨⟨c,c0⟩,c1⟩,c2⟩,c3⟩,c4⟩,c5⟩,c6⟩,c7⟩,c8⟩ := hc
 refine wp_region_held_drew (S := S) (by kernel_rfl) hS (fun hH => ?_)
 show wpAnyH Tryz.prog .any #[o0,o1,o2,o3,o4,o5,o6,o7] Q _ 8 [false,false,false,false,false,false,false,false].toArray a w.drew
 refine Bl.take_if (i := 0) (oi := o0) rfl c c0 q0 y0 hH ?_
 refine Bl.take_if (i := 1) (oi := o1) rfl c c1 q1 y1 hH ?_
 refine Bl.take_if (i := 2) (oi := o2) rfl c c2 q2 y2 hH ?_
 refine Bl.take_if (i := 3) (oi := o3) rfl c c3 q3 y3' hH ?_
 refine Bl.take_if (i := 4) (oi := o4) rfl c c4 q4 y4' hH ?_
 refine Bl.take_if (i := 5) (oi := o5) rfl c c5 q5 y5 hH ?_
 refine Bl.one_if (i := 6) (oi := o6) rfl c6 (fun K hK => ?_)
 refine Bl.step_put hg3 ho3 hd3 e3 f3 (h0 := h0) hA (hK.out _ _ (hS1 _ hH) fun hH2 => ?_)
 clear hK K
 refine Bl.one_if (i := 7) (oi := o7) rfl c7 (fun K hK => ?_)
 refine Rp.step_put hg4 ho4 hd4 e4 f4 (Rp.Bk.other (w := w.drew) hB (Ne.symm hn) _) (hK.out _ _ (hS2 _ hH2) fun hH3 => ?_)
 clear hK K
 exact wpAnyH_done c8 k _
section
variable {ops : Array Oper} {o : Oper} {a : Act} {S : World → Prop} {t : Tmp} {g : Nat}
theorem Bl.y_tot (hgd : o.guard = none) (ho : o.op = .fieldAddr 59 (.tmp t) 2) (hp : a.tmps.toList[t]? = some (.pointer (some ⟨g,0,none⟩))) : YieldsIf Tryz.prog ops S o (.pointer (some ⟨g,5,none⟩)) a := by
 refine .inl ⟨by simp [Region.wanted,hgd],fun u _ => ?_⟩
 simp only [execOp,ho,Ca.evT hp]
 simp [go_sem]
theorem Bl.y_gross (hgd : o.guard = none) (ho : o.op = .fieldAddr 57 (.tmp t) 2) (hp : a.tmps.toList[t]? = some (.pointer (some ⟨g,5,none⟩))) : YieldsIf Tryz.prog ops S o (.pointer (some ⟨g,7,none⟩)) a := by
 refine .inl ⟨by simp [Region.wanted,hgd],fun u _ => ?_⟩
 simp only [execOp,ho,Ca.evT hp]
 simp [go_sem]
end
def Bl.issP (s : Bl.St) (p : Bl.Ps) : Bl.Ps := ⟨p.ser,Se.takeN s.ser p.ser,p.y,p.m,p.d,p.tot,p.ofS,p.ofN,p.back⟩
def Bl.issS (s : Bl.St) (p : Bl.Ps) : Bl.St := if Bl.postE s p.ser p.tot = 0 then Bl.more s s.post (Bl.issP s p) else s
def Bl.issR (s : Bl.St) (p : Bl.Ps) : Rp.T := if Bl.postE s p.ser p.tot = 0 then ⟨0,Se.takeN s.ser p.ser,p.tot.gross⟩ else ⟨Bl.postE s p.ser p.tot,0,0⟩
theorem Bl.iss_no {s : Bl.St} {p : Bl.Ps} {E : Int} (h : Bl.postE s p.ser p.tot = E) (h0 : E ≠ 0) : Bl.issS s p = s ∧ Bl.issR s p = ⟨E,0,0⟩ := by
 unfold Bl.issS Bl.issR
 rw [h,if_neg h0,if_neg h0]
 exact ⟨rfl,rfl⟩
theorem Bl.iss_ok {s : Bl.St} {p : Bl.Ps} (h : Bl.postE s p.ser p.tot = 0) : Bl.issS s p = Bl.more s s.post (Bl.issP s p) ∧ Bl.issR s p = ⟨0,Se.takeN s.ser p.ser,p.tot.gross⟩ := by
 unfold Bl.issS Bl.issR
 rw [if_pos h,if_pos h]
 exact ⟨rfl,rfl⟩
theorem Bl.post_take {s : Bl.St} {c : ByteArray} {t : Iv.Tot} (h : Se.takeE s.ser c ≠ 0) : Bl.postE s c t = Se.takeE s.ser c := if_pos h
theorem Bl.post_full {s : Bl.St} {c : ByteArray} {t : Iv.Tot} (h : Se.takeE s.ser c = 0) (k : 40 ≤ s.post.length) : Bl.postE s c t = 14 := by
 unfold Bl.postE
 rw [if_neg (by rw [h]; simp),if_pos k]
theorem Bl.post_book {s : Bl.St} {c : ByteArray} {t : Iv.Tot} (h : Se.takeE s.ser c = 0) (k : ¬ 40 ≤ s.post.length) : Bl.postE s c t = Bl.bookE s.book t := by
 unfold Bl.postE Bl.bookE
 rw [if_neg (by rw [h]; simp),if_neg k]
theorem Bl.bookL_ok {b : List Ba.T} {t : Iv.Tot} (h : Bl.bookE b t = 0) : Bl.bookL b t = Po.goL (Po.entrL t.gross t.parts) b := by
 by_cases q : Po.entrE t.parts = 0
 ·
  rw [(Bl.book_go q).1] at h
  rw [(Bl.book_go q).2]
  unfold Po.entL
  rw [if_pos h]
 ·
  rw [(Bl.book_bad q).1] at h
  exact absurd h q
theorem Bl.bookL_short {b : List Ba.T} {t : Iv.Tot} (hb : ∀ r ∈ b,Ba.Short r) (hg : Fit t.gross) (hs : ∀ x ∈ t.parts,Pt.Short x) (hc : ∀ x ∈ t.parts,x.cat.size ≤ 140737488351232) : ∀ r ∈ Bl.bookL b t,Ba.Short r := by
 by_cases q : Po.entrE t.parts = 0
 ·
  rw [(Bl.book_go q).2]
  have h1 := Po.entrR_short hg hs hc
  have hR : Po.entrR t.gross t.parts = Po.entrL t.gross t.parts := if_pos q
  rw [hR] at h1
  exact Po.entL_short hb h1
 ·
  rw [(Bl.book_bad q).2]
  intro r hr
  cases hr
def Pd.numbered (r : Pd.T) (n : Int) : Pd.T := ⟨r.ser,n,r.y,r.m,r.d,r.net,r.tax,r.gross,r.parts,r.ofS,r.ofN,r.back⟩
set_option maxHeartbeats 8000000 in
theorem bil_issue (P : Nat → Prop) (s : Bl.St) (h : Bl.Sv) (r : Pd.T) (p : Bl.Ps) (w : World) (hL : Bl.Lp P w h s) (hir : InP P r.parts.ao r.parts.n) (hI : Bl.IsP w r p) (hS : Pd.Short r) (hpn : r.parts.n ≤ 100) (hcs : ∀ x ∈ p.tot.parts,x.cat.size ≤ 140737488351232) (h40 : s.post.length ≤ 40) (hbn : s.book.length ≤ 1000) :
  Calls Tryz.prog 97 #[h.val,Pd.val r] w (Bl.OutE P w (Bl.issS s p) (Bl.issR s p)) := by
 have HL := Lib.hid hL
 have HI := Lib.hid hI
 have HSh := Lib.hid hS
 have HN := Lib.hid (And.intro hpn (And.intro hcs (And.intro h40 hbn)))
 obtain ⟨rs,hP,hE,hpi⟩ := hL.post
 have HPi := Lib.hid (And.intro hpi hir)
 have hl40 : h.post.n ≤ 40 := by have := hP.len; have := hE.len; omega
 have HPl : Hid (h.post.n = s.post.length) := Lib.hid (by have := hP.len; have := hE.len; omega)
 have HPs := Lib.hid hP
 have HEs := Lib.hid hE
 obtain ⟨U,hU,hA,hF,hBk⟩ := Bl.fr4 w h (Pd.block r)
 have c0 : U.cell? ⟨w.heap.size + 1,0,none⟩ = some (.string r.ser) := by rw [cell_of_row U _ 0 _ _ _ hBk]; rfl
 have HA := Lib.hid hA
 have HF := Lib.hid hF
 have HBk := Lib.hid hBk
 have HUs : Hid (w.heap.size + 1 + 1 + 1 < U.heap.size) := Lib.hid hF.rp.lt
 obtain ⟨x0,x1,x2,x3,x4,x5⟩ := hA.cells
 clear hL hI hS hpn hcs h40 hbn hP hE hpi hir hA hF hBk
 unfold Bl.Sv.val Bl.sl Pd.val
 unfold Pd.block at hU
 go_enter Tryz.func97,Tryz.ntmps97
 go_wp2_with fail
 clear hU
 refine (ser_take s.ser r.ser h.ser.ao h.ser.n h.ser.cap U (HL.out.ser.below HF.out.bel)).mono ?_
 rintro e w1 ⟨v,rfl,o1,b1⟩
 have HSn := Lib.hid (Bl.take_short (s := r.ser) HL.out.ser.short)
 have HFn := Lib.hid (Bl.take_fit (s := r.ser) HL.out.ser.short)
 have HSr := Lib.hid HI.out.ser
 obtain ⟨L1,hL1⟩ : ∃ L1,Se.takeR s.ser r.ser = L1 := ⟨_,rfl⟩
 obtain ⟨N,hN⟩ : ∃ N,Se.takeN s.ser r.ser = N := ⟨_,rfl⟩
 obtain ⟨E,hEq⟩ : ∃ E,Se.takeE s.ser r.ser = E := ⟨_,rfl⟩
 have HL1 := Lib.hid hL1
 have HNe := Lib.hid hN
 have HEe := Lib.hid hEq
 rw [hL1] at o1 HSn
 rw [hN] at HFn ⊢
 rw [hEq]
 clear hL1 hN hEq
 obtain ⟨so,sc,rfl,l1,i1⟩ := Sr.own_ls o1 HSn.out
 obtain ⟨sn,hsn⟩ : ∃ sn,L1.length = sn := ⟨_,rfl⟩
 rw [hsn] at l1 ⊢
 clear hsn
 have HS1 := Lib.hid l1
 have HI1 := Lib.hid (inA_own (n := sn) i1)
 have HB1 := Lib.hid b1
 have hA1 := HA.out.below b1
 have HA1 := Lib.hid hA1
 have HF1 := Lib.hid (HF.out.below b1)
 have HBk1 := Lib.hid ((b1.block _ (by have := HUs.out; omega)).trans HBk.out)
 clear o1 l1 i1 b1 x0 x1 x2 x3 x4 x5 c0
 obtain ⟨y0,y1,y2,y3,y4,y5⟩ := hA1.cells
 clear hA1
 by_cases hE0 : E = 0
 ·
  subst hE0
  by_cases h4 : h.post.n = 40
  ·
   have q4 : ((h.post.n : Int) == 40) = true := beq_iff_eq.2 (by omega)
   have HP := Lib.hid (Bl.iss_no (s := s) (p := p) (Bl.post_full (t := p.tot) (by rw [← HSr.out]; exact HEe.out) (by have := HPl.out; omega)) (by omega))
   clear h4
   go_wp2_with fail
   refine Bl.wp_refuseC (w.heap.size) (w.heap.size + 1 + 1) (w.heap.size + 1 + 1 + 1) h Bl.zsv ⟨0,0,0⟩ (14) HA1.out HF1.out.st HF1.out.rp (by omega) rfl rfl rfl rfl rfl rfl rfl rfl rfl rfl ?_ ?_ ?_ ?_ ?_ ?_ ?_ ?_ ?_
   · kernel_rfl
   · exact fun _ _ _ h => h
   · rfl
   · rfl
   · rfl
   · rfl
   · rfl
   · rfl
   intro w9 b9
   go_wp2_with fail
   exact (HF1.out.below b9).ret Tryz.results97 h ⟨14,0,0⟩ rfl rfl rfl fun b => by rw [HP.out.1,HP.out.2]; exact ⟨_,rfl,(HL.out.below b).wide w,b⟩
  ·
   have q4 : ((h.post.n : Int) == 40) = false := beq_eq_false_iff_ne.2 (by omega)
   have HPo := Lib.hid (Bl.post_book (s := s) (c := p.ser) (t := p.tot) (by rw [← HSr.out]; exact HEe.out) (by have := HPl.out; omega))
   have c5 : w1.cell? ⟨w.heap.size + 1,5,none⟩ = some (.int .i64 r.net) := by rw [cell_of_row w1 _ 5 _ _ _ HBk1.out]; rfl
   have c6 : w1.cell? ⟨w.heap.size + 1,6,none⟩ = some (.int .i64 r.tax) := by rw [cell_of_row w1 _ 6 _ _ _ HBk1.out]; rfl
   have c7 : w1.cell? ⟨w.heap.size + 1,7,none⟩ = some (.int .i64 r.gross) := by rw [cell_of_row w1 _ 7 _ _ _ HBk1.out]; rfl
   have c8 : w1.cell? ⟨w.heap.size + 1,8,none⟩ = some (.slice r.parts.ao r.parts.n r.parts.cap) := by rw [cell_of_row w1 _ 8 _ _ _ HBk1.out]; rfl
   clear h4
   go_wp2_with fail
   refine Calls.mono (R := fun e w' => ∃ v,e = .returned (.tuple #[v,.int .i64 (Bl.bookE s.book p.tot)]) ∧ Ba.Own w' w1.heap.size v (Bl.bookL s.book p.tot) ∧ Below w1.heap.size w1 w') ?_ ?_
   ·
    rw [HI.out.net,HI.out.tax,HI.out.gross]
    exact bil_enter s.book p.tot h.book.ao r.parts.ao h.book.n h.book.cap r.parts.n r.parts.cap w1 (HL.out.book.below (bchain HF.out.bel HB1.out)) (HI.out.parts.below (bchain HF.out.bel HB1.out)) (by have := HL.out.book.len; have := HN.out.2.2.2; omega) HN.out.1 (HI.out.gross ▸ HSh.out.2.2.2.2.2.2.2.1) HN.out.2.1
   rintro e w2 ⟨v2,rfl,o2,b2⟩
   have HSb := Lib.hid (Bl.bookL_short (b := s.book) (t := p.tot) HL.out.book.short (HI.out.gross ▸ HSh.out.2.2.2.2.2.2.2.1) HI.out.parts.short HN.out.2.1)
   have HBo := Lib.hid (Bl.bookL_ok (b := s.book) (t := p.tot))
   obtain ⟨L2,hL2⟩ : ∃ L2,Bl.bookL s.book p.tot = L2 := ⟨_,rfl⟩
   obtain ⟨E2,hE2⟩ : ∃ E2,Bl.bookE s.book p.tot = E2 := ⟨_,rfl⟩
   rw [hL2] at o2 HSb HBo
   rw [hE2] at HPo HBo ⊢
   clear hL2 hE2
   obtain ⟨bo,bc,rfl,l2,i2⟩ := Ba.own_ls o2 HSb.out
   obtain ⟨bn,hbn⟩ : ∃ bn,L2.length = bn := ⟨_,rfl⟩
   rw [hbn] at l2 ⊢
   clear hbn
   have HS2 := Lib.hid l2
   have HI2 := Lib.hid (inA_own (n := bn) i2)
   have HB2 := Lib.hid b2
   have hA2 := HA1.out.below b2
   have HA2 := Lib.hid hA2
   have HF2 := Lib.hid (HF1.out.below b2)
   have HBk2 := Lib.hid ((b2.block _ (by have := HUs.out; have := HB1.out.size; omega)).trans HBk1.out)
   clear o2 l2 i2 b2 y0 y1 y2 y3 y4 y5 c5 c6 c7 c8
   by_cases hE2 : E2 = 0
   ·
    subst hE2
    have HP := Lib.hid (Bl.iss_ok HPo.out)
    have hg1 : w2.cell? ⟨w.heap.size + 1,1,none⟩ = some (.int .i64 r.num) := by rw [cell_of_row w2 _ 1 _ _ _ HBk2.out]; rfl
    have hz1 : w2.frozen? ⟨w.heap.size + 1,1,none⟩ = false := frozen_of_row w2 _ 1 _ _ HBk2.out
    have hBk3 : (w2.setCell ⟨w.heap.size + 1,1,none⟩ (.int .i64 N)).heap[w.heap.size + 1]? = some (Pd.block (Pd.numbered r N)) := (heap_setCell_same w2 (w.heap.size + 1) 1 _ _ _ HBk2.out).trans rfl
    obtain ⟨w3,hw3⟩ : ∃ w3,w2.setCell ⟨w.heap.size + 1,1,none⟩ (.int .i64 N) = w3 := ⟨_,rfl⟩
    have hA3 := HA2.out.away (b := w.heap.size + 1) (by omega) 1 (.int .i64 N)
    have hF3 := HF2.out.set (g := w.heap.size + 1) (by omega) (by omega) 1 (.int .i64 N)
    have hk3 := Kp.set (A := U.heap.size) (g := w.heap.size + 1) w2 (by have := HUs.out; omega) 1 (.int .i64 N)
    have hs3 : w3.heap.size = w2.heap.size := by rw [← hw3]; simp
    rw [hw3] at hBk3 hA3 hF3 hk3
    have HA3 := Lib.hid hA3
    have HF3 := Lib.hid hF3
    have HK3 := Lib.hid hk3
    have HBk3 := Lib.hid hBk3
    have HSz3 := Lib.hid hs3
    have hC3 : Pd.C w3 (w.heap.size + 1) (Pd.numbered r N) := by
     unfold Pd.C
     have e := fun k => cell_of_row w3 (w.heap.size + 1) k _ _ _ HBk3.out
     refine ⟨?_,?_,?_,?_,?_,?_,?_,?_,?_,?_,?_,?_⟩
     all_goals
      rw [e]
      rfl
    obtain ⟨y0,y1,y2,y3,y4,y5⟩ := hA3.cells
    clear hA2 hBk3 hF3 hk3 hs3
    go_wp2_with (first | ((with_reducible apply Pd.wpl_loadC hC3); rfl; rfl; rfl))
    clear hw3
    refine (bil_with rs (Pd.numbered r N) h.post.ao h.post.n h.post.cap w3 (HPs.out.below HF3.out.bel) (by omega)).mono ?_
    rintro e w4 ⟨v4,rfl,o4,b4⟩
    have hsp : ∀ x ∈ rs ++ [Pd.numbered r N],Pd.Short x := by
     intro x hx
     rcases List.mem_append.1 hx with hx | hx
     · exact HPs.out.short x hx
     ·
      rw [List.mem_singleton.1 hx]
      exact ⟨HSh.out.1,HFn.out,HSh.out.2.2⟩
    obtain ⟨po,pc,rfl,l4,i4⟩ := Pd.own_ls o4 hsp
    obtain ⟨pn,hpn⟩ : ∃ pn,(rs ++ [Pd.numbered r N]).length = pn := ⟨_,rfl⟩
    rw [hpn] at l4 ⊢
    clear hpn hsp
    have HS4 := Lib.hid l4
    have HI4 := Lib.hid (inA_own (n := pn) i4)
    have HB4 := Lib.hid b4
    have hA4 := HA3.out.below b4
    have hF4 := HF3.out.below b4
    have HBk4 := Lib.hid ((b4.block _ (by have := HUs.out; have := HB1.out.size; have := HB2.out.size; have := HSz3.out; omega)).trans HBk3.out)
    clear o4 l4 i4 b4 y0 y1 y2 y3 y4 y5 hA3 hC3
    have z1 := hA4.frozen 1
    obtain ⟨y0,y1,y2,y3,y4,y5⟩ := hA4.cells
    have hA5 : Bl.At (w4.setCell ⟨w.heap.size,1,none⟩ (.slice so sn sc)) w.heap.size ⟨h.tab,⟨so,sn,sc⟩,h.post,h.book,h.sess,h.next⟩ := (Bl.set_heap hA4 1 _).trans rfl
    have hF5 := hF4.set (g := w.heap.size) (Nat.le_refl _) (by omega) 1 (.slice so sn sc)
    have z3 := hA5.frozen 3
    obtain ⟨t0,t1,t2,t3,t4,t5⟩ := hA5.cells
    have hA6 : Bl.At ((w4.setCell ⟨w.heap.size,1,none⟩ (.slice so sn sc)).setCell ⟨w.heap.size,3,none⟩ (.slice bo bn bc)) w.heap.size ⟨h.tab,⟨so,sn,sc⟩,h.post,⟨bo,bn,bc⟩,h.sess,h.next⟩ := (Bl.set_heap hA5 3 _).trans rfl
    have hF6 := hF5.set (g := w.heap.size) (Nat.le_refl _) (by omega) 3 (.slice bo bn bc)
    have z2 := hA6.frozen 2
    obtain ⟨u0,u1,u2,u3,u4,u5⟩ := hA6.cells
    have hA7 : Bl.At (((w4.setCell ⟨w.heap.size,1,none⟩ (.slice so sn sc)).setCell ⟨w.heap.size,3,none⟩ (.slice bo bn bc)).setCell ⟨w.heap.size,2,none⟩ (.slice po pn pc)) w.heap.size ⟨h.tab,⟨so,sn,sc⟩,⟨po,pn,pc⟩,⟨bo,bn,bc⟩,h.sess,h.next⟩ := (Bl.set_heap hA6 2 _).trans rfl
    have hF7 := hF6.set (g := w.heap.size) (Nat.le_refl _) (by omega) 2 (.slice po pn pc)
    have hk7 := ((Kp.set (A := U.heap.size) (g := w.heap.size) w4 (by have := HUs.out; omega) 1 (.slice so sn sc)).trans (Kp.set (g := w.heap.size) _ (by have := HUs.out; omega) 3 (.slice bo bn bc))).trans (Kp.set (g := w.heap.size) _ (by have := HUs.out; omega) 2 (.slice po pn pc))
    have hBk7 : (((w4.setCell ⟨w.heap.size,1,none⟩ (.slice so sn sc)).setCell ⟨w.heap.size,3,none⟩ (.slice bo bn bc)).setCell ⟨w.heap.size,2,none⟩ (.slice po pn pc)).heap[w.heap.size + 1]? = some (Pd.block (Pd.numbered r N)) := by
     rw [heap_setCell_other _ ⟨w.heap.size,2,none⟩ _ _ (by show w.heap.size + 1 ≠ w.heap.size; omega),heap_setCell_other _ ⟨w.heap.size,3,none⟩ _ _ (by show w.heap.size + 1 ≠ w.heap.size; omega),heap_setCell_other _ ⟨w.heap.size,1,none⟩ _ _ (by show w.heap.size + 1 ≠ w.heap.size; omega)]
     exact HBk4.out
    obtain ⟨w7,hw7⟩ : ∃ w7,((w4.setCell ⟨w.heap.size,1,none⟩ (.slice so sn sc)).setCell ⟨w.heap.size,3,none⟩ (.slice bo bn bc)).setCell ⟨w.heap.size,2,none⟩ (.slice po pn pc) = w7 := ⟨_,rfl⟩
    rw [hw7] at hA7 hF7 hk7 hBk7
    have HA7 := Lib.hid hA7
    have HF7 := Lib.hid hF7
    have HK7 := Lib.hid hk7
    have HBk7 := Lib.hid hBk7
    clear hA4 hA5 hA6 hA7 hF4 hF5 hF6 hF7 hk7 hBk7
    go_wp2_with fail
    clear hw7 y0 y1 y2 y3 y4 y5 t0 t1 t2 t3 t4 t5 u0 u1 u2 u3 u4 u5 z1 z2 z3
    have hgc : w7.cell? ⟨w.heap.size + 1,7,none⟩ = some (.int .i64 r.gross) := by rw [cell_of_row w7 _ 7 _ _ _ HBk7.out]; rfl
    refine Bl.wp_out8 (S := fun u => Bl.At u w.heap.size ⟨h.tab,⟨so,sn,sc⟩,⟨po,pn,pc⟩,⟨bo,bn,bc⟩,h.sess,h.next⟩ ∧ u.cell? ⟨w.heap.size + 1,7,none⟩ = some (.int .i64 r.gross)) ⟨h.tab,⟨so,sn,sc⟩,⟨po,pn,pc⟩,⟨bo,bn,bc⟩,h.sess,h.next⟩ Bl.zsv ⟨0,N,r.gross⟩ ⟨0,0,0⟩ (.int .i64 N) (.pointer (some ⟨w.heap.size + 1,5,none⟩)) (.pointer (some ⟨w.heap.size + 1,7,none⟩)) (.int .i64 r.gross) (w.heap.size + 1 + 1) (w.heap.size + 1 + 1 + 1) ⟨HA7.out,hgc⟩ HF7.out.st HF7.out.rp (by omega) ?_ ?_ ?_ ?_ ?_ ?_ ?_ ?_ ?_ ?_ ?_ ?_ ?_ ?_ ?_ rfl rfl rfl rfl rfl rfl ?_ ?_ ?_ ?_ ?_
    · exact fun u hu => ⟨hu.1.other (by omega) _,(World.cell?_of_block (setRow_other u (w.heap.size + 1 + 1) (w.heap.size + 1) _ (by omega))).trans hu.2⟩
    · exact fun u hu => ⟨hu.1.other (by omega) _,(World.cell?_of_block (setRow_other u (w.heap.size + 1 + 1 + 1) (w.heap.size + 1) _ (by omega))).trans hu.2⟩
    · kernel_rfl
    · exact Bl.y_load (t := 2) rfl rfl (by kernel_rfl) fun u hu => hu.1
    · exact Bl.y_move (t := 7) rfl rfl (by kernel_rfl)
    · exact Bl.y_tot (t := 3) rfl rfl (by kernel_rfl)
    · exact Bl.y_gross (t := 58) rfl rfl (by kernel_rfl)
    · exact Bl.y_int (t := 59) rfl rfl (by kernel_rfl) fun u hu => hu.2
    · exact Rp.y_build (x := 57) (y := 60) rfl rfl (by kernel_rfl) (by kernel_rfl)
    · exact fun _ _ _ h => h
    · exact fun _ _ _ h => h
    · exact fun _ _ _ h => h
    · exact fun _ _ _ h => h
    · exact fun _ _ _ h => h
    · exact fun _ _ _ h => h
    · kernel_rfl
    · kernel_rfl
    · kernel_rfl
    · kernel_rfl
    go_wp2_with fail
    refine (HF7.out.below (Below.refl _ _).drew).ret Tryz.results97 ⟨h.tab,⟨so,sn,sc⟩,⟨po,pn,pc⟩,⟨bo,bn,bc⟩,h.sess,h.next⟩ ⟨0,N,r.gross⟩ ?_ ?_ ?_ fun b => ?_
    · kernel_rfl
    · kernel_rfl
    · kernel_rfl
    rw [HP.out.1,HP.out.2]
    refine ⟨_,by rw [← HSr.out,HNe.out,HI.out.gross],?_,b⟩
    have hl := (HL.out.below b).wide w
    have kf : Kp U.heap.size w7 _ := (Kp.of (Below.refl _ _).drew).trans (Bl.kp_out2 (gS := w.heap.size + 1 + 1) (gR := w.heap.size + 1 + 1 + 1) w7.drew (by have := HUs.out; omega) (by have := HUs.out; omega) ⟨h.tab,⟨so,sn,sc⟩,⟨po,pn,pc⟩,⟨bo,bn,bc⟩,h.sess,h.next⟩ ⟨0,N,r.gross⟩)
    have k47 := HK7.out.trans kf
    have k24 := (HK3.out.trans (Kp.of HB4.out)).trans k47
    have k12 := (Kp.of HB2.out).trans k24
    have e1 := HS1.out.kp HI1.out k12
    have e2 := HS2.out.kp (HI2.out.mono (by have := HB1.out.size; omega)) k24
    have e4 := HS4.out.kp (HI4.out.mono (by have := HB1.out.size; have := HB2.out.size; have := HSz3.out; omega)) k47
    have hEa := (HEs.out.below b).add (r := Pd.numbered r N) (p := Bl.issP s p) ?_
    ·
     refine ⟨hl.tab,?_,⟨_,e4,hEa,?_⟩,?_,hl.sess,hl.next,hl.fit,hl.ptab,HI1.out.nw P (by have := HUs.out; omega),HI4.out.nw P (by have := HUs.out; have := HB1.out.size; have := HB2.out.size; have := HSz3.out; omega),HI2.out.nw P (by have := HUs.out; have := HB1.out.size; omega),hl.psess⟩
     ·
      rw [← HL1.out,HSr.out] at e1
      exact e1
     ·
      intro x hx
      rcases List.mem_append.1 hx with hx | hx
      · exact (HPi.out.1 x hx).mono fun _ q => .inl q
      ·
       rw [List.mem_singleton.1 hx]
       exact HPi.out.2.mono fun _ q => .inl q
     ·
      rw [HBo.out trivial] at e2
      exact e2
    ·
     have hq := HI.out.below b
     exact ⟨hq.ser,by show N = Se.takeN s.ser p.ser; rw [← HNe.out,HSr.out],hq.y,hq.m,hq.d,hq.net,hq.tax,hq.gross,hq.parts,hq.ofS,hq.ofN,hq.back⟩
   ·
    have hq : (E2 == 0) = false := beq_eq_false_iff_ne.2 hE2
    have HP := Lib.hid (Bl.iss_no HPo.out hE2)
    clear hA2
    go_wp2_with fail
    refine Bl.wp_refuse (w.heap.size) (w.heap.size + 1 + 1) (w.heap.size + 1 + 1 + 1) h Bl.zsv ⟨0,0,0⟩ (E2) HA2.out HF2.out.st HF2.out.rp (by omega) rfl rfl rfl rfl rfl rfl rfl rfl rfl rfl rfl rfl ?_ ?_ ?_ ?_ ?_ ?_ ?_ ?_ ?_ ?_ ?_
    · kernel_rfl
    · exact fun _ _ _ h => h
    · exact fun _ _ _ h => h
    · rfl
    · rfl
    · rfl
    · rfl
    · rfl
    · rfl
    · rfl
    intro w9 b9
    go_wp2_with fail
    exact (HF2.out.below b9).ret Tryz.results97 h ⟨E2,0,0⟩ rfl rfl rfl fun b => by rw [HP.out.1,HP.out.2]; exact ⟨_,rfl,(HL.out.below b).wide w,b⟩
 ·
  have hq : (E == 0) = false := beq_eq_false_iff_ne.2 hE0
  have HP := Lib.hid (Bl.iss_no (s := s) (p := p) ((Bl.post_take (t := p.tot) (by rw [← HSr.out,HEe.out]; exact hE0)).trans (by rw [← HSr.out]; exact HEe.out)) hE0)
  go_wp2_with fail
  refine Bl.wp_refuse (w.heap.size) (w.heap.size + 1 + 1) (w.heap.size + 1 + 1 + 1) h Bl.zsv ⟨0,0,0⟩ (E) HA1.out HF1.out.st HF1.out.rp (by omega) rfl rfl rfl rfl rfl rfl rfl rfl rfl rfl rfl rfl ?_ ?_ ?_ ?_ ?_ ?_ ?_ ?_ ?_ ?_ ?_
  · kernel_rfl
  · exact fun _ _ _ h => h
  · exact fun _ _ _ h => h
  · rfl
  · rfl
  · rfl
  · rfl
  · rfl
  · rfl
  · rfl
  intro w9 b9
  go_wp2_with fail
  exact (HF1.out.below b9).ret Tryz.results97 h ⟨E,0,0⟩ rfl rfl rfl fun b => by rw [HP.out.1,HP.out.2]; exact ⟨_,rfl,(HL.out.below b).wide w,b⟩
end Go.Proofs.YtjpfpojbalepeabGreat
namespace Go.Proofs.YtjpfpojbalepeabGreat
open Vt (Rt)
theorem head_1 {rs : List Rt} {y m d : Int} {ls : List Ln.T} (h : Vt.tableB rs = false) : Iv.headE rs y m d ls = 1 := if_pos h
theorem head_9 {rs : List Rt} {y m d : Int} {ls : List Ln.T} (h : Vt.tableB rs = true) (k : Dt.rightB y m d = false) : Iv.headE rs y m d ls = 9 := by
 unfold Iv.headE
 rw [if_neg (by rw [h]; simp),if_pos k]
theorem head_11 {rs : List Rt} {y m d : Int} {ls : List Ln.T} (h : Vt.tableB rs = true) (k : Dt.rightB y m d = true) (l : ls.length = 0) : Iv.headE rs y m d ls = 1 := by
 unfold Iv.headE
 rw [if_neg (by rw [h]; simp),if_neg (by rw [k]; simp),if_pos l]
theorem head_2 {rs : List Rt} {y m d : Int} {ls : List Ln.T} (h : Vt.tableB rs = true) (k : Dt.rightB y m d = true) (l : ls.length ≠ 0) (n : 12 < ls.length) : Iv.headE rs y m d ls = 2 := by
 unfold Iv.headE
 rw [if_neg (by rw [h]; simp),if_neg (by rw [k]; simp),if_neg l,if_pos n]
theorem head_0 {rs : List Rt} {y m d : Int} {ls : List Ln.T} (h : Vt.tableB rs = true) (k : Dt.rightB y m d = true) (l : ls.length ≠ 0) (n : ¬ 12 < ls.length) : Iv.headE rs y m d ls = 0 := by
 unfold Iv.headE
 rw [if_neg (by rw [h]; simp),if_neg (by rw [k]; simp),if_neg l,if_neg n]
theorem tax_fit (n bp : Int) : Fit (Sh.taxV n bp) := by
 have h0 : Fit 0 := ⟨by omega,by omega⟩
 unfold Sh.taxV
 split
 ·
  unfold Sh.val
  split
  ·
   unfold Sh.side
   split
   · exact ⟨by omega,by omega⟩
   · exact ⟨by omega,by omega⟩
  · exact h0
 · exact h0
theorem err_7 {x : Int} (h : Mn.err x = 7) : ¬ Mn.Fit x := by
 intro k
 rw [Mn.err_fit k] at h
 omega
section
variable {rs : List Rt} {y m d : Int} {x : Ln.T}
end
end Go.Proofs.YtjpfpojbalepeabGreat
namespace Go.Proofs.YtjpfpojbalepeabGreat
open Go.RowKit
open Vt (Rt)
open Go.Sort (grow)
def foundE (p : Int × Bool) : Ending := .returned (.tuple #[.int .i64 p.1,.bool p.2])
theorem last_at (c : ByteArray) (n : Int) (acc : Int × Bool) (rs : List Rt) (k : Nat) (h : k < rs.length) : Vt.last c n acc (rs.drop k) = Vt.last c n (if Vt.hit c n rs[k] = true then (rs[k].bp,true) else acc) (rs.drop (k + 1)) := by
 rw [List.drop_eq_getElem_cons h]
 rfl
theorem hit_yes {c : ByteArray} {n : Int} {r : Rt} (h : r.cat = c) (k : Vt.dy r ≤ n) : Vt.hit c n r = true := by
 unfold Vt.hit
 rw [decide_eq_true h,decide_eq_true k]
 rfl
theorem hit_no {c : ByteArray} {n : Int} {r : Rt} (h : r.cat ≠ c ∨ ¬ Vt.dy r ≤ n) : Vt.hit c n r = false := by
 unfold Vt.hit
 rcases h with h | h
 · rw [decide_eq_false h]; rfl
 · rw [decide_eq_false h,Bool.and_false]
end Go.Proofs.YtjpfpojbalepeabGreat
namespace Go.Proofs.YtjpfpojbalepeabGreat
open Go.RowKit
open Vt (Rt)
open Go.Sort (grow)
set_option maxHeartbeats 2000000 in
theorem vat_find (rs : List Rt) (ao : Option Addr) (n cap : Nat) (c : ByteArray) (y m d : Int) (w0 w : World) (hw : Below w0.heap.size w0 w) (hR : Rts w ao n cap rs) (hy : Fit y) (hm : Fit m) (hd : Fit d) :
  Calls Tryz.prog 134 #[.slice ao n cap,.string c,dayV y m d] w fun e w' => e = foundE (Vt.find rs c y m d) ∧ Below w0.heap.size w0 w' := by
 have HW := Lib.hid hw
 have HR := Lib.hid hR
 have HN := Lib.hid hR.len
 have HFt := Lib.hid (And.intro hy (And.intro hm hd))
 have hcap := hR.reach
 have hfit := hR.fits
 clear hw hR hy hm hd
 unfold dayV
 go_enter Tryz.func134,Tryz.ntmps134
 go_wp2_with fail
 refine (vat_right rs ao n cap (w.alloc (.cells #[.int .i64 y,.int .i64 m,.int .i64 d] 24)) _ (Below.refl _ _) (HR.out.below ((Below.refl _ _).alloc (Nat.le_refl _) _))).mono ?_
 rintro e w1 ⟨rfl,b1⟩
 cases hT : Vt.tableB rs
 ·
  have HF := Lib.hid (Vt.find_not (c := c) (y := y) (m := m) (d := d) (.inl hT))
  have HB1 := Lib.hid (bchain (below_box HW.out _) b1)
  clear b1
  go_wp2_with fail
  go_ret2
  exact ⟨by rw [HF.out]; rfl,HB1.out⟩
 ·
  have HTT := Lib.hid hT
  obtain ⟨hc,hf⟩ := bcell b1
  have HB1 := Lib.hid b1
  clear b1
  go_wp2_with fail
  refine (right_date y m d _ _ HB1.out HFt.out.1 HFt.out.2.1 HFt.out.2.2).mono ?_
  rintro e w2 ⟨rfl,b2⟩
  clear hc hf
  have HB2 := Lib.hid b2
  cases hd : Dt.rightB y m d
  ·
   have HF := Lib.hid (Vt.find_not (l := rs) (c := c) (.inr hd))
   have HB3 := Lib.hid (bchain (below_box HW.out _) b2)
   clear b2
   go_wp2_with fail
   go_ret2
   exact ⟨by rw [HF.out]; rfl,HB3.out⟩
  ·
   have HF := Lib.hid (Vt.find_right (c := c) HTT.out hd)
   have HD := Lib.hid hd
   clear b2
   go_wp2_with fail
   go_loopw [8,9,11,22] (fun t o _ i wr => ∃ (k : Nat) (x : Int) (f : Bool),k ≤ n ∧ i = .int .i64 k ∧ t = .int .i64 x ∧ o = .bool f ∧ Hid (Vt.last c (Dt.days y m d) (x,f) (rs.drop k) = Vt.last c (Dt.days y m d) (0,false) rs) ∧ Hid (Below (w.alloc (.cells #[.int .i64 y,.int .i64 m,.int .i64 d] 24)).heap.size (w.alloc (.cells #[.int .i64 y,.int .i64 m,.int .i64 d] 24)) wr)) (fun _ _ _ i _ => n - (intOf i).toNat)
   case atStart => exact ⟨0,0,false,by omega,rfl,rfl,rfl,Lib.hid rfl,HB2⟩
   case round =>
    rename World => wz
    obtain ⟨k,x,f,hk,rfl,rfl,rfl,HK,HB⟩ := hrel
    by_cases hlt : k < n
    ·
     obtain ⟨b,off,rfl⟩ := HR.out.at (by omega)
     have hkr : k < rs.length := HN.out ▸ hlt
     obtain ⟨r,hr⟩ : ∃ r,rs[k] = r := ⟨_,rfl⟩
     have hrow := (HR.out.row k hkr).below (bchain ((Below.refl _ _).alloc (Nat.le_refl _) _) HB.out)
     have HSt := Lib.hid (last_at c (Dt.days y m d) (x,f) rs k hkr)
     rw [hr] at hrow HSt
     have hmem : r ∈ rs := hr ▸ List.getElem_mem hkr
     have HSh := Lib.hid (HR.out.short r hmem)
     have HRr := Lib.hid (ahead_both HD.out (Vt.rowE_0.1 (((Vt.table_iff rs).1 HTT.out).2.1 r hmem)).2.1)
     clear hr hmem
     obtain ⟨g0,g1,g2,g3,g4⟩ := hrow
     obtain ⟨W,hW,hbW,hA⟩ := boxed1 wz r
     have HBW := Lib.hid (bchain HB.out hbW)
     have HA := Lib.hid hA
     clear hbW
     unfold RowC at hA
     obtain ⟨a0,a1,a2,a3,a4⟩ := hA
     obtain ⟨hc,hf⟩ := bcell HBW.out
     have e0 : W.cell? ⟨w.heap.size,0,none⟩ = some (.int .i64 y) := by rw [hc _ _ (by simp)]; simp
     have e1 : W.cell? ⟨w.heap.size,1,none⟩ = some (.int .i64 m) := by rw [hc _ _ (by simp)]; simp
     have e2 : W.cell? ⟨w.heap.size,2,none⟩ = some (.int .i64 d) := by rw [hc _ _ (by simp)]; simp
     clear hc hf
     by_cases hcat : r.cat = c
     ·
      have hq : (r.cat.toList == c.toList) = true := beq_iff_eq.2 (by rw [hcat])
      by_cases hdy : Vt.dy r ≤ Dt.days y m d
      ·
       have HH := Lib.hid (hit_yes hcat hdy)
       have HL : Hid (aheadB y m d r.y r.m r.d = false) := Lib.hid (by rw [HRr.out]; exact decide_eq_false (by have h : Dt.days r.y r.m r.d ≤ Dt.days y m d := hdy; omega))
       clear hcat hdy
       go_wp2_with fail
       refine (before_date y m d r.y r.m r.d W _ (Below.refl _ _) HFt.out.1 HFt.out.2.1 HFt.out.2.2 HSh.out.2.1 HSh.out.2.2.1 HSh.out.2.2.2.1).mono ?_
       rintro e w3 ⟨rfl,b3⟩
       rw [HL.out]
       have HBv := Lib.hid (bchain HBW.out b3)
       have hA := HA.out.below b3
       unfold RowC at hA
       obtain ⟨d0,d1,d2,d3,d4⟩ := hA
       clear b3
       go_wp2_with fail
       go_roundw
       case rel => exact ⟨k + 1,r.bp,true,by omega,by go_num,rfl,rfl,Lib.hid (by rw [← HK.out,HSt.out,HH.out]; rfl),HBv⟩
       case measure => simp [intOf]; omega
      ·
       have HH := Lib.hid (hit_no (c := c) (.inr hdy))
       have HL : Hid (aheadB y m d r.y r.m r.d = true) := Lib.hid (by rw [HRr.out]; exact decide_eq_true (by have h : ¬ Dt.days r.y r.m r.d ≤ Dt.days y m d := hdy; omega))
       clear hcat hdy
       go_wp2_with fail
       refine (before_date y m d r.y r.m r.d W _ (Below.refl _ _) HFt.out.1 HFt.out.2.1 HFt.out.2.2 HSh.out.2.1 HSh.out.2.2.1 HSh.out.2.2.2.1).mono ?_
       rintro e w3 ⟨rfl,b3⟩
       rw [HL.out]
       have HBv := Lib.hid (bchain HBW.out b3)
       clear b3
       go_wp2_with fail
       go_roundw
       case rel => exact ⟨k + 1,x,f,by omega,by go_num,rfl,rfl,Lib.hid (by rw [← HK.out,HSt.out,HH.out]; rfl),HBv⟩
       case measure => simp [intOf]; omega
     ·
      have hq : (r.cat.toList == c.toList) = false := beq_eq_false_iff_ne.2 fun e => hcat (Vt.cat_ext e)
      have HH := Lib.hid (hit_no (n := Dt.days y m d) (.inl hcat))
      clear hcat
      go_wp2_with fail
      go_roundw
      case rel => exact ⟨k + 1,x,f,by omega,by go_num,rfl,rfl,Lib.hid (by rw [← HK.out,HSt.out,HH.out]; rfl),HBW⟩
      case measure => simp [intOf]; omega
    ·
     obtain rfl : k = n := by omega
     go_wp2
     go_ret2
     refine ⟨?_,bchain (below_box HW.out _) HB.out⟩
     rw [HF.out,← HK.out,List.drop_eq_nil_of_le (Nat.le_of_eq HN.out.symm)]
     rfl
end Go.Proofs.YtjpfpojbalepeabGreat
namespace Go.Proofs.YtjpfpojbalepeabGreat
open Go.RowKit
open Vt (Rt)
open Go.Sort (grow)
def Iv.askE (rs : List Rt) (y m d : Int) (x : Ln.T) : Int :=
 if 64 < x.text.size then 2 else if Rn.name (txt x.category) = false then 8 else if x.count < 1 ∨ 1048576 < x.count then 1 else if (Vt.find rs x.category y m d).2 = false then 10 else 0
def Iv.askV (rs : List Rt) (y m d : Int) (x : Ln.T) : Int := if Iv.askE rs y m d x = 0 then (Vt.find rs x.category y m d).1 else 0
theorem Iv.ask_line {rs : List Rt} {y m d : Int} {x : Ln.T} : Iv.lineE rs y m d x = if Iv.askE rs y m d x = 0 then Mn.err (x.count * x.price) else Iv.askE rs y m d x := by
 unfold Iv.lineE Iv.askE
 split
 · rfl
 ·
  split
  · rfl
  ·
   split
   · rfl
   ·
    split
    · rfl
    · rfl
section
variable {rs : List Rt} {y m d : Int} {x : Ln.T}
theorem ask_2 (h : 64 < x.text.size) : Iv.askE rs y m d x = 2 := if_pos h
theorem ask_8 (h : ¬ 64 < x.text.size) (k : Rn.name (txt x.category) = false) : Iv.askE rs y m d x = 8 := by
 unfold Iv.askE
 rw [if_neg h,if_pos k]
theorem ask_1 (h : ¬ 64 < x.text.size) (k : Rn.name (txt x.category) = true) (l : x.count < 1 ∨ 1048576 < x.count) : Iv.askE rs y m d x = 1 := by
 unfold Iv.askE
 rw [if_neg h,if_neg (by rw [k]; simp),if_pos l]
theorem ask_10 (h : ¬ 64 < x.text.size) (k : Rn.name (txt x.category) = true) (l : ¬ (x.count < 1 ∨ 1048576 < x.count)) (n : (Vt.find rs x.category y m d).2 = false) : Iv.askE rs y m d x = 10 := by
 unfold Iv.askE
 rw [if_neg h,if_neg (by rw [k]; simp),if_neg l,if_pos n]
theorem ask_0 (h : ¬ 64 < x.text.size) (k : Rn.name (txt x.category) = true) (l : ¬ (x.count < 1 ∨ 1048576 < x.count)) (n : (Vt.find rs x.category y m d).2 = true) : Iv.askE rs y m d x = 0 := by
 unfold Iv.askE
 rw [if_neg h,if_neg (by rw [k]; simp),if_neg l,if_neg (by rw [n]; simp)]
end
theorem boxedDL (w : World) (y m d : Int) (x : Ln.T) : ∃ W,(w.alloc (.cells #[.int .i64 y,.int .i64 m,.int .i64 d] 24)).alloc (.cells #[.string x.text,.string x.category,.int .i64 x.count,.int .i64 x.price] 82) = W ∧
  Below w.heap.size w W ∧ DayC W w.heap.size y m d ∧ Ln.C W (w.heap.size + 1) x := by
 have b1 : Below w.heap.size w (w.alloc (.cells #[.int .i64 y,.int .i64 m,.int .i64 d] 24)) := (Below.refl _ _).alloc (Nat.le_refl _) _
 refine ⟨_,rfl,bchain b1 (Ln.below_own _ x),(dayC_box w y m d).below (Ln.below_own _ x),?_⟩
 have h := Ln.c_box (w.alloc (.cells #[.int .i64 y,.int .i64 m,.int .i64 d] 24)) x
 rw [show (w.alloc (.cells #[.int .i64 y,.int .i64 m,.int .i64 d] 24)).heap.size = w.heap.size + 1 by simp] at h
 exact h
set_option maxHeartbeats 2000000 in
theorem inv_ask (rs : List Rt) (ls : List Ln.T) (ao : Option Addr) (n ca k : Nat) (y m d : Int) (w0 w : World) (hw : Below w0.heap.size w0 w) (hR : Rts w ao n ca rs) (hy : Fit y) (hm : Fit m) (hd : Fit d) (hk : k = ls.length) (hk63 : k ≤ 9223372036854775807) :
  Calls Tryz.prog 119 #[.slice ao n ca,dayV y m d,.int .i64 (k : Int)] w fun e w' => e = .returned (.int .i64 (Iv.headE rs y m d ls)) ∧ Below w0.heap.size w0 w' := by
 have HW := Lib.hid hw
 have HR := Lib.hid hR
 have HK := Lib.hid hk
 have HFt := Lib.hid (And.intro hy (And.intro hm hd))
 clear hw hR hy hm hd hk
 unfold dayV
 go_enter Tryz.func119,Tryz.ntmps119
 go_wp2_with fail
 refine (vat_right rs ao n ca (w.alloc (.cells #[.int .i64 y,.int .i64 m,.int .i64 d] 24)) _ (Below.refl _ _) (HR.out.below ((Below.refl _ _).alloc (Nat.le_refl _) _))).mono ?_
 rintro e w1 ⟨rfl,b1⟩
 cases hT : Vt.tableB rs
 ·
  have HF := Lib.hid (head_1 (y := y) (m := m) (d := d) (ls := ls) hT)
  have HB1 := Lib.hid (bchain (below_box HW.out _) b1)
  clear b1
  go_wp2_with fail
  go_ret
  exact ⟨ret_int HF.out.symm,HB1.out⟩
 ·
  have HTT := Lib.hid hT
  obtain ⟨hc,hf⟩ := bcell b1
  have HB1 := Lib.hid b1
  clear b1
  go_wp2_with fail
  refine (right_date y m d _ _ HB1.out HFt.out.1 HFt.out.2.1 HFt.out.2.2).mono ?_
  rintro e w2 ⟨rfl,b2⟩
  clear hc hf
  have HB2 := Lib.hid (bchain (below_box HW.out _) b2)
  clear b2
  cases hd : Dt.rightB y m d
  ·
   have HF := Lib.hid (head_9 (ls := ls) HTT.out hd)
   go_wp2_with fail
   go_ret
   exact ⟨ret_int HF.out.symm,HB2.out⟩
  ·
   have HD := Lib.hid hd
   by_cases h0 : k = 0
   ·
    have HF := Lib.hid (head_11 (ls := ls) HTT.out HD.out (HK.out ▸ h0))
    subst h0
    go_wp2_with fail
    go_ret
    exact ⟨ret_int HF.out.symm,HB2.out⟩
   ·
    have hk0 : ((k : Int) == 0) = false := by simp; omega
    by_cases h12 : 12 < k
    ·
     have HF := Lib.hid (head_2 (ls := ls) HTT.out HD.out (HK.out ▸ h0) (HK.out ▸ h12))
     go_wp2_with fail
     go_ret
     exact ⟨ret_int HF.out.symm,HB2.out⟩
    ·
     have HF := Lib.hid (head_0 (ls := ls) HTT.out HD.out (HK.out ▸ h0) (HK.out ▸ h12))
     go_wp2_with fail
     go_ret
     exact ⟨ret_int HF.out.symm,HB2.out⟩
set_option maxHeartbeats 2000000 in
theorem inv_find (rs : List Rt) (x : Ln.T) (ao : Option Addr) (n ca : Nat) (y m d : Int) (w : World) (hR : Rts w ao n ca rs) (hy : Fit y) (hm : Fit m) (hd : Fit d) (hx : Ln.Short x) :
  Calls Tryz.prog 120 #[.slice ao n ca,dayV y m d,Ln.val x] w fun e w' => e = .returned (.tuple #[.int .i64 (Iv.askV rs y m d x),.int .i64 (Iv.askE rs y m d x)]) ∧ Below w.heap.size w w' := by
 have HFt := Lib.hid (And.intro hy (And.intro hm hd))
 have HX := Lib.hid hx
 obtain ⟨W,hW,hbW,hD,hC⟩ := boxedDL w y m d x
 have HR := Lib.hid (hR.below hbW)
 have HB := Lib.hid hbW
 have HD := Lib.hid hD
 have HC := Lib.hid hC
 unfold Ln.C at hC
 unfold DayC at hD
 obtain ⟨a0,a1,a2,a3⟩ := hC
 obtain ⟨d0,d1,d2⟩ := hD
 have hts := HX.out.1
 obtain ⟨hc1,hc2⟩ := HX.out.2.2.1
 clear hR hy hm hd hx hbW
 unfold dayV Ln.val
 by_cases h64 : 64 < x.text.size
 ·
  have HE := Lib.hid (ask_2 (rs := rs) (y := y) (m := m) (d := d) h64)
  go_enter Tryz.func120,Tryz.ntmps120
  go_wp2_with fail
  go_ret2
  exact ⟨by unfold Iv.askV; rw [HE.out]; rfl,HB.out⟩
 ·
  have HL := Lib.hid h64
  go_enter Tryz.func120,Tryz.ntmps120
  go_wp2_with fail
  refine (name_any x.category _ HX.out.2.1).mono ?_
  rintro e w1 ⟨rfl,b1⟩
  have hD := HD.out.below b1
  have hC := HC.out.below b1
  have HD1 := Lib.hid hD
  have HC1 := Lib.hid hC
  have HR1 := Lib.hid (HR.out.below b1)
  have HB1 := Lib.hid (bchain HB.out b1)
  clear b1 hW a0 a1 a2 a3 d0 d1 d2 HD HC HR HB h64
  unfold Ln.C at hC
  unfold DayC at hD
  obtain ⟨a0,a1,a2,a3⟩ := hC
  obtain ⟨d0,d1,d2⟩ := hD
  cases hn : Rn.name (txt x.category)
  ·
   have HE := Lib.hid (ask_8 (rs := rs) (y := y) (m := m) (d := d) HL.out hn)
   go_wp2_with fail
   go_ret2
   exact ⟨by unfold Iv.askV; rw [HE.out]; rfl,HB1.out⟩
  ·
   have HN := Lib.hid hn
   by_cases h1 : x.count < 1
   ·
    have HE := Lib.hid (ask_1 (rs := rs) (y := y) (m := m) (d := d) HL.out HN.out (.inl h1))
    go_wp2_with fail
    go_ret2
    exact ⟨by unfold Iv.askV; rw [HE.out]; rfl,HB1.out⟩
   ·
    by_cases h2 : 1048576 < x.count
    ·
     have HE := Lib.hid (ask_1 (rs := rs) (y := y) (m := m) (d := d) HL.out HN.out (.inr h2))
     go_wp2_with fail
     go_ret2
     exact ⟨by unfold Iv.askV; rw [HE.out]; rfl,HB1.out⟩
    ·
     have HN2 : Hid (¬ (x.count < 1 ∨ 1048576 < x.count)) := Lib.hid (by omega)
     go_wp2_with fail
     refine (vat_find rs ao n ca x.category y m d _ _ (Below.refl _ _) HR1.out HFt.out.1 HFt.out.2.1 HFt.out.2.2).mono ?_
     rintro e w2 ⟨rfl,b2⟩
     have HB2 := Lib.hid (bchain HB1.out b2)
     unfold foundE
     obtain ⟨v,f,hvf⟩ : ∃ v f,Vt.find rs x.category y m d = (v,f) := ⟨_,_,rfl⟩
     rw [hvf]
     have HV : Hid ((Vt.find rs x.category y m d).1 = v) := Lib.hid (by rw [hvf])
     cases f
     ·
      have HE := Lib.hid (ask_10 (rs := rs) (y := y) (m := m) (d := d) HL.out HN.out HN2.out (by rw [hvf]))
      clear hvf b2
      go_wp2_with fail
      go_ret2
      exact ⟨by unfold Iv.askV; rw [HE.out]; rfl,HB2.out⟩
     ·
      have HE := Lib.hid (ask_0 (rs := rs) (y := y) (m := m) (d := d) HL.out HN.out HN2.out (by rw [hvf]))
      clear hvf b2
      go_wp2_with fail
      go_ret2
      exact ⟨by unfold Iv.askV; rw [HE.out,HV.out]; rfl,HB2.out⟩
set_option maxHeartbeats 2000000 in
theorem inv_place (ps : List Pt.T) (c : ByteArray) (ao : Option Addr) (n cap : Nat) (w : World) (hP : Pt.Ls w ao n cap ps) :
  Calls Tryz.prog 136 #[.slice ao n cap,.string c] w fun e w' => e = .returned (.int .i64 (Iv.spot c ps : Nat)) ∧ w' = w := by
 have HP := Lib.hid hP
 have HN := Lib.hid hP.len
 have hcap := hP.reach
 have hfit := hP.fits
 clear hP
 go_enter Tryz.func136,Tryz.ntmps136
 go_wp2_with fail
 go_loopw [5] (fun i wr => ∃ k : Nat,k ≤ n ∧ i = .int .i64 k ∧ Hid (k + Iv.spot c (ps.drop k) = Iv.spot c ps) ∧ wr = w) (fun i _ => n - (intOf i).toNat)
 case atStart => exact ⟨0,by omega,rfl,Lib.hid (Nat.zero_add _),rfl⟩
 case round =>
  obtain ⟨k,hk,rfl,HK,rfl⟩ := hrel
  by_cases hlt : k < n
  ·
   obtain ⟨b,off,rfl⟩ := HP.out.at (by omega)
   have hkp : k < ps.length := HN.out ▸ hlt
   obtain ⟨q,hq⟩ : ∃ q,ps[k] = q := ⟨_,rfl⟩
   have hrow := HP.out.row k hkp
   have HSt := Lib.hid (Iv.spot_at c ps k hkp)
   rw [hq] at hrow HSt
   obtain ⟨g0,g1,g2,g3⟩ := hrow
   clear hq
   unfold Iv.lt at HSt
   cases hqr : Op.bytesLess q.cat.toList c.toList
   ·
    rw [hqr,if_neg (by simp)] at HSt
    have HSp : Hid (Iv.spot c ps = k) := Lib.hid (by rw [← HK.out,HSt.out]; rfl)
    go_wp2_with fail
    go_ret
    exact ⟨by rw [HSp.out]; rfl,rfl⟩
   ·
    rw [hqr,if_pos rfl] at HSt
    go_wp2_with fail
    go_roundw
    case rel => exact ⟨k + 1,by omega,by go_num,Lib.hid (by rw [← HK.out,HSt.out]; omega),trivial⟩
    case measure => simp [intOf]; omega
  ·
   obtain rfl : k = n := by omega
   have HSp : Hid (Iv.spot c ps = k) := Lib.hid (by rw [← HK.out,List.drop_eq_nil_of_le (Nat.le_of_eq HN.out.symm)]; rfl)
   go_wp2_with fail
   go_ret
   exact ⟨by rw [HSp.out]; rfl,rfl⟩
end Go.Proofs.YtjpfpojbalepeabGreat
namespace Go.Proofs.YtjpfpojbalepeabGreat
open Go.RowKit
open Vt (Rt)
structure PSt (w wr : World) (g : Nat) (y m d : Int) : Prop where
 gw : w.heap.size = g
 bel : Below w.heap.size w wr
 day : DayC wr g y m d
 res : Tt.At wr (g + 1) 0 0 0 (.slice none 0 0)
structure RSt (w wr : World) (g g2 : Nat) (y m d N T : Int) (vo : Option Addr) (q vc : Nat) (ps : List Pt.T) : Prop where
 pst : PSt w wr g y m d
 lo : g + 2 ≤ g2
 tot : Tt.At wr g2 N T 0 (.slice vo q vc)
 own : Pt.Own wr (g2 + 1) (.slice vo q vc) ps
 sh : ∀ r ∈ ps,Pt.Short r
section
variable {w wr v : World} {g g2 : Nat} {y m d N T : Int} {vo : Option Addr} {q vc : Nat} {ps : List Pt.T}
theorem PSt.below (h : PSt w wr g y m d) (b : Below wr.heap.size wr v) : PSt w v g y m d := ⟨h.gw,bchain h.bel b,h.day.below b,h.res.below b⟩
end
theorem find_fit {rs : List Rt} (hs : ∀ r ∈ rs,Short r) (c : ByteArray) (y m d : Int) : Fit (Vt.find rs c y m d).1 := by
 have h0 : Fit 0 := ⟨by omega,by omega⟩
 have hl : ∀ (l : List Rt) (acc : Int × Bool),Fit acc.1 → (∀ r ∈ l,Short r) → Fit (Vt.last c (Dt.days y m d) acc l).1 := by
  intro l
  induction l with
  | nil => intro acc h _; exact h
  | cons r l ih =>
   intro acc h hr
   unfold Vt.last
   apply ih
   ·
    split
    · exact (hr r (by simp)).2.2.2.2
    · exact h
   · exact fun x hx => hr x (by simp [hx])
 unfold Vt.find
 split
 · exact hl rs (0,false) h0 hs
 · exact h0
theorem part_short {c : ByteArray} {bp : Int} (hc : c.size ≤ 140737488355328) (hb : Fit bp) {ps : List Pt.T} (hs : ∀ r ∈ ps,Pt.Short r) : Pt.Short (Iv.part c bp ps) := by
 have hn : Pt.Short ⟨c,bp,0,0⟩ := ⟨hc,hb,⟨by show (-9223372036854775808 : Int) ≤ 0; omega,by show (0 : Int) ≤ _; omega⟩,⟨by show (-9223372036854775808 : Int) ≤ 0; omega,by show (0 : Int) ≤ _; omega⟩⟩
 induction ps with
 | nil => exact hn
 | cons a l ih =>
  unfold Iv.part
  split
  · exact ih fun x hx => hs x (by simp [hx])
  ·
   split
   · exact hs a (by simp)
   · exact hn
theorem ins_short {c : ByteArray} {bp : Int} (hc : c.size ≤ 140737488355328) (hb : Fit bp) {ps : List Pt.T} (hs : ∀ r ∈ ps,Pt.Short r) : ∀ r ∈ Iv.ins c bp ps,Pt.Short r := by
 have hn : Pt.Short ⟨c,bp,0,0⟩ := ⟨hc,hb,⟨by show (-9223372036854775808 : Int) ≤ 0; omega,by show (0 : Int) ≤ _; omega⟩,⟨by show (-9223372036854775808 : Int) ≤ 0; omega,by show (0 : Int) ≤ _; omega⟩⟩
 induction ps with
 | nil =>
  intro r hr
  obtain rfl := List.mem_singleton.1 hr
  exact hn
 | cons a l ih =>
  intro r hr
  unfold Iv.ins at hr
  split at hr
  ·
   rcases List.mem_cons.1 hr with rfl | hr
   · exact hs _ (by simp)
   · exact ih (fun x hx => hs x (by simp [hx])) r hr
  ·
   split at hr
   · exact hs r hr
   ·
    rcases List.mem_cons.1 hr with rfl | hr
    · exact hn
    · exact hs r hr
end Go.Proofs.YtjpfpojbalepeabGreat
namespace Go.Proofs.YtjpfpojbalepeabGreat
open Go.RowKit
open Vt (Rt)
open Go.Sort (grow)
def WithE (w : World) (g c : Nat) (x : Ln.T) (bp : Int) (ps : List Pt.T) (e : Ending) (w' : World) : Prop :=
 Below g w w' ∧ ((Mn.err (x.count * x.price) = 0 ∧ Iv.enterE x.category bp (x.count * x.price) ps = 0 ∧ ∃ Z,e = .returned (.tuple #[.slice (some ⟨g,0,none⟩) (Iv.enter x.category bp (x.count * x.price) ps).length c,.int .i64 0]) ∧ Pt.Block w' g (Iv.enter x.category bp (x.count * x.price) ps ++ Z) ∧ c = (Iv.enter x.category bp (x.count * x.price) ps ++ Z).length) ∨
  ((Mn.err (x.count * x.price) ≠ 0 ∨ Iv.enterE x.category bp (x.count * x.price) ps ≠ 0) ∧ ∃ v,e = .returned (.tuple #[v,.int .i64 7])))
theorem ins_at' {c : ByteArray} {bp : Int} {ps Z : List Pt.T} {s : Nat} (hs : Iv.spot c ps = s) : ∃ h : s < (Iv.ins c bp ps ++ Z).length,(Iv.ins c bp ps ++ Z)[s] = Iv.part c bp ps := by
 have h1 := Iv.ins_lt (c := c) (bp := bp) ps
 have h2 := Iv.ins_at (c := c) (bp := bp) ps
 rw [hs] at h1 h2
 refine ⟨by rw [List.length_append]; omega,?_⟩
 rw [List.getElem_append_left h1]
 exact Option.some.inj ((List.getElem?_eq_getElem h1).symm.trans h2)
theorem below_put {B g : Nat} {w0 w : World} (h : Below B w0 w) (hg : B ≤ g) (o : Nat) (x : Value) : Below B w0 (w.setCell ⟨g,o,none⟩ x) := h.setCell hg x
theorem with_end {w u : World} {g n c s : Nat} {x : Ln.T} {bp nn : Int} {ps Z : List Pt.T} (hnn : x.count * x.price = nn) (hm : Mn.err nn = 0) (hs : Iv.spot x.category ps = s) (hb : Below g w u) (hB : Pt.Block u g (Iv.ins x.category bp ps ++ Z)) (hc : c = (Iv.ins x.category bp ps ++ Z).length) (hn : n = (Iv.ins x.category bp ps).length) :
  (Mn.err ((Iv.part x.category bp ps).net + nn) = 0 → WithE w g c x bp ps (.returned (.tuple #[.slice (some ⟨g,0,none⟩) n c,.int .i64 0])) (u.setCell ⟨g,s * 4 + 2,none⟩ (.int .i64 ((Iv.part x.category bp ps).net + nn)))) ∧
  (Mn.err ((Iv.part x.category bp ps).net + nn) = 7 → WithE w g c x bp ps (.returned (.tuple #[.slice (some ⟨g,0,none⟩) n c,.int .i64 7])) (u.setCell ⟨g,s * 4 + 2,none⟩ (.int .i64 0))) := by
 subst hnn
 obtain ⟨hlt,hat⟩ := ins_at' (c := x.category) (bp := bp) (Z := Z) hs
 have hil := Iv.ins_lt (c := x.category) (bp := bp) ps
 rw [hs] at hil
 have hlen : (Iv.enter x.category bp (x.count * x.price) ps).length = n := by
  unfold Iv.enter
  rw [List.length_set,hn]
 have hen : (Iv.ins x.category bp ps ++ Z).set s (Iv.more (Iv.part x.category bp ps) (x.count * x.price)) = Iv.enter x.category bp (x.count * x.price) ps ++ Z := by
  unfold Iv.enter
  rw [hs,List.set_append_left _ _ hil]
 refine ⟨fun h => ⟨below_put hb (Nat.le_refl _) _ _,.inl ⟨hm,h,Z,by rw [hlen],?_,by rw [List.length_append,hlen,hc,List.length_append,hn]⟩⟩,fun h => ⟨below_put hb (Nat.le_refl _) _ _,.inr ⟨.inr ?_,_,rfl⟩⟩⟩
 ·
  rw [← hen]
  exact hB.put s 2 hlt (by omega) _ _ (by rw [hat]; rfl)
 ·
  show Mn.err _ ≠ 0
  rw [h]
  omega
set_option maxHeartbeats 4000000 in
theorem inv_with (ps Z : List Pt.T) (z : Pt.T) (x : Ln.T) (bp : Int) (g n c : Nat) (w : World) (hB : Pt.Block w g (ps ++ z :: Z)) (hn : n = ps.length) (hc : c = (ps ++ z :: Z).length) (hc1 : c ≤ 1000) (hx : Ln.Short x) (hb : Fit bp) (hs : ∀ r ∈ ps,Pt.Short r) :
  Calls Tryz.prog 121 #[.slice (some ⟨g,0,none⟩) n c,Ln.val x,.int .i64 bp] w (WithE w g c x bp ps) := by
 obtain ⟨W,hW,hbW,hC⟩ := Ln.boxed1 w x
 have HG := Lib.hid hB.lt
 have HB := Lib.hid (hB.below hbW)
 have HL := Lib.hid (HB.out.ls n c hn (by rw [hc,List.length_append]; omega) (by omega) hs)
 have HBel : Hid (Below g w W) := Lib.hid (hbW.mono (Nat.le_of_lt hB.lt))
 have HC := Lib.hid hC
 have HX := Lib.hid hx
 have HS := Lib.hid hs
 have HN := Lib.hid hn
 have HCc := Lib.hid hc
 have HBp := Lib.hid hb
 have hnc : n + 1 ≤ c := by rw [hc,List.length_append,List.length_cons]; omega
 unfold Ln.C at hC
 obtain ⟨a0,a1,a2,a3⟩ := hC
 have HsW : Hid (W.heap.size = w.heap.size + 1) := Lib.hid (by rw [← hW]; simp)
 obtain ⟨nn,hnn⟩ : ∃ nn,x.count * x.price = nn := ⟨_,rfl⟩
 have HNN := Lib.hid hnn
 clear hB hbW hx hs hn hc hb
 unfold Ln.val
 go_enter Tryz.func121,Tryz.ntmps121
 go_wp2_with fail
 refine (mul_any x.count x.price _ HX.out.2.2.1 HX.out.2.2.2).mono ?_
 rintro e w1 ⟨rfl,hw1⟩
 subst hw1
 unfold both
 rw [hnn]
 rcases Mn.err_two nn with e1 | e1
 ·
  rw [e1,Mn.amt_fit (Iv.err_0 e1)]
  have HE1 := Lib.hid e1
  have HF := Lib.hid (Iv.err_0 e1)
  clear e1 hnn
  go_wp2_with fail
  refine (inv_place ps x.category _ n c _ HL.out).mono ?_
  rintro e w1 ⟨rfl,hw1⟩
  subst hw1
  obtain ⟨s,hsp⟩ : ∃ s,Iv.spot x.category ps = s := ⟨_,rfl⟩
  have hsn : s ≤ n := by rw [HN.out,← hsp]; exact Iv.spot_le _ _
  have HSp := Lib.hid hsp
  rw [hsp]
  have l0 := cell_regrown a0
  have l1 := cell_regrown a1
  have l2 := cell_regrown a2
  have l3 := cell_regrown a3
  have HPS : Hid (Pt.Short (Iv.part x.category bp ps)) := Lib.hid (part_short HX.out.2.1 HBp.out HS.out)
  clear hW hsp
  by_cases hlt : s < n
  ·
   have hsl : s < ps.length := HN.out ▸ hlt
   have hrow := HB.out.row s (by rw [List.length_append]; omega)
   rw [List.getElem_append_left hsl] at hrow
   obtain ⟨q,hq⟩ : ∃ q,ps[s] = q := ⟨_,rfl⟩
   rw [hq] at hrow
   have HQ := Lib.hid hq
   obtain ⟨g0,g1,g2,g3⟩ := hrow
   have k0 := cell_regrown g0
   have k1 := cell_regrown g1
   have k2 := cell_regrown g2
   have k3 := cell_regrown g3
   have hne1 : ((s : Int) == (n : Int)) = false := by simp; omega
   clear hq
   by_cases hcat : q.cat = x.category
   ·
    have HH : Hid (Iv.has x.category ps = true) := Lib.hid (by rw [Iv.has_spot,HSp.out,List.getElem?_eq_getElem hsl,HQ.out]; exact decide_eq_true hcat)
    have hqe : (q.cat.toList == x.category.toList) = true := beq_iff_eq.2 (by rw [hcat])
    have HI : Hid (Iv.ins x.category bp ps = ps) := Lib.hid (Iv.ins_has HH.out)
    clear hcat
    go_wp2
    refine wp_region_quiet_below (by kernel_rfl) (by kernel_rfl) ?_
    repeat (first | go_big_quiet_step (fail) | quiet_step (fail))
    refine wpQuiet_nil ?_
    intro _ hw'
    obtain ⟨⟨dq,osq⟩,hw''⟩ := hw'
    subst hw''
    have HBx := Lib.hid (HBel.out.trans ((below_regrown w1 dq osq).mono (by have := HG.out; have := HsW.out; omega)))
    have HBk := Lib.hid (HB.out.below (below_regrown w1 dq osq))
    clear l0 l1 l2 l3 a0 a1 a2 a3 k0 k1 k2 k3 g0 g1 g2 g3 hqe
    generalize grow (redrawn w1 dq) osq = u at *
    obtain ⟨hlt2,hat2⟩ := ins_at' (c := x.category) (bp := bp) (Z := z :: Z) HSp.out
    have HEn := Lib.hid (with_end (n := n) (c := c) HNN.out HE1.out HSp.out HBx.out (by rw [HI.out]; exact HBk.out) (by rw [HI.out]; exact HCc.out) (by rw [HI.out]; exact HN.out))
    have hrow := HBk.out.row s (by rw [List.length_append]; omega)
    have hpp : (ps ++ z :: Z)[s]'(by rw [List.length_append]; omega) = Iv.part x.category bp ps := by
     have h2 := hat2
     simp only [HI.out] at h2
     exact h2
    rw [hpp] at hrow
    have hfz := HBk.out.frozen (s * 4 + 2)
    obtain ⟨p,hp⟩ : ∃ p,Iv.part x.category bp ps = p := ⟨_,rfl⟩
    rw [hp] at hrow HEn HPS
    obtain ⟨g0,g1,g2,g3⟩ := hrow
    clear hp hpp hat2 hlt2
    go_wp2_with fail
    refine (add_any p.net nn _ HPS.out.2.2.1 HF.out).mono ?_
    rintro e w2 ⟨rfl,hw2⟩
    subst hw2
    unfold both
    rcases Mn.err_two (p.net + nn) with e2 | e2
    ·
     rw [e2,Mn.amt_fit (Iv.err_0 e2)]
     have HR := Lib.hid (HEn.out.1 e2)
     clear e2
     go_wp2_with fail
     go_ret2
     exact HR.out
    ·
     rw [e2,Mn.amt_not (err_7 e2)]
     have HR := Lib.hid (HEn.out.2 e2)
     clear e2
     go_wp2_with fail
     go_ret2
     exact HR.out
   ·
    have HH : Hid (Iv.has x.category ps = false) := Lib.hid (by rw [Iv.has_spot,HSp.out,List.getElem?_eq_getElem hsl,HQ.out]; exact decide_eq_false hcat)
    have hqe : (q.cat.toList == x.category.toList) = false := beq_eq_false_iff_ne.2 fun e => hcat (Vt.cat_ext e)
    clear hcat
    have HI : Hid (Iv.ins x.category bp ps = ps.take s ++ ⟨x.category,bp,0,0⟩ :: ps.drop s) := Lib.hid (by rw [Iv.ins_new HH.out,HSp.out])
    go_wp2
    refine wp_region_quiet_below (by kernel_rfl) (by kernel_rfl) ?_
    repeat (first | go_big_quiet_step (fail) | quiet_step (fail))
    refine wpQuiet_nil ?_
    intro _ hw'
    obtain ⟨⟨dq,osq⟩,hw''⟩ := hw'
    subst hw''
    have HBx := Lib.hid (HBel.out.trans ((below_regrown w1 dq osq).mono (by have := HG.out; have := HsW.out; omega)))
    have HBk := Lib.hid (HB.out.below (below_regrown w1 dq osq))
    have hC := HC.out.below (below_regrown w1 dq osq)
    unfold Ln.C at hC
    clear l0 l1 l2 l3 a0 a1 a2 a3 k0 k1 k2 k3 g0 g1 g2 g3 hqe
    obtain ⟨a0,a1,a2,a3⟩ := hC
    generalize grow (redrawn w1 dq) osq = u at *
    go_wp2_with fail
    have hbu : Below u.heap.size u (u.alloc (Pt.block ⟨x.category,bp,0,0⟩)) := (Below.refl _ _).alloc (Nat.le_refl _) _
    refine (Pt.insert_mid _ g c u.heap.size n s ps Z z ⟨x.category,bp,0,0⟩ (HBk.out.below hbu) HN.out HCc.out hc1 (heap_alloc_new u _) (Nat.ne_of_gt HBk.out.lt) hlt).mono ?_
    rintro e w2 ⟨rfl,hB2,hb2⟩
    have HBy := Lib.hid (hb2 g w (HBx.out.trans (hbu.mono (Nat.le_of_lt HBk.out.lt))) (Nat.le_refl _))
    have HBl : Hid (Pt.Block w2 g (Iv.ins x.category bp ps ++ Z)) := Lib.hid (by rw [HI.out]; exact hB2)
    clear hB2 hb2 hbu a0 a1 a2 a3
    obtain ⟨hlt2,hat2⟩ := ins_at' (c := x.category) (bp := bp) (Z := Z) HSp.out
    have hlen : (Iv.ins x.category bp ps).length = n + 1 := by
     rw [HI.out,List.length_append,List.length_cons,List.length_take,List.length_drop,← HN.out]
     omega
    have HEn := Lib.hid (with_end (n := n + 1) (c := c) HNN.out HE1.out HSp.out HBy.out HBl.out (by have := HCc.out; rw [List.length_append,List.length_cons,← HN.out] at this; rw [List.length_append,hlen]; omega) hlen.symm)
    have hrow := HBl.out.row s hlt2
    rw [hat2] at hrow
    have hfz := HBl.out.frozen (s * 4 + 2)
    obtain ⟨p,hp⟩ : ∃ p,Iv.part x.category bp ps = p := ⟨_,rfl⟩
    rw [hp] at hrow HEn HPS
    obtain ⟨g0,g1,g2,g3⟩ := hrow
    clear hp hat2 hlt2 hlen
    go_wp2_with fail
    refine (add_any p.net nn _ HPS.out.2.2.1 HF.out).mono ?_
    rintro e w3 ⟨rfl,hw3⟩
    subst hw3
    unfold both
    rcases Mn.err_two (p.net + nn) with e2 | e2
    ·
     rw [e2,Mn.amt_fit (Iv.err_0 e2)]
     have HR := Lib.hid (HEn.out.1 e2)
     clear e2
     go_wp2_with fail
     go_ret2
     exact HR.out
    ·
     rw [e2,Mn.amt_not (err_7 e2)]
     have HR := Lib.hid (HEn.out.2 e2)
     clear e2
     go_wp2_with fail
     go_ret2
     exact HR.out
  ·
   obtain rfl : n = s := by omega
   have HH : Hid (Iv.has x.category ps = false) := Lib.hid (by rw [Iv.has_spot,HSp.out,List.getElem?_eq_none (by rw [← HN.out]; omega)])
   have HI : Hid (Iv.ins x.category bp ps = ps.take n ++ ⟨x.category,bp,0,0⟩ :: ps.drop n) := Lib.hid (by rw [Iv.ins_new HH.out,HSp.out])
   go_wp2
   refine wp_region_quiet_below (by kernel_rfl) (by kernel_rfl) ?_
   repeat (first | go_big_quiet_step (fail) | quiet_step (fail))
   refine wpQuiet_nil ?_
   intro _ hw'
   obtain ⟨⟨dq,osq⟩,hw''⟩ := hw'
   subst hw''
   have HBx := Lib.hid (HBel.out.trans ((below_regrown w1 dq osq).mono (by have := HG.out; have := HsW.out; omega)))
   have HBk := Lib.hid (HB.out.below (below_regrown w1 dq osq))
   have hC := HC.out.below (below_regrown w1 dq osq)
   unfold Ln.C at hC
   clear l0 l1 l2 l3 a0 a1 a2 a3
   obtain ⟨a0,a1,a2,a3⟩ := hC
   generalize grow (redrawn w1 dq) osq = u at *
   go_wp2_with fail
   have hbu : Below u.heap.size u (u.alloc (Pt.block ⟨x.category,bp,0,0⟩)) := (Below.refl _ _).alloc (Nat.le_refl _) _
   refine (Pt.insert_end _ g c u.heap.size n ps Z z ⟨x.category,bp,0,0⟩ (HBk.out.below hbu) HN.out HCc.out hc1 (heap_alloc_new u _)).mono ?_
   rintro e w2 ⟨rfl,hB2,hb2⟩
   have HBy := Lib.hid (hb2 g w (HBx.out.trans (hbu.mono (Nat.le_of_lt HBk.out.lt))) (Nat.le_refl _))
   have HBl : Hid (Pt.Block w2 g (Iv.ins x.category bp ps ++ Z)) := Lib.hid (by rw [HI.out,HN.out,List.take_length,List.drop_length]; exact hB2)
   clear hB2 hb2 hbu a0 a1 a2 a3
   obtain ⟨hlt2,hat2⟩ := ins_at' (c := x.category) (bp := bp) (Z := Z) HSp.out
   have hlen : (Iv.ins x.category bp ps).length = n + 1 := by
    rw [HI.out,List.length_append,List.length_cons,List.length_take,List.length_drop,← HN.out]
    omega
   have HEn := Lib.hid (with_end (n := n + 1) (c := c) HNN.out HE1.out HSp.out HBy.out HBl.out (by have := HCc.out; rw [List.length_append,List.length_cons,← HN.out] at this; rw [List.length_append,hlen]; omega) hlen.symm)
   have hrow := HBl.out.row n hlt2
   rw [hat2] at hrow
   have hfz := HBl.out.frozen (n * 4 + 2)
   obtain ⟨p,hp⟩ : ∃ p,Iv.part x.category bp ps = p := ⟨_,rfl⟩
   rw [hp] at hrow HEn HPS
   obtain ⟨g0,g1,g2,g3⟩ := hrow
   clear hp hat2 hlt2 hlen
   go_wp2_with fail
   refine (add_any p.net nn _ HPS.out.2.2.1 HF.out).mono ?_
   rintro e w3 ⟨rfl,hw3⟩
   subst hw3
   unfold both
   rcases Mn.err_two (p.net + nn) with e2 | e2
   ·
    rw [e2,Mn.amt_fit (Iv.err_0 e2)]
    have HR := Lib.hid (HEn.out.1 e2)
    clear e2
    go_wp2_with fail
    go_ret2
    exact HR.out
   ·
    rw [e2,Mn.amt_not (err_7 e2)]
    have HR := Lib.hid (HEn.out.2 e2)
    clear e2
    go_wp2_with fail
    go_ret2
    exact HR.out
 ·
  have HR : Hid (WithE w g c x bp ps (.returned (.tuple #[.slice none 0 0,.int .i64 7])) w1) := Lib.hid ⟨HBel.out,.inr ⟨.inl (by rw [HNN.out,e1]; omega),_,rfl⟩⟩
  rw [e1]
  clear e1 hnn
  go_wp2_with fail
  go_ret2
  exact HR.out
end Go.Proofs.YtjpfpojbalepeabGreat
namespace Go.Proofs.YtjpfpojbalepeabGreat
open Go.RowKit
open Vt (Rt)
open Go.Sort (grow)
structure WSt (w wr : World) (g h n c : Nat) (N T : Int) (ps Z : List Pt.T) : Prop where
 hs : w.heap.size = h
 gh : g < h
 bel : Below g w wr
 res : Tt.At wr h 0 0 0 (.slice none 0 0)
 tot : Tt.At wr (h + 1) N T 0 (.slice (some ⟨g,0,none⟩) n c)
 blk : Pt.Block wr g (ps ++ Z)
 sh : ∀ r ∈ ps,Pt.Short r
section
variable {w wr v : World} {g h n c : Nat} {N T : Int} {ps Z : List Pt.T}
theorem WSt.below (H : WSt w wr g h n c N T ps Z) (b : Below wr.heap.size wr v) : WSt w v g h n c N T ps Z :=
 ⟨H.hs,H.gh,H.bel.trans (b.mono (Nat.le_of_lt H.blk.lt)),H.res.below b,H.tot.below b,H.blk.below b,H.sh⟩
theorem WSt.row (H : WSt w wr g h n c N T ps Z) (k : Nat) (hk : k < ps.length) : Pt.At wr g (k * 4) ps[k] ∧ (∀ o,wr.frozen? ⟨g,o,none⟩ = false) := by
 have hr := H.blk.row k (by rw [List.length_append]; omega)
 rw [List.getElem_append_left hk] at hr
 exact ⟨hr,fun o => H.blk.frozen o⟩
theorem WSt.put (H : WSt w wr g h n c N T ps Z) (k p : Nat) (hk : k < ps.length) (hp : p < 4) (x : Value) (r : Pt.T) (hr : Pt.rv r = (Pt.rv ps[k]).set p x) (hs : Pt.Short r) : WSt w (wr.setCell ⟨g,k * 4 + p,none⟩ x) g h n c N T (ps.set k r) Z := by
 have e := H.gh
 refine ⟨H.hs,e,below_put H.bel (Nat.le_refl _) _ _,H.res.far (by omega) _ _,H.tot.far (by omega) _ _,?_,?_⟩
 ·
  rw [← List.set_append_left _ _ hk]
  exact H.blk.put k p (by rw [List.length_append]; omega) hp x r (by rw [List.getElem_append_left hk]; exact hr)
 ·
  intro a ha
  obtain ⟨j,hj,e'⟩ := List.getElem_of_mem ha
  rw [List.getElem_set] at e'
  split at e'
  · exact e' ▸ hs
  · exact H.sh a (e' ▸ List.getElem_mem _)
theorem WSt.setN (H : WSt w wr g h n c N T ps Z) (x : Int) : WSt w (wr.setCell ⟨h + 1,0,none⟩ (.int .i64 x)) g h n c x T ps Z := by
 have e := H.gh
 exact ⟨H.hs,e,below_put H.bel (by omega) _ _,H.res.far (by omega) _ _,H.tot.set0 _,H.blk.far (by omega) _ _,H.sh⟩
theorem WSt.setT (H : WSt w wr g h n c N T ps Z) (x : Int) : WSt w (wr.setCell ⟨h + 1,1,none⟩ (.int .i64 x)) g h n c N x ps Z := by
 have e := H.gh
 exact ⟨H.hs,e,below_put H.bel (by omega) _ _,H.res.far (by omega) _ _,H.tot.set1 _,H.blk.far (by omega) _ _,H.sh⟩
end
def WAns (w : World) (g : Nat) (E : Int) (T : Iv.Tot) (e : Ending) (w' : World) : Prop := ∃ v,e = .returned (.tuple #[Tt.val T.net T.tax T.gross v,.int .i64 E]) ∧ Pt.Own w' g v T.parts ∧ Below g w w'
def Iv.sumW (ps : List Pt.T) : Iv.Tot := if Iv.sumE ps = 0 then Iv.sumT ps else Iv.Tot.zero
theorem whole_err {ps : List Pt.T} {E : Int} (k : Iv.upE ps 0 0 = E) (hE : E ≠ 0) : Iv.sumE ps = E ∧ Iv.sumW ps = Iv.Tot.zero := by
 have e : Iv.sumE ps = E := by
  unfold Iv.sumE
  rw [k,if_pos hE]
 unfold Iv.sumW
 rw [e,if_neg hE]
 exact ⟨rfl,rfl⟩
set_option maxHeartbeats 8000000 in
theorem inv_whole (ps Z : List Pt.T) (g n c : Nat) (w : World) (hB : Pt.Block w g (ps ++ Z)) (hn : n = ps.length) (hc : c = (ps ++ Z).length) (hc1 : c ≤ 1000) (hs : ∀ r ∈ ps,Pt.Short r) :
  Calls Tryz.prog 122 #[.slice (some ⟨g,0,none⟩) n c] w (WAns w g (Iv.sumE ps) (Iv.sumW ps)) := by
 obtain ⟨U,hU⟩ : ∃ U,Tt.box (Tt.box w 0 0 0 (.slice none 0 0)) 0 0 0 (.slice (some ⟨g,0,none⟩) n c) = U := ⟨_,rfl⟩
 have HW : Hid (WSt w U g w.heap.size n c 0 0 ps Z) := by
  have b1 := Tt.below_own w 0 0 0 (.slice none 0 0)
  have b2 := Tt.below_own (Tt.box w 0 0 0 (.slice none 0 0)) 0 0 0 (.slice (some ⟨g,0,none⟩) n c)
  have hA := Tt.at_box (Tt.box w 0 0 0 (.slice none 0 0)) 0 0 0 (.slice (some ⟨g,0,none⟩) n c)
  rw [Tt.box_size] at hA
  have hl := hB.lt
  rw [hU] at b2 hA
  exact ⟨rfl,hl,(bchain b1 b2).mono (Nat.le_of_lt hl),(Tt.at_box w 0 0 0 (.slice none 0 0)).below b2,hA,hB.below (bchain b1 b2),hs⟩
 have HN := Lib.hid hn
 have HCc := Lib.hid hc
 have HUs : Hid (U = (w.alloc (.cells #[.int .i64 0,.int .i64 0,.int .i64 0,.slice none 0 0] 57)).alloc (.cells #[.int .i64 0,.int .i64 0,.int .i64 0,.slice (some ⟨g,0,none⟩) n c] 57)) := Lib.hid hU.symm
 have hnc : n ≤ c := by rw [hc,hn,List.length_append]; omega
 obtain ⟨h,hh⟩ : ∃ h,w.heap.size = h := ⟨_,rfl⟩
 rw [hh] at HW
 clear hB hn hc hs hU
 go_enter Tryz.func122,Tryz.ntmps122
 go_wp2_with fail
 rw [← HUs.out]
 clear HUs
 try rw [hh]
 clear hh
 go_loopw [5,6,7,13] (fun _ _ _ i wr => ∃ (j : Nat) (N T : Int),j ≤ n ∧ i = .int .i64 j ∧ Hid (WSt w wr g h n c N T (Iv.mix ps j) Z) ∧ Hid (Iv.upE (ps.drop j) N T = Iv.upE ps 0 0 ∧ N + Iv.nets (ps.drop j) = Iv.nets ps ∧ T + Iv.taxes (ps.drop j) = Iv.taxes ps ∧ Fit N ∧ Fit T)) (fun _ _ _ i _ => n - (intOf i).toNat)
 case atStart => exact ⟨0,0,0,by omega,rfl,HW,Lib.hid ⟨rfl,Int.zero_add _,Int.zero_add _,⟨by omega,by omega⟩,⟨by omega,by omega⟩⟩⟩
 case round =>
  clear HW
  rename World => wy
  obtain ⟨j,N,T,hj,rfl,H,HU⟩ := hrel
  by_cases hjq : j < n
  ·
   have hjp : j < ps.length := HN.out ▸ hjq
   have hjm : j < (Iv.mix ps j).length := by rw [Iv.mix_len]; exact hjp
   obtain ⟨hAt,hfz⟩ := H.out.row j hjm
   have hpm : (Iv.mix ps j)[j] = ps[j] := Option.some.inj ((List.getElem?_eq_getElem hjm).symm.trans (Iv.mix_at ps j hjp))
   have HMs := Lib.hid (Iv.mix_set ps j hjp)
   have HU1 := Lib.hid (Iv.upE_at ps N T j hjp)
   have HU2 := Lib.hid (Iv.nets_at ps j hjp)
   have HU3 := Lib.hid (Iv.taxes_at ps j hjp)
   have HSp : Hid (Pt.Short ps[j]) := Lib.hid (hpm ▸ H.out.sh _ (List.getElem_mem hjm))
   rw [hpm] at hAt
   obtain ⟨p,hp⟩ : ∃ p,ps[j] = p := ⟨_,rfl⟩
   rw [hp] at hAt HMs HU1 HU2 HU3 HSp hpm
   have HPm := Lib.hid hpm
   obtain ⟨E,hE⟩ : ∃ E,Sh.taxE p.net p.bp = E := ⟨_,rfl⟩
   obtain ⟨X,hX⟩ : ∃ X,Sh.taxV p.net p.bp = X := ⟨_,rfl⟩
   have c1 : ∀ u,Below wy.heap.size wy u → Calls Tryz.prog 79 #[.int .i64 p.net,.int .i64 p.bp] u fun e w'' => e = .returned (.tuple #[.int .i64 X,.int .i64 E]) ∧ Below wy.heap.size wy w'' := fun u hu => (tax_any p.net p.bp wy u hu HSp.out.2.2.1 HSp.out.2.1).mono fun e w'' ⟨h1,h2⟩ => ⟨by rw [h1,hE,hX]; rfl,h2⟩
   have HC1 := Lib.hid c1
   have HF3 : Hid (∀ u,Below wy.heap.size wy u → u.cell? ⟨g,j * 4 + 3,none⟩ = some (.int .i64 p.tax) ∧ u.frozen? ⟨g,j * 4 + 3,none⟩ = false) := Lib.hid fun u hu => by
    have h2 := (H.out.below hu).row j hjm
    rw [hpm] at h2
    exact ⟨h2.1.4,h2.2 _⟩
   rw [hE,hX] at HU1
   rw [hX] at HU3
   have HFX : Hid (Fit X) := Lib.hid (hX ▸ tax_fit p.net p.bp)
   have HTx : Hid (Iv.taxed p = ⟨p.cat,p.bp,p.net,X⟩) := Lib.hid (by unfold Iv.taxed; rw [hX])
   have HPut : Hid (∀ u,Below wy.heap.size wy u → WSt w (u.setCell ⟨g,j * 4 + 3,none⟩ (.int .i64 X)) g h n c N T (Iv.mix ps (j + 1)) Z) := Lib.hid fun u hu => by
    rw [← HMs.out,HTx.out]
    exact (H.out.below hu).put j 3 hjm (by omega) _ _ (by rw [HPm.out]; rfl) ⟨HSp.out.1,HSp.out.2.1,HSp.out.2.2.1,HFX.out⟩
   obtain ⟨r0,r1,r2,r3⟩ := hAt
   have hf3 := hfz (j * 4 + 3)
   clear hE hX hp hpm c1 hfz
   go_wp2_with fail
   go_cut [7] (fun e wx => e = .int .i64 E ∧ Hid (WSt w wx g h n c N T (Iv.mix ps (j + 1)) Z))
   case first =>
    go_region_with (go_at_call 79; refine (HC1.out _ (by first | exact Below.refl _ _ | exact (Below.refl _ _).drew)).mono ?_; rintro e u ⟨rfl,hu⟩; have q3 := (HF3.out u hu).1; have q4 := (HF3.out u hu).2; have HBu := Lib.hid hu; clear hu)
    all_goals (try go_wp2_with fail)
    all_goals go_meet
    all_goals exact ⟨rfl,Lib.hid (by first | exact HPut.out _ HBu.out | exact (HPut.out _ HBu.out).below (Below.refl _ _).drew)⟩
   case rest =>
    obtain ⟨rfl,H1⟩ := hcut
    clear r0 r1 r2 r3 hf3 HPut HC1 HF3 H
    by_cases hE0 : E = 0
    ·
     subst hE0
     rw [if_neg (by simp)] at HU1
     have hjm2 : j < (Iv.mix ps (j + 1)).length := by rw [Iv.mix_len]; exact hjp
     have hpm2 : (Iv.mix ps (j + 1))[j] = Iv.taxed p := by
      have h1 : (Iv.mix ps (j + 1))[j]? = some (Iv.taxed p) := by rw [← HMs.out,List.getElem?_set_self hjm]
      exact Option.some.inj ((List.getElem?_eq_getElem hjm2).symm.trans h1)
     obtain ⟨hAt2,hfz2⟩ := H1.out.row j hjm2
     rw [hpm2,HTx.out] at hAt2
     obtain ⟨r0,r1,r2,r3⟩ := hAt2
     obtain ⟨t0,t1,t2,t3⟩ := H1.out.tot.cells
     have hf0 := H1.out.tot.frozen 0
     have HSN : Hid (∀ x,WSt w (wc.setCell ⟨h + 1,0,none⟩ (.int .i64 x)) g h n c x T (Iv.mix ps (j + 1)) Z) := Lib.hid fun x => H1.out.setN x
     clear hfz2 r0 r1 r3 t1 t2 t3
     go_wp2_with fail
     go_cut [7] (fun e wv => e = .int .i64 (Mn.err (N + p.net)) ∧ Hid (WSt w wv g h n c (Mn.amt (N + p.net)) T (Iv.mix ps (j + 1)) Z))
     case first =>
      go_region_with (go_at_call 88; refine (add_any N p.net _ HU.out.2.2.2.1 HSp.out.2.2.1).mono ?_; rintro e u ⟨rfl,hu⟩; subst hu; unfold both)
      all_goals (try go_wp2_with fail)
      all_goals go_meet
      all_goals exact ⟨rfl,Lib.hid (by first | exact HSN.out _ | exact (HSN.out _).below (Below.refl _ _).drew)⟩
     case rest =>
      obtain ⟨rfl,H2⟩ := hcut
      clear r2 t0 hf0 HSN H1
      rcases Mn.err_two (N + p.net) with e1 | e1
      ·
       rw [e1]
       rw [Mn.amt_fit (Iv.err_0 e1)] at H2
       rw [e1,if_neg (by simp)] at HU1
       have HFN := Lib.hid (Iv.err_0 e1)
       clear e1
       obtain ⟨hAt3,_⟩ := H2.out.row j hjm2
       rw [hpm2,HTx.out] at hAt3
       obtain ⟨r0,r1,r2,r3⟩ := hAt3
       obtain ⟨t0,t1,t2,t3⟩ := H2.out.tot.cells
       have hf1 := H2.out.tot.frozen 1
       rename World => wd
       have HST : Hid (∀ x,WSt w (wd.setCell ⟨h + 1,1,none⟩ (.int .i64 x)) g h n c (N + p.net) x (Iv.mix ps (j + 1)) Z) := Lib.hid fun x => H2.out.setT x
       clear r0 r1 r2 t0 t2 t3
       go_wp2_with fail
       go_cut [7] (fun e wv => e = .int .i64 (Mn.err (T + X)) ∧ Hid (WSt w wv g h n c (N + p.net) (Mn.amt (T + X)) (Iv.mix ps (j + 1)) Z))
       case first =>
        go_region_with (go_at_call 88; refine (add_any T X _ HU.out.2.2.2.2 HFX.out).mono ?_; rintro e u ⟨rfl,hu⟩; subst hu; unfold both)
        all_goals (try go_wp2_with fail)
        all_goals go_meet
        all_goals exact ⟨rfl,Lib.hid (by first | exact HST.out _ | exact (HST.out _).below (Below.refl _ _).drew)⟩
       case rest =>
        obtain ⟨rfl,H3⟩ := hcut
        clear r3 t1 hf1 HST H2
        rcases Mn.err_two (T + X) with e2 | e2
        ·
         rw [Mn.amt_fit (Iv.err_0 e2)] at H3
         rw [e2]
         rw [e2,if_neg (by simp)] at HU1
         have HFT := Lib.hid (Iv.err_0 e2)
         clear e2
         go_wp2_with fail
         go_roundw
         case rel => exact ⟨j + 1,N + p.net,T + X,by omega,by go_num,H3,Lib.hid ⟨by rw [← HU1.out]; exact HU.out.1,by have h1 := HU.out.2.1; have h2 := HU2.out; omega,by have h1 := HU.out.2.2.1; have h2 := HU3.out; omega,HFN.out,HFT.out⟩⟩
         case measure => simp [intOf]; omega
        ·
         have HP := Lib.hid (whole_err (ps := ps) (E := 7) (by rw [← HU.out.1,HU1.out,e2]; rfl) (by omega))
         rw [e2]
         clear e2
         obtain ⟨z0,z1,z2,z3⟩ := H3.out.res.cells
         have f0 := H3.out.res.frozen 0
         have f1 := H3.out.res.frozen 1
         have f2 := H3.out.res.frozen 2
         have f3 := H3.out.res.frozen 3
         have HBe := Lib.hid (And.intro H3.out.bel (And.intro H3.out.hs H3.out.gh))
         go_wp2_with fail
         exact bodyPost_ret (v := .tuple #[Tt.val 0 0 0 (.slice none 0 0),.int .i64 7]) (by simp [results,Tt.val,Tryz.results122,go_sem,z0,z1,z2,z3]) rfl ⟨_,by rw [HP.out.1,HP.out.2]; rfl,by rw [HP.out.2]; exact Pt.own_nil _ _,below_put (below_put (below_put (below_put HBe.out.1 (by have := HBe.out.2; omega) _ _) (by have := HBe.out.2; omega) _ _) (by have := HBe.out.2; omega) _ _) (by have := HBe.out.2; omega) _ _⟩
      ·
       have HP := Lib.hid (whole_err (ps := ps) (E := 7) (by rw [← HU.out.1,HU1.out,e1]; rfl) (by omega))
       rw [e1]
       clear e1
       obtain ⟨z0,z1,z2,z3⟩ := H2.out.res.cells
       have f0 := H2.out.res.frozen 0
       have f1 := H2.out.res.frozen 1
       have f2 := H2.out.res.frozen 2
       have f3 := H2.out.res.frozen 3
       have HBe := Lib.hid (And.intro H2.out.bel (And.intro H2.out.hs H2.out.gh))
       go_wp2_with fail
       exact bodyPost_ret (v := .tuple #[Tt.val 0 0 0 (.slice none 0 0),.int .i64 7]) (by simp [results,Tt.val,Tryz.results122,go_sem,z0,z1,z2,z3]) rfl ⟨_,by rw [HP.out.1,HP.out.2]; rfl,by rw [HP.out.2]; exact Pt.own_nil _ _,below_put (below_put (below_put (below_put HBe.out.1 (by have := HBe.out.2; omega) _ _) (by have := HBe.out.2; omega) _ _) (by have := HBe.out.2; omega) _ _) (by have := HBe.out.2; omega) _ _⟩
    ·
     have HP := Lib.hid (whole_err (ps := ps) (E := E) (by rw [← HU.out.1,HU1.out,if_pos hE0]) hE0)
     have hne : (E != 0) = true := bne_iff_ne.2 hE0
     clear hE0
     obtain ⟨z0,z1,z2,z3⟩ := H1.out.res.cells
     have f0 := H1.out.res.frozen 0
     have f1 := H1.out.res.frozen 1
     have f2 := H1.out.res.frozen 2
     have f3 := H1.out.res.frozen 3
     have HBe := Lib.hid (And.intro H1.out.bel (And.intro H1.out.hs H1.out.gh))
     go_wp2_with fail
     exact bodyPost_ret (v := .tuple #[Tt.val 0 0 0 (.slice none 0 0),.int .i64 E]) (by simp [results,Tt.val,Tryz.results122,go_sem,z0,z1,z2,z3]) rfl ⟨_,by rw [HP.out.1,HP.out.2]; rfl,by rw [HP.out.2]; exact Pt.own_nil _ _,below_put (below_put (below_put (below_put HBe.out.1 (by have := HBe.out.2; omega) _ _) (by have := HBe.out.2; omega) _ _) (by have := HBe.out.2; omega) _ _) (by have := HBe.out.2; omega) _ _⟩
  ·
   obtain rfl : j = n := by omega
   have HD : Hid (ps.drop j = []) := Lib.hid (List.drop_eq_nil_of_le (Nat.le_of_eq HN.out.symm))
   have HU0 : Hid (Iv.upE ps 0 0 = 0 ∧ N = Iv.nets ps ∧ T = Iv.taxes ps) := Lib.hid (by
    have h := HU.out
    rw [HD.out] at h
    have h1 : N + 0 = Iv.nets ps := h.2.1
    have h2 : T + 0 = Iv.taxes ps := h.2.2.1
    exact ⟨h.1.symm,by omega,by omega⟩)
   have HMx : Hid (Iv.mix ps j = ps.map Iv.taxed) := Lib.hid (by rw [HN.out]; exact Iv.mix_all ps)
   rw [HMx.out] at H
   obtain ⟨t0,t1,t2,t3⟩ := H.out.tot.cells
   have hf2 := H.out.tot.frozen 2
   go_wp2_with fail
   refine (add_any N T _ HU.out.2.2.2.1 HU.out.2.2.2.2).mono ?_
   rintro e wu ⟨rfl,hwu⟩
   subst hwu
   unfold both
   rcases Mn.err_two (N + T) with e1 | e1
   ·
    rw [e1,Mn.amt_fit (Iv.err_0 e1)]
    have HP : Hid (Iv.sumE ps = 0 ∧ Iv.sumW ps = Iv.sumT ps) := Lib.hid (by
     have h0 : Iv.sumE ps = 0 := by
      unfold Iv.sumE
      rw [if_neg (by rw [HU0.out.1]; simp),← HU0.out.2.1,← HU0.out.2.2]
      exact e1
     exact ⟨h0,if_pos h0⟩)
    clear e1
    obtain ⟨z0,z1,z2,z3⟩ := H.out.res.cells
    have f0 := H.out.res.frozen 0
    have f1 := H.out.res.frozen 1
    have f2 := H.out.res.frozen 2
    have f3 := H.out.res.frozen 3
    have HBe := Lib.hid (And.intro H.out.bel (And.intro H.out.hs H.out.gh))
    go_wp2_with fail
    refine bodyPost_ret (v := .tuple #[Tt.val N T (N + T) (.slice (some ⟨g,0,none⟩) j c),.int .i64 0]) (by simp [results,Tt.val,Tryz.results122,go_sem,z0,z1,z2,z3]) rfl ⟨.slice (some ⟨g,0,none⟩) j c,?_,?_,?_⟩
    ·
     rw [HP.out.1,HP.out.2]
     unfold Iv.sumT
     rw [← HU0.out.2.1,← HU0.out.2.2]
    ·
     rw [HP.out.2]
     have hgh := HBe.out.2.2
     have hb : Pt.Block _ g (ps.map Iv.taxed ++ Z) := (((((H.out.blk.far (b := h + 1) (by omega) 2 (.int .i64 (N + T))).far (b := h) (by omega) 0 (.int .i64 N)).far (b := h) (by omega) 1 (.int .i64 T)).far (b := h) (by omega) 2 (.int .i64 (N + T))).far (b := h) (by omega) 3 (.slice (some ⟨g,0,none⟩) j c))
     have ho : Pt.Own _ g (.slice (some ⟨g,0,none⟩) j c) (ps.map Iv.taxed) := Pt.own_front hb (Nat.le_refl _) (by rw [List.length_map]; exact HN.out) (by rw [List.length_append,List.length_map,← List.length_append]; exact HCc.out) hc1
     exact ho
    · exact below_put (below_put (below_put (below_put (below_put HBe.out.1 (by have := HBe.out.2; omega) _ _) (by have := HBe.out.2; omega) _ _) (by have := HBe.out.2; omega) _ _) (by have := HBe.out.2; omega) _ _) (by have := HBe.out.2; omega) _ _
   ·
    have HP : Hid (Iv.sumE ps = 7 ∧ Iv.sumW ps = Iv.Tot.zero) := Lib.hid (by
     have h0 : Iv.sumE ps = 7 := by
      unfold Iv.sumE
      rw [if_neg (by rw [HU0.out.1]; simp),← HU0.out.2.1,← HU0.out.2.2]
      exact e1
     unfold Iv.sumW
     rw [h0]
     exact ⟨rfl,rfl⟩)
    rw [e1]
    clear e1
    obtain ⟨z0,z1,z2,z3⟩ := H.out.res.cells
    have f0 := H.out.res.frozen 0
    have f1 := H.out.res.frozen 1
    have f2 := H.out.res.frozen 2
    have f3 := H.out.res.frozen 3
    have HBe := Lib.hid (And.intro H.out.bel (And.intro H.out.hs H.out.gh))
    go_wp2_with fail
    exact bodyPost_ret (v := .tuple #[Tt.val 0 0 0 (.slice none 0 0),.int .i64 7]) (by simp [results,Tt.val,Tryz.results122,go_sem,z0,z1,z2,z3]) rfl ⟨_,by rw [HP.out.1,HP.out.2]; rfl,by rw [HP.out.2]; exact Pt.own_nil _ _,below_put (below_put (below_put (below_put (below_put HBe.out.1 (by have := HBe.out.2; omega) _ _) (by have := HBe.out.2; omega) _ _) (by have := HBe.out.2; omega) _ _) (by have := HBe.out.2; omega) _ _) (by have := HBe.out.2; omega) _ _⟩
end Go.Proofs.YtjpfpojbalepeabGreat
namespace Go.Proofs.YtjpfpojbalepeabGreat
open Go.RowKit
open Vt (Rt)
open Go.Sort (grow)
theorem Pt.make_room (n : Nat) (hn : n ≤ 1000) (u : World) : (Instr.makeSlice 55 (.int .i64 0) (.int .i64 (n : Int))).run Tryz.prog u =
  .ok (.slice (some ⟨u.heap.size,0,none⟩) 0 n) (u.alloc (.cells (Pt.zeros n) 101)) := by
 obtain ⟨i0,hi,hz0,hz1,hz2⟩ := info_parts Pt.info
 have h := run_make (P := Tryz.prog) u 55 101 i0 Pt.zeroV Tryz.underlying55 hi hz0 .i64 .i64 0 (n : Int) (by omega) (by omega) (by rw [hz2]; omega) (by omega)
 rw [hz1,Int.toNat_natCast,Pt.made] at h
 exact h
structure TSt (w wr : World) (g q c : Nat) (y m d : Int) (ps Z : List Pt.T) : Prop where
 gw : w.heap.size = g
 lo : g + 2 ≤ q
 bel : Below w.heap.size w wr
 day : DayC wr g y m d
 res : Tt.At wr (g + 1) 0 0 0 (.slice none 0 0)
 blk : Pt.Block wr q (ps ++ Z)
 len : c = (ps ++ Z).length
 sh : ∀ r ∈ ps,Pt.Short r
section
variable {w wr v : World} {g q c : Nat} {y m d : Int} {ps Z : List Pt.T}
theorem TSt.below (H : TSt w wr g q c y m d ps Z) (b : Below wr.heap.size wr v) : TSt w v g q c y m d ps Z :=
 ⟨H.gw,H.lo,bchain H.bel b,H.day.below b,H.res.below b,H.blk.below b,H.len,H.sh⟩
theorem DayC.under {u v : World} {b B : Nat} {y m d : Int} (h : DayC u b y m d) (k : Below B u v) (hb : b < B) : DayC v b y m d := by
 obtain ⟨h0,h1,h2⟩ := h
 unfold DayC
 rw [k.cell (p := ⟨b,0,none⟩) hb,k.cell (p := ⟨b,1,none⟩) hb,k.cell (p := ⟨b,2,none⟩) hb]
 exact ⟨h0,h1,h2⟩
theorem TSt.parts (H : TSt w wr g q c y m d ps Z) {qs Y : List Pt.T} (b : Below q wr v) (hB : Pt.Block v q (qs ++ Y)) (hc : c = (qs ++ Y).length) (hs : ∀ r ∈ qs,Pt.Short r) : TSt w v g q c y m d qs Y := by
 have e := H.gw
 have lo := H.lo
 exact ⟨e,lo,H.bel.trans (b.mono (by omega)),H.day.under b (by omega),(b.block _ (by omega)).trans H.res,hB,hc,hs⟩
end
theorem Pt.own_slice {w : World} {B : Nat} {v : Value} {M : List Pt.T} (h : Pt.Own w B v M) : ∃ ao n c,v = .slice ao n c := by
 rcases h.2 with ⟨h',_⟩ | ⟨g,cap,cur,h',_⟩
 · exact ⟨_,_,_,h'⟩
 · exact ⟨_,_,_,h'⟩
theorem enter_short {c : ByteArray} {bp n : Int} (hc : c.size ≤ 140737488355328) (hb : Fit bp) {ps : List Pt.T} (hs : ∀ r ∈ ps,Pt.Short r) (he : Iv.enterE c bp n ps = 0) : ∀ r ∈ Iv.enter c bp n ps,Pt.Short r := by
 have h1 := ins_short hc hb hs
 have h2 := part_short hc hb hs
 have h3 := Iv.err_0 he
 intro r hr
 unfold Iv.enter at hr
 obtain ⟨j,hj,e'⟩ := List.getElem_of_mem hr
 rw [List.getElem_set] at e'
 split at e'
 ·
  rw [← e']
  exact ⟨h2.1,h2.2.1,h3,h2.2.2.2⟩
 · exact h1 r (e' ▸ List.getElem_mem _)
set_option maxHeartbeats 8000000 in
theorem inv_total (rs : List Rt) (ls : List Ln.T) (ao bo : Option Addr) (n ca k0 cb : Nat) (y m d : Int) (w : World) (hR : Rts w ao n ca rs) (hL : Ln.Ls w bo k0 cb ls) (hy : Fit y) (hm : Fit m) (hd : Fit d) :
  Calls Tryz.prog 96 #[.slice ao n ca,dayV y m d,.slice bo k0 cb] w (Tt.Ans w (Iv.totE rs y m d ls) (Iv.totT rs y m d ls)) := by
 have HR := Lib.hid hR
 have HL := Lib.hid hL
 have HLn := Lib.hid hL.len
 have HFt := Lib.hid (And.intro hy (And.intro hm hd))
 have hcb := hL.reach
 have hfb := hL.fits
 clear hR hL hy hm hd
 obtain ⟨U,hU⟩ : ∃ U,(w.alloc (.cells #[.int .i64 y,.int .i64 m,.int .i64 d] 24)).alloc (.cells #[.int .i64 0,.int .i64 0,.int .i64 0,.slice none 0 0] 57) = U := ⟨_,rfl⟩
 have HP0 : Hid (PSt w U w.heap.size y m d) := by
  have b1 : Below w.heap.size w (w.alloc (.cells #[.int .i64 y,.int .i64 m,.int .i64 d] 24)) := (Below.refl _ _).alloc (Nat.le_refl _) _
  have b2 := Tt.below_own (w.alloc (.cells #[.int .i64 y,.int .i64 m,.int .i64 d] 24)) 0 0 0 (.slice none 0 0)
  have hA := Tt.at_box (w.alloc (.cells #[.int .i64 y,.int .i64 m,.int .i64 d] 24)) 0 0 0 (.slice none 0 0)
  rw [show (w.alloc (.cells #[.int .i64 y,.int .i64 m,.int .i64 d] 24)).heap.size = w.heap.size + 1 by simp] at hA
  exact hU ▸ ⟨rfl,bchain b1 b2,(dayC_box w y m d).below b2,hA⟩
 obtain ⟨g,hg⟩ : ∃ g,w.heap.size = g := ⟨_,rfl⟩
 have HUs : Hid (U = (w.alloc (.cells #[.int .i64 y,.int .i64 m,.int .i64 d] 24)).alloc (.cells #[.int .i64 0,.int .i64 0,.int .i64 0,.slice none 0 0] 57)) := Lib.hid hU.symm
 have HUz : Hid (U.heap.size = w.heap.size + 2) := Lib.hid (by rw [← hU]; simp)
 rw [hg] at HP0 HUz
 clear hU
 have hday := HP0.out.day
 unfold DayC at hday
 rw [HUs.out,← hg] at hday
 obtain ⟨d0,d1,d2⟩ := hday
 unfold dayV
 go_enter Tryz.func96,Tryz.ntmps96
 go_wp2_with fail
 rw [← HUs.out]
 try rw [hg]
 clear d0 d1 d2 HUs hg
 refine (inv_ask rs ls ao n ca k0 y m d U _ (Below.refl _ _) (HR.out.below HP0.out.bel) HFt.out.1 HFt.out.2.1 HFt.out.2.2 HLn.out (by omega)).mono ?_
 rintro e w1 ⟨rfl,b1⟩
 have H1 := Lib.hid (HP0.out.below b1)
 have HR1 := Lib.hid (HR.out.below (bchain HP0.out.bel b1))
 clear b1
 by_cases hH : Iv.headE rs y m d ls = 0
 ·
  rw [hH]
  have HH := Lib.hid hH
  have hk12 : 1 ≤ k0 ∧ k0 ≤ 12 := by
   have h1 := hH
   unfold Iv.headE at h1
   rw [← HLn.out] at h1
   split at h1
   · omega
   ·
    split at h1
    · omega
    ·
     split at h1
     · omega
     ·
      split at h1
      · omega
      · omega
  obtain ⟨hk1,hk2⟩ := hk12
  have hmk := Pt.make_room k0 (by omega)
  have HS : Hid (TSt w (w1.alloc (.cells (Pt.zeros k0) 101)) g w1.heap.size k0 y m d [] (List.replicate k0 Pt.zero)) := Lib.hid (by
   have b2 : Below w1.heap.size w1 (w1.alloc (.cells (Pt.zeros k0) 101)) := (Below.refl _ _).alloc (Nat.le_refl _) _
   have h2 := H1.out.below b2
   exact ⟨h2.gw,H1.out.res.lt,h2.bel,h2.day,h2.res,Pt.block_made w1 k0,by simp,by simp⟩)
  clear hH
  go_wp2_with fail
  generalize w1.alloc (.cells (Pt.zeros k0) 101) = V at *
  generalize w1.heap.size = q at *
  clear H1 HR1 HP0 HUz hmk
  go_loopw [9,11,12,13,28] (fun p _ _ _ i wr => ∃ (k np : Nat) (ps Z : List Pt.T),k ≤ k0 ∧ i = .int .i64 k ∧ p = .slice (some ⟨q,0,none⟩) np k0 ∧ Hid (TSt w wr g q k0 y m d ps Z) ∧ Hid (Iv.goE rs y m d (ls.drop k) ps = Iv.goE rs y m d ls [] ∧ Iv.goL rs y m d (ls.drop k) ps = Iv.goL rs y m d ls [] ∧ ps.length ≤ k ∧ np = ps.length)) (fun _ _ _ _ i _ => k0 - (intOf i).toNat)
  case atStart => exact ⟨0,0,[],_,by omega,rfl,rfl,HS,Lib.hid ⟨rfl,rfl,Nat.le_refl _,rfl⟩⟩
  case round =>
   clear HS
   rename World => wz
   obtain ⟨k,np,ps,Z,hk,rfl,rfl,H,HG⟩ := hrel
   by_cases hlt : k < k0
   ·
    obtain ⟨b,off,rfl⟩ := HL.out.at (by omega)
    have hkl : k < ls.length := HLn.out ▸ hlt
    have hrow := (HL.out.row k hkl).below H.out.bel
    have HSh := Lib.hid (HL.out.short _ (List.getElem_mem hkl))
    have HG1 := Lib.hid (Iv.goE_at rs y m d ls ps k hkl)
    have HG2 := Lib.hid (Iv.goL_at rs y m d ls ps k hkl)
    obtain ⟨x,hx⟩ : ∃ x,ls[k] = x := ⟨_,rfl⟩
    rw [hx] at hrow HSh HG1 HG2
    clear hx
    obtain ⟨g0,g1,g2,g3⟩ := hrow
    obtain ⟨W,hW,hbW,hC⟩ := Ln.boxed1 wz x
    have H1 := Lib.hid (H.out.below hbW)
    have HC := Lib.hid hC
    unfold Ln.C at hC
    obtain ⟨a0,a1,a2,a3⟩ := hC
    have hD := H1.out.day
    unfold DayC at hD
    obtain ⟨d0,d1,d2⟩ := hD
    clear hbW H
    go_wp2_with fail
    refine (inv_find rs x ao n ca y m d _ (HR.out.below H1.out.bel) HFt.out.1 HFt.out.2.1 HFt.out.2.2 HSh.out).mono ?_
    rintro e w2 ⟨rfl,b2⟩
    have H2 := Lib.hid (H1.out.below b2)
    have hC := HC.out.below b2
    unfold Ln.C at hC
    clear b2 hW a0 a1 a2 a3 d0 d1 d2 g0 g1 g2 g3 HC H1
    obtain ⟨a0,a1,a2,a3⟩ := hC
    have HAl := Lib.hid (Iv.ask_line (rs := rs) (y := y) (m := m) (d := d) (x := x))
    by_cases hA : Iv.askE rs y m d x = 0
    ·
     have hV : Iv.askV rs y m d x = (Vt.find rs x.category y m d).1 := if_pos hA
     rw [if_pos hA] at HAl
     rw [hA,hV]
     have HFb := Lib.hid (find_fit HR.out.short x.category y m d)
     obtain ⟨bp,hbp⟩ : ∃ bp,(Vt.find rs x.category y m d).1 = bp := ⟨_,rfl⟩
     rw [hbp] at HFb HG1 HG2 ⊢
     clear hbp hA hV
     obtain ⟨z,Z',hZ⟩ : ∃ z Z',Z = z :: Z' := by
      cases Z with
      | nil =>
       have h1 := H2.out.len
       have h2 := HG.out.2.2.1
       rw [List.append_nil] at h1
       omega
      | cons z Z' => exact ⟨z,Z',rfl⟩
     subst hZ
     go_wp2_with fail
     refine (inv_with ps Z' z x bp q np k0 _ H2.out.blk HG.out.2.2.2 H2.out.len (by omega) HSh.out HFb.out H2.out.sh).mono ?_
     rintro e w3 ⟨b3,h3⟩
     rcases h3 with ⟨e1,e2,Y,rfl,hB,hY⟩ | ⟨e1,v,rfl⟩
     ·
      have H3 := Lib.hid (H2.out.parts b3 hB hY (enter_short HSh.out.2.1 HFb.out H2.out.sh e2))
      rw [HAl.out,e1,if_neg (by simp),e2,if_neg (by simp)] at HG1
      obtain ⟨qs,hqs⟩ : ∃ qs,Iv.enter x.category bp (x.count * x.price) ps = qs := ⟨_,rfl⟩
      have HQl : Hid (qs.length ≤ k + 1) := Lib.hid (by rw [← hqs]; exact Nat.le_trans (Iv.enter_len ps) (by have := HG.out.2.2.1; omega))
      rw [hqs] at H3 HG1 HG2 ⊢
      obtain ⟨nq,hnq⟩ : ∃ nq,qs.length = nq := ⟨_,rfl⟩
      have HNq := Lib.hid hnq
      rw [hnq]
      clear hqs hnq b3 hB hY e1 e2 H2 a0 a1 a2 a3
      go_wp2_with fail
      go_roundw
      case rel => exact ⟨k + 1,nq,qs,Y,by omega,by go_num,rfl,H3,Lib.hid ⟨by rw [← HG1.out]; exact HG.out.1,by rw [← HG2.out]; exact HG.out.2.1,HQl.out,HNq.out.symm⟩⟩
      case measure => simp [intOf]; omega
     ·
      have hE7 : Iv.goE rs y m d (ls.drop k) ps = 7 := by
       rw [HG1.out,HAl.out]
       rcases Mn.err_two (x.count * x.price) with e3 | e3
       ·
        rw [e3] at e1 ⊢
        rw [if_neg (by simp),if_pos (e1.resolve_left (by simp))]
       ·
        rw [e3]
        rfl
      have HP := Lib.hid (Iv.tot_line HH.out (by rw [← HG.out.1,hE7]; omega))
      rw [← HG.out.1,hE7] at HP
      have lo := H2.out.lo
      have HRs : Hid (PSt w w3 g y m d) := Lib.hid ⟨H2.out.gw,H2.out.bel.trans (b3.mono (by have := H2.out.gw; omega)),H2.out.day.under b3 (by omega),(b3.block _ (by omega)).trans H2.out.res⟩
      clear hE7 e1 b3 H2 a0 a1 a2 a3 lo
      obtain ⟨z0,z1,z2,z3⟩ := HRs.out.res.cells
      have f0 := HRs.out.res.frozen 0
      have f1 := HRs.out.res.frozen 1
      have f2 := HRs.out.res.frozen 2
      have f3 := HRs.out.res.frozen 3
      have HBe := Lib.hid (And.intro HRs.out.bel HRs.out.gw)
      go_wp2_with fail
      exact bodyPost_ret (v := .tuple #[Tt.val 0 0 0 (.slice none 0 0),.int .i64 7]) (by simp [results,Tt.val,Tryz.results96,go_sem,z0,z1,z2,z3]) rfl ⟨_,by rw [HP.out.1,HP.out.2]; rfl,by rw [HP.out.2]; exact Pt.own_nil _ _,Mem.bset (Mem.bset (Mem.bset (Mem.bset HBe.out.1 (by have := HBe.out.2; omega) _ _) (by have := HBe.out.2; omega) _ _) (by have := HBe.out.2; omega) _ _) (by have := HBe.out.2; omega) _ _⟩
    ·
     rw [if_neg hA] at HAl
     obtain ⟨E,hE⟩ : ∃ E,Iv.askE rs y m d x = E := ⟨_,rfl⟩
     rw [hE] at HAl hA ⊢
     obtain ⟨bv,hbv⟩ : ∃ bv,Iv.askV rs y m d x = bv := ⟨_,rfl⟩
     rw [hbv]
     have hE7 : Iv.goE rs y m d (ls.drop k) ps = E := by
      rw [HG1.out,HAl.out,if_pos hA]
     have HP := Lib.hid (Iv.tot_line HH.out (by rw [← HG.out.1,hE7]; exact hA))
     rw [← HG.out.1,hE7] at HP
     have hne : (E != 0) = true := bne_iff_ne.2 hA
     clear hE hbv hE7 hA a0 a1 a2 a3
     obtain ⟨z0,z1,z2,z3⟩ := H2.out.res.cells
     have f0 := H2.out.res.frozen 0
     have f1 := H2.out.res.frozen 1
     have f2 := H2.out.res.frozen 2
     have f3 := H2.out.res.frozen 3
     have HBe := Lib.hid (And.intro H2.out.bel H2.out.gw)
     go_wp2_with fail
     exact bodyPost_ret (v := .tuple #[Tt.val 0 0 0 (.slice none 0 0),.int .i64 E]) (by simp [results,Tt.val,Tryz.results96,go_sem,z0,z1,z2,z3]) rfl ⟨_,by rw [HP.out.1,HP.out.2]; rfl,by rw [HP.out.2]; exact Pt.own_nil _ _,Mem.bset (Mem.bset (Mem.bset (Mem.bset HBe.out.1 (by have := HBe.out.2; omega) _ _) (by have := HBe.out.2; omega) _ _) (by have := HBe.out.2; omega) _ _) (by have := HBe.out.2; omega) _ _⟩
   ·
    obtain rfl : k = k0 := by omega
    have HGo : Hid (Iv.goE rs y m d ls [] = 0 ∧ Iv.goL rs y m d ls [] = ps) := Lib.hid (by
     have h := HG.out
     rw [List.drop_eq_nil_of_le (Nat.le_of_eq HLn.out.symm)] at h
     exact ⟨h.1.symm,h.2.1.symm⟩)
    have HSum := Lib.hid (Iv.tot_sum HH.out HGo.out.1)
    rw [HGo.out.2] at HSum
    go_wp2_with fail
    refine (inv_whole ps Z q np k _ H.out.blk HG.out.2.2.2 H.out.len (by omega) H.out.sh).mono ?_
    rintro e w3 ⟨v,rfl,hO,b3⟩
    have lo := H.out.lo
    have HRs : Hid (PSt w w3 g y m d) := Lib.hid ⟨H.out.gw,H.out.bel.trans (b3.mono (by have := H.out.gw; omega)),H.out.day.under b3 (by omega),(b3.block _ (by omega)).trans H.out.res⟩
    have HO := Lib.hid (Pt.own_mono hO (show g + 2 ≤ q from lo))
    have HT : Hid (Iv.totE rs y m d ls = Iv.sumE ps ∧ Iv.totT rs y m d ls = Iv.sumW ps) := Lib.hid HSum.out
    obtain ⟨E,hE⟩ : ∃ E,Iv.sumE ps = E := ⟨_,rfl⟩
    obtain ⟨T,hT⟩ : ∃ T,Iv.sumW ps = T := ⟨_,rfl⟩
    rw [hE,hT] at HT ⊢
    rw [hT] at HO
    obtain ⟨N,X,G,qs⟩ := T
    clear hE hT hO b3 lo HSum H
    unfold Tt.val
    obtain ⟨z0,z1,z2,z3⟩ := HRs.out.res.cells
    have f0 := HRs.out.res.frozen 0
    have f1 := HRs.out.res.frozen 1
    have f2 := HRs.out.res.frozen 2
    have f3 := HRs.out.res.frozen 3
    have HBe := Lib.hid (And.intro HRs.out.bel HRs.out.gw)
    obtain ⟨vo,vn,vc,rfl⟩ := Pt.own_slice HO.out
    go_wp2_with fail
    refine bodyPost_ret (v := .tuple #[Tt.val N X G (.slice vo vn vc),.int .i64 E]) (by simp [results,Tt.val,Tryz.results96,go_sem,z0,z1,z2,z3]) rfl ⟨.slice vo vn vc,by rw [HT.out.1,HT.out.2],?_,Mem.bset (Mem.bset (Mem.bset (Mem.bset HBe.out.1 (by have := HBe.out.2; omega) _ _) (by have := HBe.out.2; omega) _ _) (by have := HBe.out.2; omega) _ _) (by have := HBe.out.2; omega) _ _⟩
    rw [HT.out.2]
    have ho : Pt.Own _ (g + 2) (.slice vo vn vc) qs := Pt.own_far (Pt.own_far (Pt.own_far (Pt.own_far HO.out (b := g + 1) (by omega) 0 (.int .i64 N)) (b := g + 1) (by omega) 1 (.int .i64 X)) (b := g + 1) (by omega) 2 (.int .i64 G)) (b := g + 1) (by omega) 3 (.slice vo vn vc)
    exact Pt.own_mono ho (by have := HBe.out.2; omega)
 ·
  have HP := Lib.hid (Iv.tot_head hH)
  obtain ⟨E,hE⟩ : ∃ E,Iv.headE rs y m d ls = E := ⟨_,rfl⟩
  rw [hE] at HP hH ⊢
  have hne : (E != 0) = true := bne_iff_ne.2 hH
  clear hE hH
  obtain ⟨z0,z1,z2,z3⟩ := H1.out.res.cells
  have f0 := H1.out.res.frozen 0
  have f1 := H1.out.res.frozen 1
  have f2 := H1.out.res.frozen 2
  have f3 := H1.out.res.frozen 3
  have HBe := Lib.hid (And.intro H1.out.bel H1.out.gw)
  go_wp2_with fail
  exact bodyPost_ret (v := .tuple #[Tt.val 0 0 0 (.slice none 0 0),.int .i64 E]) (by simp [results,Tt.val,Tryz.results96,go_sem,z0,z1,z2,z3]) rfl ⟨_,by rw [HP.out.1,HP.out.2]; rfl,by rw [HP.out.2]; exact Pt.own_nil _ _,Mem.bset (Mem.bset (Mem.bset (Mem.bset HBe.out.1 (by have := HBe.out.2; omega) _ _) (by have := HBe.out.2; omega) _ _) (by have := HBe.out.2; omega) _ _) (by have := HBe.out.2; omega) _ _⟩
end Go.Proofs.YtjpfpojbalepeabGreat
namespace Go.Proofs.YtjpfpojbalepeabGreat
open Vt (Rt)
theorem goL_short {rs : List Rt} {y m d : Int} (hr : ∀ r ∈ rs,Short r) : ∀ (ls : List Ln.T) (ps : List Pt.T),(∀ x ∈ ls,Ln.Short x) → (∀ r ∈ ps,Pt.Short r) → Iv.goE rs y m d ls ps = 0 → ∀ r ∈ Iv.goL rs y m d ls ps,Pt.Short r
 | [],_,_,hp,_ => hp
 | x :: l,ps,hl,hp,he => by
  have hx := hl x (by simp)
  rw [Iv.goE] at he
  by_cases h1 : Iv.lineE rs y m d x = 0
  ·
   rw [h1,if_neg (by simp)] at he
   by_cases h2 : Iv.enterE x.category (Vt.find rs x.category y m d).1 (x.count * x.price) ps = 0
   ·
    rw [h2,if_neg (by simp)] at he
    exact goL_short hr l _ (fun z hz => hl z (by simp [hz])) (enter_short hx.2.1 (find_fit hr x.category y m d) hp h2) he
   ·
    rw [if_pos h2] at he
    omega
  ·
   rw [if_pos h1] at he
   exact absurd he h1
theorem tot_0 {rs : List Rt} {y m d : Int} {ls : List Ln.T} (h : Iv.totE rs y m d ls = 0) : Iv.headE rs y m d ls = 0 ∧ Iv.goE rs y m d ls [] = 0 ∧ Iv.sumE (Iv.goL rs y m d ls []) = 0 ∧ Iv.totT rs y m d ls = Iv.sumT (Iv.goL rs y m d ls []) := by
 by_cases h1 : Iv.headE rs y m d ls = 0
 ·
  by_cases h2 : Iv.goE rs y m d ls [] = 0
  ·
   have h3 := Iv.tot_sum h1 h2
   rw [h] at h3
   refine ⟨h1,h2,h3.1.symm,?_⟩
   rw [h3.2,if_pos h3.1.symm]
  ·
   have h3 := Iv.tot_line h1 h2
   rw [h] at h3
   exact absurd h3.1.symm h2
 ·
  have h3 := Iv.tot_head h1
  rw [h] at h3
  exact absurd h3.1.symm h1
theorem totT_short {rs : List Rt} {y m d : Int} {ls : List Ln.T} (hr : ∀ r ∈ rs,Short r) (hl : ∀ x ∈ ls,Ln.Short x) : ∀ r ∈ (Iv.totT rs y m d ls).parts,Pt.Short r := by
 by_cases h : Iv.totE rs y m d ls = 0
 ·
  obtain ⟨_,h2,_,h4⟩ := tot_0 h
  rw [h4]
  intro r hr'
  obtain ⟨p,hp,rfl⟩ := List.mem_map.1 (show r ∈ (Iv.goL rs y m d ls []).map Iv.taxed from hr')
  have hs := goL_short hr ls [] hl (by simp) h2 p hp
  exact ⟨hs.1,hs.2.1,hs.2.2.1,tax_fit p.net p.bp⟩
 ·
  have : Iv.totT rs y m d ls = Iv.Tot.zero := if_neg h
  rw [this]
  intro r hr'
  cases hr'
theorem tot_len {rs : List Rt} {y m d : Int} {ls : List Ln.T} : (Iv.totT rs y m d ls).parts.length ≤ 12 := by
 by_cases h : Iv.totE rs y m d ls = 0
 ·
  obtain ⟨h1,_,_,h4⟩ := tot_0 h
  have hl := Iv.goL_len rs y m d ls []
  rw [h4]
  show ((Iv.goL rs y m d ls []).map Iv.taxed).length ≤ 12
  rw [List.length_map]
  unfold Iv.headE at h1
  split at h1
  · omega
  ·
   split at h1
   · omega
   ·
    split at h1
    · omega
    ·
     split at h1
     · omega
     ·
      simp only [List.length_nil] at hl
      omega
 ·
  have : Iv.totT rs y m d ls = Iv.Tot.zero := if_neg h
  rw [this]
  show (0 : Nat) ≤ 12
  omega
theorem sumT_fit {l : List Pt.T} (h : Iv.sumE l = 0) : Fit (Iv.nets l) ∧ Fit (Iv.taxes l) ∧ Fit (Iv.nets l + Iv.taxes l) := by
 have hu : ∀ (l : List Pt.T) (N T : Int),Fit N → Fit T → Iv.upE l N T = 0 → Fit (N + Iv.nets l) ∧ Fit (T + Iv.taxes l) := by
  intro l
  induction l with
  | nil =>
   intro N T hN hT _
   show Fit (N + 0) ∧ Fit (T + 0)
   rw [Int.add_zero,Int.add_zero]
   exact ⟨hN,hT⟩
  | cons p l ih =>
   intro N T hN hT he
   rw [Iv.upE] at he
   by_cases h1 : Sh.taxE p.net p.bp = 0
   ·
    rw [h1,if_neg (by simp)] at he
    by_cases h2 : Mn.err (N + p.net) = 0
    ·
     rw [h2,if_neg (by simp)] at he
     by_cases h3 : Mn.err (T + Sh.taxV p.net p.bp) = 0
     ·
      rw [h3,if_neg (by simp)] at he
      have := ih _ _ (Iv.err_0 h2) (Iv.err_0 h3) he
      rw [Iv.nets,Iv.taxes,← Int.add_assoc,← Int.add_assoc]
      exact this
     ·
      rw [if_pos h3] at he
      omega
    ·
     rw [if_pos h2] at he
     omega
   ·
    rw [if_pos h1] at he
    exact absurd he h1
 unfold Iv.sumE at h
 by_cases h1 : Iv.upE l 0 0 = 0
 ·
  rw [h1,if_neg (by simp)] at h
  have := hu l 0 0 ⟨by omega,by omega⟩ ⟨by omega,by omega⟩ h1
  rw [Int.zero_add,Int.zero_add] at this
  exact ⟨this.1,this.2,Iv.err_0 h⟩
 ·
  rw [if_pos h1] at h
  exact absurd h h1
theorem totT_fit (rs : List Rt) (y m d : Int) (ls : List Ln.T) : Fit (Iv.totT rs y m d ls).net ∧ Fit (Iv.totT rs y m d ls).tax ∧ Fit (Iv.totT rs y m d ls).gross := by
 have h0 : Fit 0 := ⟨by omega,by omega⟩
 by_cases h : Iv.totE rs y m d ls = 0
 ·
  obtain ⟨_,_,h3,h4⟩ := tot_0 h
  rw [h4]
  exact sumT_fit h3
 ·
  have : Iv.totT rs y m d ls = Iv.Tot.zero := if_neg h
  rw [this]
  exact ⟨h0,h0,h0⟩
end Go.Proofs.YtjpfpojbalepeabGreat
