import Derived.Deep.RegionHeld3
import Derived.Laws.CopyOwn
import Derived.Laws.MakeOwn
import Derived.Deep.DeepCutAuto
import Derived.Test.YtjpfpojbalepeaaGreatZG3
import Derived.Test.YtjpfpojbalepeaaGreatZG4
import Derived.Test.YtjpfpojbalepeaaGreatZG12
import Derived.Test.YtjpfpojbalepeaaGreatZG13
set_option maxRecDepth 100000
set_option linter.unusedVariables false
namespace Go.Proofs.YtjpfpojbalepeaaGreat
open Go.RowKit
open Mem
open Go.Sort (grow)
namespace Bl
theorem look_fit (l : List Sn.T) (i q : Int) : Fit (Sp.lookE l i q) := by
 unfold Sp.lookE
 unfold Fit
 repeat (first | omega | split)
theorem own_short {l : List Sn.T} (h : ∀ r ∈ l,Sn.Short r) (i : Int) : Sn.Short (Sp.own l i) := by
 unfold Sp.own
 cases e : l[Sp.ix i l]? with
 | none => exact ⟨fit_0,fit_0,fit_0,fit_0,fit_0⟩
 | some r => exact h r (List.mem_of_getElem? e)
theorem apply_short {s : St} {c : Cl} (hR : Right s) (hs : ∀ r ∈ s.ser,Sr.Short r) (hb : ∀ r ∈ s.book,Ba.Short r) (hq : ∀ r ∈ s.sess,Sn.Short r) : Rp.Short (apply s c).2 := by
 have key := apply_step s c
 generalize hp : apply s c = p at key
 cases key with
 | kind h => exact ⟨⟨by show (-9223372036854775808 : Int) ≤ 17; omega,by show (17 : Int) ≤ _; omega⟩,fit_0,fit_0⟩
 | full _ _ _ => exact ⟨⟨by show (-9223372036854775808 : Int) ≤ 14; omega,by show (14 : Int) ≤ _; omega⟩,fit_0,fit_0⟩
 | join _ _ _ _ => exact ⟨fit_0,⟨by have := hR.next; show (-9223372036854775808 : Int) ≤ s.next; omega,by have := hR.next; show s.next ≤ _; omega⟩,fit_0⟩
 | look _ _ _ => exact ⟨look_fit _ _ _,fit_0,fit_0⟩
 | again _ _ _ _ =>
  have h := own_short hq c.sess
  exact ⟨h.2.2.1,h.2.2.2.1,h.2.2.2.2⟩
 | bad hk h6 h ho he =>
  have e := apply_new hR hk h6 h ho
  rw [hp] at e
  have e2 : (kept s c ⟨doE s c.cmd,0,0⟩,(⟨doE s c.cmd,0,0⟩ : Rp.T)).2 = dnR s c.cmd := by rw [e]
  rw [e2]
  exact dnR_short hR hs hb hk h6
 | good hk h6 h ho he =>
  have e := apply_new hR hk h6 h ho
  rw [hp] at e
  have e2 : (kept (doS s c.cmd) c (doR s c.cmd),doR s c.cmd).2 = dnR s c.cmd := by rw [e]
  rw [e2]
  exact dnR_short hR hs hb hk h6
theorem Right.fw {s : St} (h : Right s) : Fw s := by
 have h1 : s.tab.length ≤ 24 := by
  have := h.tab
  unfold Vt.tableB at this
  rw [Bool.and_eq_true] at this
  exact of_decide_eq_true this.1
 have h2 : s.ser.length ≤ 8 := by
  have := h.ser
  unfold Se.rightB at this
  rw [Bool.and_eq_true] at this
  exact of_decide_eq_true this.1
 have h3 : s.sess.length ≤ 8 := by
  have := h.sess
  unfold Sp.rightB at this
  rw [Bool.and_eq_true] at this
  exact of_decide_eq_true this.1
 exact ⟨by omega,by omega,by have := h.few; omega,h.book_len,by omega,fun p hp => by have := (h.tot p hp).few; omega⟩
theorem resultsP {fn : Func} {p q : Tmp} (hf : fn.results = #[.cell p 42,.tmp q]) {tmps : Array Value} {w : World} {g : Nat} {h : Sv} {v : Value} (hp : tmps.getD p undef = .pointer (some ⟨g,0,none⟩)) (hq : tmps.getD q undef = v) (hA : At w g h) : (results fn tmps).run Tryz.prog w = .ok (.tuple #[h.val,v]) w := by
 have hp' : tmps[p]?.getD undef = .pointer (some ⟨g,0,none⟩) := by simpa using hp
 have hq' : tmps[q]?.getD undef = v := by simpa using hq
 have e1 := run_loadVar_row (P := Tryz.prog) w g 42 42 (rv h).toArray (0,0) _ hA Tryz.underlying42 rfl (by rw [info]; rfl)
 simp [results,hf,hp',hq',asAddr,e1]
 rfl
structure Pl (w u : World) (g : Nat) (t : St) (hc : Sv) (rs : List Rp.T) : Prop where
 bel : Below w.heap.size w u
 var : At u w.heap.size hc
 zr : At u (w.heap.size + 1) zsv
 lp : Lp (fun b => b < w.heap.size ∨ g < b) u hc t
 blk : Rp.Block u g rs
 lo : w.heap.size + 2 ≤ g
section
variable {w u v : World} {g : Nat} {t t' : St} {hc h' : Sv} {rs : List Rp.T}
theorem Pl.below (c : Pl w u g t hc rs) (k : Below u.heap.size u v) : Pl w v g t hc rs := ⟨bchain c.bel k,c.var.below k,c.zr.below k,c.lp.below k,c.blk.below k,c.lo⟩
theorem Pl.laid (c : Pl w u g t hc rs) (h' : Sv) : Rp.Block (Bl.lay u w.heap.size h') g rs := (setRow_other u _ _ _ (by have := c.lo; omega)).trans c.blk
theorem Pl.next (c : Pl w u g t hc rs) (hl : Lp (fun b => b < w.heap.size ∨ g < b) u h' t') (k : Nat) (hk : k < rs.length) (q : Rp.T) : Pl w ((((Bl.lay u w.heap.size h').setCell ⟨g,k * 3,none⟩ (.int .i64 q.why)).setCell ⟨g,k * 3 + 1,none⟩ (.int .i64 q.num)).setCell ⟨g,k * 3 + 2,none⟩ (.int .i64 q.gross)) g t' h' (rs.set k q) := by
 have hlo := c.lo
 have n1 : ¬ (w.heap.size < w.heap.size ∨ g < w.heap.size) := by omega
 have n2 : ¬ (g < w.heap.size ∨ g < g) := by omega
 refine ⟨Rp.below_store (Bl.below_lay c.bel (Nat.le_refl _) _) (by omega) k _ _ _,?_,?_,?_,Rp.Block.store (c.laid h') k hk q,hlo⟩
 · exact (((c.var.lay h').away (by omega) _ _).away (by omega) _ _).away (by omega) _ _
 · exact (((c.zr.other (by omega) _).away (by omega) _ _).away (by omega) _ _).away (by omega) _ _
 · exact (((hl.kp (KpP.row u n1 _)).kp (KpP.set _ n2 _ _)).kp (KpP.set _ n2 _ _)).kp (KpP.set _ n2 _ _)
end
theorem play_take {s : St} {cs : List Cl} {k : Nat} (h : k < cs.length) : play s (cs.take (k + 1)) = ((apply (play s (cs.take k)).1 cs[k]).1,(play s (cs.take k)).2 ++ [(apply (play s (cs.take k)).1 cs[k]).2]) := by
 rw [List.take_succ_eq_append_getElem h,play_app]
 rfl
def PlayB (w : World) (s : St) (cs : List Cl) (e : Ending) (w' : World) : Prop := ∃ (h : Sv) (g : Nat),e = .returned (.tuple #[h.val,.slice (some ⟨g,0,none⟩) cs.length cs.length]) ∧ LiesA w.heap.size w' h (play s cs).1 ∧ Rp.Block w' g (play s cs).2 ∧ w.heap.size ≤ g ∧ (∀ r ∈ (play s cs).2,Rp.Short r) ∧ Below w.heap.size w w'
theorem PlayB.full {w0 w w' : World} {s : St} {cs : List Cl} {e : Ending} (q : PlayB w s cs e w') (hw : Below w0.heap.size w0 w) (hn : cs.length ≤ 1000) : PlayE w0 w s cs e w' := by
 obtain ⟨h,g,rfl,l,k,hg,hs,b⟩ := q
 refine ⟨h,some ⟨g,0,none⟩,cs.length,cs.length,rfl,l,Rp.Block.ls (zs := []) (by rw [List.append_nil]; exact k) _ _ (play_len cs s).symm (Nat.le_refl _) (by omega) hs,?_,bchain hw b⟩
 intro _ b off e
 cases e
 exact hg
theorem set_zero (A : List Rp.T) (q z : Rp.T) (n : Nat) : (A ++ List.replicate (n + 1) z).set A.length q = A ++ [q] ++ List.replicate n z := by
 rw [List.set_append_right _ _ (Nat.le_refl _),Nat.sub_self,List.replicate_succ,List.set_cons_zero,List.append_assoc]
 rfl
end Bl
set_option maxHeartbeats 8000000 in
theorem bil_playB (s : Bl.St) (cs : List Bl.Cl) (h : Bl.Sv) (rs : List Ca.T) (ao : Option Addr) (n cap : Nat) (w : World) (hL : Bl.Lies w h s) (hC : Bl.Cs w ao n cap rs cs) (hR : Bl.Right s) (hn : n ≤ 1000) :
  Calls Tryz.prog 11 #[h.val,.slice ao n cap] w (Bl.PlayB w s cs) := by
 have HL := Lib.hid hL
 have HCs := Lib.hid hC
 have HR := Lib.hid hR
 have HN := Lib.hid hC.ls.len
 have HNc : Hid (n = cs.length) := Lib.hid (by have := hC.ls.len; have := hC.each.len; omega)
 have hcap := hC.ls.reach
 have hfit := hC.ls.fits
 obtain ⟨U,hU,hB,k0,k1,hs⟩ := Bl.al2 w (.cells #[.slice h.tab.ao h.tab.n h.tab.cap,.slice h.ser.ao h.ser.n h.ser.cap,.slice h.post.ao h.post.n h.post.cap,.slice h.book.ao h.book.n h.book.cap,.slice h.sess.ao h.sess.n h.sess.cap,.int .i64 h.next] 42) (.cells #[.slice none 0 0,.slice none 0 0,.slice none 0 0,.slice none 0 0,.slice none 0 0,.int .i64 0] 42)
 have hA : Bl.At U w.heap.size h := k0
 have hZ : Bl.At U (w.heap.size + 1) Bl.zsv := k1
 have HA := Lib.hid hA
 have HZ := Lib.hid hZ
 have HB := Lib.hid hB
 have HS : Hid (U.heap.size = w.heap.size + 2) := Lib.hid hs
 clear hL hC hR k0 k1 hB hs hZ
 unfold Bl.Sv.val Bl.sl
 go_enter Tryz.func11,Tryz.ntmps11
 go_wp2_with (first | ((with_reducible apply Bl.wpl_load hA); rfl; rfl; rfl))
 clear hU hA
 refine (bil_right_any s h U U (Below.refl _ _) (HL.out.below HB.out)).mono ?_
 rintro e w1 ⟨hcase,b1⟩
 rcases hcase with ⟨_,rfl⟩ | ⟨hno,rfl⟩
 rotate_left
 · exact absurd HR.out hno
 have HA1 := Lib.hid (HA.out.below b1)
 have HZ1 := Lib.hid (HZ.out.below b1)
 have HB1 := Lib.hid (bchain HB.out b1)
 have HS1 : Hid (w.heap.size + 2 ≤ w1.heap.size) := Lib.hid (by have := b1.size; have := HS.out; omega)
 clear b1 HA HZ
 have hmk := Rp.make n (by omega)
 have hbl := Rp.block_made w1 n
 have hb2 : Below w1.heap.size w1 (w1.alloc (.cells (Rp.zeros n) 49)) := (Below.refl _ _).alloc (Nat.le_refl _) _
 have HP0 : Hid (Bl.Pl w (w1.alloc (.cells (Rp.zeros n) 49)) w1.heap.size s h (List.replicate n Rp.zero)) := Lib.hid ⟨bchain HB1.out hb2,HA1.out.below hb2,HZ1.out.below hb2,(HL.out.lp.below (bchain HB1.out hb2)).mono fun b hb => .inl hb,hbl,HS1.out⟩
 obtain ⟨W,hW⟩ : ∃ W,w1.alloc (.cells (Rp.zeros n) 49) = W := ⟨_,rfl⟩
 rw [hW] at HP0
 clear hbl hb2 HA1 HZ1 HB1 HS1
 go_wp2_with fail
 clear hmk hW
 obtain ⟨g,hg⟩ : ∃ g,w1.heap.size = g := ⟨_,rfl⟩
 rw [hg] at HP0
 rw [hg]
 clear hg
 go_loopw [8,9,17] (fun _ _ j wr => ∃ (k : Nat) (hc : Bl.Sv),k ≤ n ∧ j = .int .i64 k ∧ Hid (Bl.Pl w wr g (Bl.play s (cs.take k)).1 hc ((Bl.play s (cs.take k)).2 ++ List.replicate (n - k) Rp.zero)) ∧ Hid (∀ r ∈ (Bl.play s (cs.take k)).2,Rp.Short r)) (fun _ _ j _ => n - (intOf j).toNat)
 case atStart => exact ⟨0,h,by omega,rfl,HP0,Lib.hid (fun _ h => by cases h)⟩
 case round =>
  clear HP0
  rename World => wz
  obtain ⟨k,hc,hk,rfl,HP,HSh⟩ := hrel
  have HRt := Lib.hid (Bl.Right.played (l := cs.take k) HR.out)
  have HAl : Hid ((Bl.play s (cs.take k)).2.length = k) := Lib.hid (by rw [Bl.play_len,List.length_take]; have := HNc.out; omega)
  by_cases hlt : k < n
  ·
   obtain ⟨b,off,rfl⟩ := HCs.out.ls.at (by omega)
   have hkl : k < rs.length := HN.out ▸ hlt
   have hkc : k < cs.length := HNc.out ▸ hlt
   have hrow := (HCs.out.ls.row k hkl).below HP.out.bel
   have HRs := Lib.hid (HCs.out.ls.short _ (List.getElem_mem hkl))
   have HI := Lib.hid (HCs.out.each.each k hkl)
   have HTk := Lib.hid (Bl.play_take (s := s) hkc)
   obtain ⟨r,hr⟩ : ∃ r,rs[k] = r := ⟨_,rfl⟩
   obtain ⟨c,hc'⟩ : ∃ c,cs[k] = c := ⟨_,rfl⟩
   rw [hr] at hrow HRs HI
   rw [hc'] at HI HTk
   obtain ⟨t,ht⟩ : ∃ t,(Bl.play s (cs.take k)).1 = t := ⟨_,rfl⟩
   obtain ⟨A,hAA⟩ : ∃ A,(Bl.play s (cs.take k)).2 = A := ⟨_,rfl⟩
   rw [ht] at HP HTk HRt
   rw [hAA] at HP HTk HSh HAl
   clear hr hc' ht hAA
   have hb3 := Ca.below_own wz r
   have hP3 := HP.out.below hb3
   have HP3 := Lib.hid hP3
   have hA3 := hP3.var
   have hC3 := Ca.c_box wz r
   have HI3 := Lib.hid (HI.out.below (bchain HP.out.bel hb3))
   clear hb3 hP3 HP
   go_wp2_with (first | ((with_reducible apply Ca.wpl_load hrow); rfl; rfl; rfl) | ((with_reducible apply Ca.wpl_store (r := r) (g := wz.heap.size)); rfl; rfl; rfl; rfl; rfl; rfl) | ((with_reducible apply Bl.wpl_load hA3); rfl; rfl; rfl) | ((with_reducible apply Ca.wpl_loadC hC3); rfl; rfl; rfl))
   refine (bil_follow (fun b => b < w.heap.size ∨ g < b) t hc r c (Ca.box wz r) HP3.out.lp HI3.out HRs.out HRt.out).mono ?_
   rintro e w4 ⟨h',rfl,hL4,b4⟩
   have hP4 := HP3.out.below b4
   have hV4 := hP4.var
   have HSq := Lib.hid (Bl.apply_short (c := c) HRt.out HP3.out.lp.ser.short HP3.out.lp.book.short HP3.out.lp.sess.short)
   have HLn : Hid (k < (A ++ List.replicate (n - k) Rp.zero).length) := Lib.hid (by rw [List.length_append,List.length_replicate,HAl.out]; omega)
   have HL4 : Hid (Bl.Lp (fun b => b < w.heap.size ∨ g < b) w4 h' (Bl.apply t c).1) := Lib.hid (hL4.mono fun b z => z.elim id fun y => .inr (by have := HP3.out.blk.lt; omega))
   obtain ⟨q,hq⟩ : ∃ q,(Bl.apply t c).2 = q := ⟨_,rfl⟩
   rw [hq] at HTk HSq
   rw [hq]
   have HNx := Lib.hid (hP4.next HL4.out k HLn.out q)
   have hBl := hP4.laid h'
   have hRk := hBl.row k HLn.out
   have f0 := hBl.frozen (k * 3)
   have f1 := hBl.frozen (k * 3 + 1)
   have f2 := hBl.frozen (k * 3 + 2)
   have HEq : Hid ((A ++ List.replicate (n - k) Rp.zero).set k q = A ++ [q] ++ List.replicate (n - (k + 1)) Rp.zero) := Lib.hid (by
    have h1 := Bl.set_zero A q Rp.zero (n - (k + 1))
    rw [HAl.out] at h1
    rw [show n - k = n - (k + 1) + 1 by omega]
    exact h1)
   obtain ⟨r0,r1,r2⟩ := hRk
   clear hq hP4 b4 hL4 hA3 hC3 hrow hBl
   unfold Rp.val
   go_wp2_with (first | ((with_reducible apply Bl.wpl_put (h := h') hV4); rfl; rfl; rfl; rfl))
   go_roundw
   case rel =>
    refine ⟨k + 1,h',by omega,by go_num,Lib.hid ?_,Lib.hid ?_⟩
    ·
     rw [HTk.out,← HEq.out]
     exact HNx.out
    ·
     rw [HTk.out]
     intro x hx
     rcases List.mem_append.1 hx with h | h
     · exact HSh.out x h
     ·
      rw [List.mem_singleton.1 h]
      exact HSq.out
   case measure => simp [intOf]; omega
  ·
   obtain rfl : k = n := by omega
   have e0 : cs.take k = cs := List.take_of_length_le (by have := HNc.out; omega)
   have e1 : k - k = 0 := Nat.sub_self k
   rw [e0] at HP HSh HRt HAl
   rw [e1,List.replicate_zero,List.append_nil] at HP
   clear e0 e1
   have hA3 := HP.out.var
   go_wp2_with (first | ((with_reducible apply Bl.wpl_load hA3); rfl; rfl; rfl))
   refine (bil_clone (Bl.play s cs).1 hc wz HP.out.lp.lies HRt.out.fw).mono ?_
   rintro e w5 ⟨h5,rfl,l5,b5⟩
   have hZ5 := HP.out.zr.below b5
   have HZ5 := Lib.hid hZ5
   have HB5 := Lib.hid (bchain HP.out.bel b5)
   have HK5 := Lib.hid (HP.out.blk.below b5)
   have HL5 := Lib.hid l5
   have HLo : Hid (w.heap.size + 2 ≤ g ∧ g < wz.heap.size) := Lib.hid ⟨HP.out.lo,HP.out.blk.lt⟩
   clear l5 b5 hA3
   go_wp2_with (first | ((with_reducible apply Bl.wpl_put (h := h5) hZ5); rfl; rfl; rfl; rfl))
   refine bodyPost_ret (Bl.resultsP Tryz.results11 rfl rfl (HZ5.out.lay _)) rfl ⟨h5,g,?_,?_,?_,?_,HSh.out,Bl.below_lay HB5.out (by omega) _⟩
   ·
    rw [← HNc.out]
    rfl
   ·
    have := HLo.out
    exact ((HL5.out.mono (by omega : w.heap.size + 2 ≤ wz.heap.size + 2)).kp (Bl.kp_lay _ (by omega) _)).mono (by omega)
   · exact (setRow_other _ _ _ _ (by have := HLo.out; omega)).trans HK5.out
   ·
    have := HLo.out
    omega
end Go.Proofs.YtjpfpojbalepeaaGreat
namespace Go.Proofs.YtjpfpojbalepeaaGreat
open Go.RowKit
open Mem
open Go.Sort (grow)
def Bl.chkA (ops : Array Oper) : Bool := Region.noSelect ops && Bl.tk ops [false,false,false,false,false,false] 0 && Bl.tk ops [true,false,false,false,false,false] 1 && Bl.tk ops [true,true,false,false,false,false] 2 && Bl.tk ops [true,true,true,false,false,false] 3 && (Region.ready .any ops #[true,true,true,true,false,false] == [4]) && (Region.ready .any ops #[true,true,true,true,true,false] == [5]) && (Region.ready .any ops #[true,true,true,true,true,true] == [])
theorem Bl.wp_first {id : Nat} {o0 o1 o2 o3 o4 o5 : Oper} {a : Act} {w : World} {Q : Exit → Act → World → Prop} (g gr gS gR : Nat) (h h0 : Bl.Sv) (r r0 : Rp.T) (v1 v2 : Value) {x0 x3 x4 x5 y4 y5 : Tmp} (hA : Bl.At w g h) (hB : Rp.Bk w gr r) (hS : Bl.At w gS h0) (hR : Rp.Bk w gR r0) (hn : gS ≠ gR ∧ g ≠ gS ∧ g ≠ gR ∧ gr ≠ gS ∧ gr ≠ gR)
  (ho0 : o0.op = .load 42 (.tmp x0)) (hg0 : o0.guard = none)
  (y1 : YieldsIf Tryz.prog #[o0,o1,o2,o3,o4,o5] (fun u => Bl.At u g h ∧ Rp.Bk u gr r) o1 v1 (a.put o0.dst h.val)) (y2 : YieldsIf Tryz.prog #[o0,o1,o2,o3,o4,o5] (fun u => Bl.At u g h ∧ Rp.Bk u gr r) o2 v2 ((a.put o0.dst h.val).put o1.dst v1))
  (ho3 : o3.op = .load 49 (.tmp x3)) (hg3 : o3.guard = none)
  (ho4 : o4.op = .store 42 (.tmp x4) (.tmp y4)) (hg4 : o4.guard = none) (hd4 : o4.dst = none) (ho5 : o5.op = .store 49 (.tmp x5) (.tmp y5)) (hg5 : o5.guard = none) (hd5 : o5.dst = none)
  (hc : Bl.chkA #[o0,o1,o2,o3,o4,o5] = true) (hQ0 : ∀ c a w,Q (.panic c) (Act.put a o0.dst h.val) w → Q (.panic c) a w) (hQ1 : ∀ c a w,Q (.panic c) (Act.put a o1.dst v1) w → Q (.panic c) a w) (hQ2 : ∀ c a w,Q (.panic c) (Act.put a o2.dst v2) w → Q (.panic c) a w) (hQ3 : ∀ c a w,Q (.panic c) (Act.put a o3.dst (Rp.val r)) w → Q (.panic c) a w)
  (e0 : a.tmps.toList[x0]? = some (.pointer (some ⟨g,0,none⟩))) (e3 : (((a.put o0.dst h.val).put o1.dst v1).put o2.dst v2).tmps.toList[x3]? = some (.pointer (some ⟨gr,0,none⟩)))
  (e4 : ((((a.put o0.dst h.val).put o1.dst v1).put o2.dst v2).put o3.dst (Rp.val r)).tmps.toList[x4]? = some (.pointer (some ⟨gS,0,none⟩)))
  (f4 : ((((a.put o0.dst h.val).put o1.dst v1).put o2.dst v2).put o3.dst (Rp.val r)).tmps.toList[y4]? = some h.val)
  (e5 : ((((a.put o0.dst h.val).put o1.dst v1).put o2.dst v2).put o3.dst (Rp.val r)).tmps.toList[x5]? = some (.pointer (some ⟨gR,0,none⟩)))
  (f5 : ((((a.put o0.dst h.val).put o1.dst v1).put o2.dst v2).put o3.dst (Rp.val r)).tmps.toList[y5]? = some (Rp.val r))
  (k : Q .normal ((((a.put o0.dst h.val).put o1.dst v1).put o2.dst v2).put o3.dst (Rp.val r)) (Bl.out2 w.drew gS gR h r)) :
  (Code.region id #[o0,o1,o2,o3,o4,o5] true).wp Tryz.prog Q a w := by
 unfold Bl.chkA at hc
 simp only [Bool.and_eq_true,beq_iff_eq] at hc
 obtain ⟨⟨⟨⟨⟨⟨⟨c0,c1⟩,c2⟩,c3⟩,c4⟩,c5⟩,c6⟩,c7⟩ := hc
 refine wp_region_held_drew (S := fun u => Bl.At u g h ∧ Rp.Bk u gr r) (by kernel_rfl) ⟨hA,hB⟩ (fun hH => ?_)
 show wpAnyH Tryz.prog .any #[o0,o1,o2,o3,o4,o5] Q _ 6 [false,false,false,false,false,false].toArray a w.drew
 refine Bl.take_if (i := 0) (oi := o0) rfl c0 c1 hQ0 (Bl.y_load hg0 ho0 e0 fun u hu => hu.1) hH ?_
 refine Bl.take_if (i := 1) (oi := o1) rfl c0 c2 hQ1 y1 hH ?_
 refine Bl.take_if (i := 2) (oi := o2) rfl c0 c3 hQ2 y2 hH ?_
 refine Bl.take_if (i := 3) (oi := o3) rfl c0 c4 hQ3 (Rp.y_load hg3 ho3 e3 fun u hu => hu.2) hH ?_
 refine Bl.one_if (i := 4) (oi := o4) rfl c5 (fun K hK => ?_)
 refine Bl.step_put hg4 ho4 hd4 e4 f4 hS (hK.out _ _ ⟨hH.1.other hn.2.1 _,hH.2.other hn.2.2.2.1 _⟩ fun hH2 => ?_)
 clear hK K
 refine Bl.one_if (i := 5) (oi := o5) rfl c6 (fun K hK => ?_)
 refine Rp.step_put hg5 ho5 hd5 e5 f5 (Rp.Bk.other (w := w.drew) hR (Ne.symm hn.1) _) (hK.out _ _ ⟨hH2.1.other hn.2.2.1 _,hH2.2.other hn.2.2.2.2 _⟩ fun hH3 => ?_)
 clear hK K
 exact wpAnyH_done c7 k _
section
variable {ops : Array Oper} {o : Oper} {a : Act} {S : World → Prop} {t : Tmp}
theorem y_move {v : Value} (hgd : o.guard = none) (ho : o.op = .move (.tmp t)) (hp : a.tmps.toList[t]? = some v) : YieldsIf Tryz.prog ops S o v a := by
 refine .inl ⟨by simp [Region.wanted,hgd],fun u _ => ?_⟩
 simp only [execOp,ho,Ca.evT hp]
 simp [go_sem]
theorem Rp.y_at0 {g : Nat} (hgd : o.guard = none) (ho : o.op = .indexAddr 43 (.tmp t) (.const (.int .i64 0))) (hp : a.tmps.toList[t]? = some (.slice (some ⟨g,0,none⟩) 1 1)) : YieldsIf Tryz.prog ops S o (.pointer (some ⟨g,0,none⟩)) a := by
 refine .inl ⟨by simp [Region.wanted,hgd],fun u _ => ?_⟩
 have e1 : a.eval (.const (.int .i64 0)) = .int .i64 0 := rfl
 simp only [execOp,ho,Ca.evT hp,e1]
 first | kernel_rfl | simp [go_sem]
end
theorem Bl.cs_one {w : World} {r : Ca.T} {c : Bl.Cl} (hI : Bl.IsC w r c) (hS : Ca.Short r) : Bl.Cs (w.alloc (Ca.block r)) (some ⟨w.heap.size,0,none⟩) 1 1 [r] [c] := by
 refine ⟨⟨rfl,Nat.le_refl _,by omega,(fun h => by cases h),Ca.seg_block (heap_alloc_new w _),(fun x hx => by rw [List.mem_singleton.1 hx]; exact hS)⟩,⟨rfl,fun i hi => ?_⟩⟩
 have h0 : i = 0 := by rw [List.length_singleton] at hi; omega
 subst h0
 exact hI.below ((Below.refl _ _).alloc (Nat.le_refl _) _)
set_option maxHeartbeats 8000000 in
theorem bil_apply0 (s : Bl.St) (c : Bl.Cl) (h : Bl.Sv) (r : Ca.T) (w : World) (hL : Bl.Lies w h s) (hI : Bl.IsC w r c) (hS : Ca.Short r) (hR : Bl.Right s) :
  Calls Tryz.prog 17 #[h.val,Ca.val r] w (Bl.AppE w w s c) := by
 have HL := Lib.hid hL
 have HI := Lib.hid hI
 have HSh := Lib.hid hS
 have HR := Lib.hid hR
 obtain ⟨U,hU,hA,hF,hBk⟩ := Bl.fr4 w h (Ca.block r)
 have HA := Lib.hid hA
 have HF := Lib.hid hF
 have HUs : Hid (w.heap.size + 1 + 1 + 1 < U.heap.size) := Lib.hid hF.rp.lt
 have hC := Ca.at_block hBk
 have hb1 : Below U.heap.size U (U.alloc (Ca.block r)) := (Below.refl _ _).alloc (Nat.le_refl _) _
 have HB1 := Lib.hid (bchain hF.bel hb1)
 have HCs := Lib.hid (Bl.cs_one (HI.out.below hF.bel) hS)
 have HF1 := Lib.hid (hF.below hb1)
 obtain ⟨V,hV⟩ : ∃ V,U.alloc (Ca.block r) = V := ⟨_,rfl⟩
 have HVs : Hid (U.heap.size + 1 = V.heap.size) := Lib.hid (by rw [← hV]; simp)
 rw [hV] at HB1 HCs HF1
 clear hL hI hS hR hF hBk hb1
 unfold Bl.Sv.val Bl.sl Ca.val
 unfold Ca.block at hU
 go_enter Tryz.func17,Tryz.ntmps17
 go_wp2_with (first | ((with_reducible apply Bl.wpl_load hA); rfl; rfl; rfl) | ((with_reducible apply Ca.wpl_load hC); rfl; rfl; rfl) | ((with_reducible apply Ca.wpl_one (r := r)); rfl; rfl; rfl; rw [hV]))
 clear hU hV hA hC
 refine (bil_playB s [c] h [r] (some ⟨U.heap.size,0,none⟩) 1 1 V (HL.out.below HB1.out) HCs.out HR.out (by omega)).mono ?_
 rintro e w2 ⟨h2,g2,rfl,l2,k2,hg2,_,b2⟩
 rw [Bl.play_one] at l2 k2
 have HL2 := Lib.hid l2
 have hR2 : Rp.Bk w2 g2 (Bl.apply s c).2 := k2
 obtain ⟨q,hq⟩ : ∃ q,(Bl.apply s c).2 = q := ⟨_,rfl⟩
 have HQ := Lib.hid hq
 rw [hq] at hR2
 have hb3 := Bl.below_own w2 h2
 have HR3 := Lib.hid (hR2.below hb3)
 have HA3 := Lib.hid (Bl.at_box w2 h2)
 have HF3 := Lib.hid ((HF1.out.below b2).below hb3)
 have HG := Lib.hid hg2
 have HV2 := Lib.hid b2.size
 have HL3 := Lib.hid (l2.below hb3)
 clear l2 k2 b2 hq hR2 hb3 hg2
 go_wp2_with (first | ((with_reducible apply Bl.wpl_store (h := h2) (g := w2.heap.size)); rfl; rfl; rfl; rfl; rfl; rfl))
 refine Bl.wp_first w2.heap.size g2 (w.heap.size + 1 + 1) (w.heap.size + 1 + 1 + 1) h2 Bl.zsv q ⟨0,0,0⟩ (.slice (some ⟨g2,0,none⟩) 1 1) (.pointer (some ⟨g2,0,none⟩)) HA3.out HR3.out HF3.out.st HF3.out.rp (by have := HUs.out; have := HVs.out; have := HG.out; have := HV2.out; omega) rfl rfl ?_ ?_ rfl rfl rfl rfl rfl rfl rfl rfl ?_ ?_ ?_ ?_ ?_ ?_ ?_ ?_ ?_ ?_ ?_ ?_
 · exact y_move (t := 7) rfl rfl rfl
 · exact Rp.y_at0 (t := 16) rfl rfl rfl
 · kernel_rfl
 · exact fun _ _ _ h => h
 · exact fun _ _ _ h => h
 · exact fun _ _ _ h => h
 · exact fun _ _ _ h => h
 · rfl
 · rfl
 · rfl
 · rfl
 · rfl
 · rfl
 go_wp2_with fail
 refine (HF3.out.below ((Below.refl _ _).drew)).ret Tryz.results17 h2 q rfl rfl rfl fun b => ⟨h2,by rw [HQ.out],?_,b⟩
 have h1 := HUs.out
 have h2' := HVs.out
 exact ((HL3.out.below ((Below.refl _ _).drew)).kp (Bl.kp_out2 _ (by omega) (by omega) _ _)).mono (by omega)
end Go.Proofs.YtjpfpojbalepeaaGreat
namespace Go.Proofs.YtjpfpojbalepeaaGreat
open Go.RowKit
open Mem
theorem bil_right (s : Bl.St) (h : Bl.Sv) (w0 w : World) (hw : Below w0.heap.size w0 w) (hL : Bl.Lies w h s) (hR : Bl.Right s) :
  Calls Tryz.prog 14 #[h.val] w fun e w' => e = .returned (.bool true) ∧ Below w0.heap.size w0 w' :=
 (bil_right_any s h w0 w hw hL).mono fun e w' q => by
  rcases q with ⟨⟨_,h1⟩ | ⟨hn,_⟩,hb⟩
  · exact ⟨h1,hb⟩
  · exact absurd hR hn
theorem bil_apply (s : Bl.St) (c : Bl.Cl) (h : Bl.Sv) (r : Ca.T) (w0 w : World) (hw : Below w0.heap.size w0 w) (hL : Bl.Lies w h s) (hI : Bl.IsC w r c) (hS : Ca.Short r) (hR : Bl.Right s) (hl : c.cmd.lines.length ≤ 15) :
  Calls Tryz.prog 17 #[h.val,Ca.val r] w (Bl.AppE w0 w s c) :=
 (bil_apply0 s c h r w hL hI hS hR).mono fun e w' q => by
  obtain ⟨h',e',l,b⟩ := q
  exact ⟨h',e',l,bchain hw b⟩
theorem bil_play (s : Bl.St) (cs : List Bl.Cl) (h : Bl.Sv) (rs : List Ca.T) (ao : Option Addr) (n cap : Nat) (w0 w : World) (hw : Below w0.heap.size w0 w) (hL : Bl.Lies w h s) (hC : Bl.Cs w ao n cap rs cs) (hR : Bl.Right s) (hl : ∀ c ∈ cs,c.cmd.lines.length ≤ 15) (hn : n ≤ 60) :
  Calls Tryz.prog 11 #[h.val,.slice ao n cap] w (Bl.PlayE w0 w s cs) :=
 (bil_playB s cs h rs ao n cap w hL hC hR (by omega)).mono fun e w' q => q.full hw (by have h1 := hC.ls.len; have h2 := hC.each.len; omega)
end Go.Proofs.YtjpfpojbalepeaaGreat
namespace Go.Proofs.YtjpfpojbalepeaaGreat.Bl
open Vt (Rt)
def aA : ByteArray := ⟨#[97]⟩
def bA : ByteArray := ⟨#[98]⟩
def stdA : ByteArray := ⟨#[115,116,100]⟩
def row0 : Rt := ⟨.empty,0,0,0,0⟩
def cm0 : Cm := ⟨0,.empty,0,row0,0,0,0,[],.empty,0,0⟩
def cJoin : Cl := ⟨0,0,{ cm0 with kind := 6 }⟩
def stdR : Rt := ⟨stdA,2000,1,1,1900⟩
def cLevy : Cl := ⟨1,1,{ cm0 with kind := 3,row := stdR }⟩
def cOpen (i : Int) (c : ByteArray) (n : Int) : Cl := ⟨1,i,{ cm0 with kind := 1,ser := c,lim := n }⟩
def lineA : Ln.T := ⟨.empty,stdA,1,100⟩
def cOne (i : Int) : Cl := ⟨1,i,{ cm0 with kind := 4,ser := aA,y := 2026,m := 11,d := 15,lines := [lineA] }⟩
def cCred (i : Int) : Cl := ⟨1,i,{ cm0 with kind := 5,ser := bA,y := 2026,m := 11,d := 15,ofS := aA,ofN := 1 }⟩
def cAsk (i : Int) : Cl := ⟨1,i,{ cm0 with kind := 8,ser := bA }⟩
def runs : List Cl := [cJoin,cLevy,cOpen 2 aA 2,cOne 3,cOne 3,cOne 4,cOne 5,cOpen 6 bA 9,cCred 7,cCred 8,cAsk 9]
def tri (r : Rp.T) : Int × Int × Int := (r.why,r.num,r.gross)
theorem runs_told : ((play new runs).2.map tri = [(0,1,0),(0,0,0),(0,0,0),(0,1,119),(0,1,119),(0,2,119),(14,0,0),(0,0,0),(0,1,-119),(12,0,0),(0,1,119)]) ∧ (play new runs).1.post.length = 3 := by decide +kernel
end Go.Proofs.YtjpfpojbalepeaaGreat.Bl
namespace Go.Proofs.YtjpfpojbalepeaaGreat
open Go.RowKit
open Mem
theorem law_day (w0 w : World) (hw : Below w0.heap.size w0 w) :
  Calls Tryz.prog 10 #[] w fun e w' => e = .returned (.agg #[.int .i64 2026,.int .i64 11,.int .i64 15]) ∧ Below w0.heap.size w0 w' := by
 have HW := Lib.hid hw
 clear hw
 go_enter Tryz.func10,Tryz.ntmps10
 go_wp2
 exact bodyPost_ret (v := .agg #[.int .i64 2026,.int .i64 11,.int .i64 15]) (by simp [results,Tryz.results10,go_sem]) rfl ⟨rfl,below_box HW.out _⟩
def Bl.rOne (q : Int) (g : Nat) : Ca.T := ⟨1,q,4,Bl.aA,0,.empty,0,0,0,0,2026,11,15,⟨some ⟨g,0,none⟩,1,1⟩,.empty,0,0⟩
def Bl.zeroC : Array Value := (Ca.rv Ca.zero).toArray
def OneE (w0 w : World) (q : Int) (e : Ending) (w' : World) : Prop := ∃ g,e = .returned (Ca.val (Bl.rOne q g)) ∧ Bl.IsC w' (Bl.rOne q g) (Bl.cOne q) ∧ w.heap.size ≤ g ∧ Below w0.heap.size w0 w'
theorem Ln.one_ls {w : World} {g : Nat} (h : w.heap[g]? = some (.cells #[.string .empty,.string Bl.stdA,.int .i64 1,.int .i64 100] 71 (0,0))) : Ln.Ls w (some ⟨g,0,none⟩) 1 1 [Bl.lineA] := by
 refine ⟨rfl,Nat.le_refl _,by omega,(fun h => by cases h),.inr ⟨g,0,rfl,fun k hk => ?_⟩,?_⟩
 ·
  have hk0 : k = 0 := by simp at hk; exact hk
  subst hk0
  exact ⟨by rw [cell_of_row w g _ _ _ _ h]; rfl,by rw [cell_of_row w g _ _ _ _ h]; rfl,by rw [cell_of_row w g _ _ _ _ h]; rfl,by rw [cell_of_row w g _ _ _ _ h]; rfl⟩
 ·
  intro r hr
  obtain rfl := List.mem_singleton.1 hr
  refine ⟨?_,?_,?_,?_⟩
  · show (0 : Nat) ≤ _; omega
  · show (3 : Nat) ≤ _; omega
  · show Fit 1; unfold Fit; omega
  · show Fit 100; unfold Fit; omega
set_option maxHeartbeats 4000000 in
theorem law_one (q : Int) (w0 w : World) (hw : Below w0.heap.size w0 w) : Calls Tryz.prog 9 #[.int .i64 q] w (OneE w0 w q) := by
 have HW := Lib.hid hw
 clear hw
 have hU : w.alloc (.cells #[.int .i64 0,.int .i64 0,.int .i64 0,.string .empty,.int .i64 0,.string .empty,.int .i64 0,.int .i64 0,.int .i64 0,.int .i64 0,.int .i64 0,.int .i64 0,.int .i64 0,.slice none 0 0,.string .empty,.int .i64 0,.int .i64 0] 32) = Ca.box w Ca.zero := rfl
 go_enter Tryz.func9,Tryz.ntmps9
 go_wp2_with fail
 refine (law_day (Ca.box w Ca.zero) _ (Below.refl _ _)).mono ?_
 rintro e w1 ⟨rfl,b1⟩
 have HB1 := Lib.hid b1
 have HG := Lib.hid ((b1.block w.heap.size (by rw [Ca.box_size]; omega)).trans (heap_alloc_new w _))
 clear b1 hU
 have HSz : Hid (w.heap.size < w1.heap.size) := Lib.hid (by have := HB1.out.size; rw [Ca.box_size] at this; omega)
 go_wp2_with (first | ((with_reducible apply Ca.wpl_put (g := w.heap.size) (r := Bl.rOne q w1.heap.size) (old := Bl.zeroC)); exact heap_old HG.out; rfl; rfl; rfl; rfl; rfl))
 refine bodyPost_ret (Ca.results_put Tryz.results9 rfl (Ca.heap_put _ (heap_old HG.out))) rfl ⟨w1.heap.size,rfl,⟨rfl,rfl,rfl,rfl,rfl,rfl,rfl,rfl,rfl,Ln.one_ls ?_,rfl,rfl,rfl⟩,Nat.le_of_lt HSz.out,?_⟩
 ·
  rw [setRow_other _ _ _ _ (by have := HSz.out; omega)]
  exact heap_alloc_new w1 _
 · exact below_setRow (below_box (bchain HW.out (bchain (Ca.below_own w Ca.zero) HB1.out)) _) HW.out.size _
theorem Bl.rOne_short {q : Int} (hq : Fit q) (g : Nat) : Ca.Short (Bl.rOne q g) := by
 refine ⟨?_,hq,?_,?_,?_,?_,?_,?_,?_,?_,?_,?_,?_,?_,?_,?_⟩
 all_goals first | (show (0 : Nat) ≤ _; omega) | (show (1 : Nat) ≤ _; omega) | (refine ⟨?_,?_⟩ <;> (simp only [Bl.rOne]; omega))
end Go.Proofs.YtjpfpojbalepeaaGreat
namespace Go.Proofs.YtjpfpojbalepeaaGreat.Ca
open Go.RowKit
open Mem
def Block (w : World) (g : Nat) (ts : List T) : Prop := w.heap[g]? = some (.cells (ts.flatMap rv).toArray 32 (0,0))
theorem Block.row {w : World} {g : Nat} {ts : List T} (h : Block w g ts) (k : Nat) (hk : k < ts.length) : At w g (k * 17) ts[k] := by
 have hcell : ∀ p,p < 17 → w.cell? ⟨g,k * 17 + p,none⟩ = (rv ts[k])[p]? := by
  intro p hp
  rw [cell_of_row w g _ _ _ _ h,← flat_at ts k p hk hp]
  simp
 exact ⟨hcell 0 (by omega),hcell 1 (by omega),hcell 2 (by omega),hcell 3 (by omega),hcell 4 (by omega),hcell 5 (by omega),hcell 6 (by omega),hcell 7 (by omega),hcell 8 (by omega),hcell 9 (by omega),hcell 10 (by omega),hcell 11 (by omega),hcell 12 (by omega),hcell 13 (by omega),hcell 14 (by omega),hcell 15 (by omega),hcell 16 (by omega)⟩
theorem Block.ls {w : World} {g : Nat} {ts zs : List T} (h : Block w g (ts ++ zs)) (n cap : Nat) (hn : n = ts.length) (hc : n ≤ cap) (hm : cap ≤ 9223372036854775807) (hs : ∀ r ∈ ts,Short r) : Ls w (some ⟨g,0,none⟩) n cap ts := by
 refine ⟨hn,hc,hm,(fun k => by cases k),.inr ⟨g,0,rfl,fun k hk => ?_⟩,hs⟩
 have hr := h.row k (by rw [List.length_append]; omega)
 rw [List.getElem_append_left hk] at hr
 rw [Nat.zero_add]
 exact hr
end Go.Proofs.YtjpfpojbalepeaaGreat.Ca
namespace Go.Proofs.YtjpfpojbalepeaaGreat
open Go.RowKit
open Mem
def Ca.boxL (w : World) (rs : List Ca.T) : World := w.alloc (.cells (rs.flatMap Ca.rv).toArray 32)
theorem Ca.run_eleven (r0 r1 r2 r3 r4 r5 r6 r7 r8 r9 r10 : Ca.T) (u : World) : (Instr.buildSlice 35 11 #[(0,Ca.val r0),(1,Ca.val r1),(2,Ca.val r2),(3,Ca.val r3),(4,Ca.val r4),(5,Ca.val r5),(6,Ca.val r6),(7,Ca.val r7),(8,Ca.val r8),(9,Ca.val r9),(10,Ca.val r10)]).run Tryz.prog u = .ok (.slice (some ⟨u.heap.size,0,none⟩) 11 11) (u.alloc (.cells (([r0,r1,r2,r3,r4,r5,r6,r7,r8,r9,r10] : List Ca.T).flatMap Ca.rv).toArray 32)) := by
 kernel_rfl
theorem Ca.wpl_eleven {ops : Array Oper} {rest : List Oper} {op : Oper} {a : Act} {w : World} {Q : Exit → Act → World → Prop} {t0 t1 t2 t3 t4 t5 t6 t7 t8 t9 t10 : Tmp} {r0 r1 r2 r3 r4 r5 r6 r7 r8 r9 r10 : Ca.T} (ho : op.op = .buildSlice 35 11 #[(0,.tmp t0),(1,.tmp t1),(2,.tmp t2),(3,.tmp t3),(4,.tmp t4),(5,.tmp t5),(6,.tmp t6),(7,.tmp t7),(8,.tmp t8),(9,.tmp t9),(10,.tmp t10)]) (hgd : op.guard = none)
  (h0 : a.tmps.toList[t0]? = some (Ca.val r0)) (h1 : a.tmps.toList[t1]? = some (Ca.val r1)) (h2 : a.tmps.toList[t2]? = some (Ca.val r2)) (h3 : a.tmps.toList[t3]? = some (Ca.val r3)) (h4 : a.tmps.toList[t4]? = some (Ca.val r4)) (h5 : a.tmps.toList[t5]? = some (Ca.val r5)) (h6 : a.tmps.toList[t6]? = some (Ca.val r6)) (h7 : a.tmps.toList[t7]? = some (Ca.val r7)) (h8 : a.tmps.toList[t8]? = some (Ca.val r8)) (h9 : a.tmps.toList[t9]? = some (Ca.val r9)) (h10 : a.tmps.toList[t10]? = some (Ca.val r10)) (k : wpList Tryz.prog ops Q rest (a.put op.dst (.slice (some ⟨w.heap.size,0,none⟩) 11 11)) (Ca.boxL w [r0,r1,r2,r3,r4,r5,r6,r7,r8,r9,r10])) : wpList Tryz.prog ops Q (op :: rest) a w :=
 wpList_plain hgd fun _ hK => by
  have e : (#[(0,Operand.tmp t0),(1,Operand.tmp t1),(2,Operand.tmp t2),(3,Operand.tmp t3),(4,Operand.tmp t4),(5,Operand.tmp t5),(6,Operand.tmp t6),(7,Operand.tmp t7),(8,Operand.tmp t8),(9,Operand.tmp t9),(10,Operand.tmp t10)] : Array (Nat × Operand)).map (fun (i,x) => (i,a.eval x)) = #[(0,Ca.val r0),(1,Ca.val r1),(2,Ca.val r2),(3,Ca.val r3),(4,Ca.val r4),(5,Ca.val r5),(6,Ca.val r6),(7,Ca.val r7),(8,Ca.val r8),(9,Ca.val r9),(10,Ca.val r10)] := by simp [Ca.evT h0,Ca.evT h1,Ca.evT h2,Ca.evT h3,Ca.evT h4,Ca.evT h5,Ca.evT h6,Ca.evT h7,Ca.evT h8,Ca.evT h9,Ca.evT h10]
  unfold Oper.wp execOp
  simp only [ho,Sem.run_bind,e,Ca.run_eleven,Result.andThen_ok]
  exact hK _ _ k
def Bl.runsR (g3 g4 g5 g6 : Nat) : List Ca.T := [⟨0,0,6,.empty,0,.empty,0,0,0,0,0,0,0,⟨none,0,0⟩,.empty,0,0⟩,⟨1,1,3,.empty,0,Bl.stdA,2000,1,1,1900,0,0,0,⟨none,0,0⟩,.empty,0,0⟩,⟨1,2,1,Bl.aA,2,.empty,0,0,0,0,0,0,0,⟨none,0,0⟩,.empty,0,0⟩,Bl.rOne 3 g3,Bl.rOne 3 g4,Bl.rOne 4 g5,Bl.rOne 5 g6,⟨1,6,1,Bl.bA,9,.empty,0,0,0,0,0,0,0,⟨none,0,0⟩,.empty,0,0⟩,⟨1,7,5,Bl.bA,0,.empty,0,0,0,0,2026,11,15,⟨none,0,0⟩,Bl.aA,1,0⟩,⟨1,8,5,Bl.bA,0,.empty,0,0,0,0,2026,11,15,⟨none,0,0⟩,Bl.aA,1,0⟩,⟨1,9,8,Bl.bA,0,.empty,0,0,0,0,0,0,0,⟨none,0,0⟩,.empty,0,0⟩]
def Bl.wants : List Rp.T := [⟨0,1,0⟩,⟨0,0,0⟩,⟨0,0,0⟩,⟨0,1,119⟩,⟨0,1,119⟩,⟨0,2,119⟩,⟨14,0,0⟩,⟨0,0,0⟩,⟨0,1,-119⟩,⟨12,0,0⟩,⟨0,1,119⟩]
theorem Bl.tri_inj : ∀ {l m : List Rp.T},l.map Bl.tri = m.map Bl.tri → l = m
 | [],[],_ => rfl
 | [],_ :: _,h => by simp at h
 | _ :: _,[],h => by simp at h
 | ⟨a,b,c⟩ :: l,⟨d,e,f⟩ :: m,h => by
  simp only [List.map_cons,List.cons.injEq,Bl.tri,Prod.mk.injEq] at h
  obtain ⟨⟨rfl,rfl,rfl⟩,h2⟩ := h
  rw [Bl.tri_inj h2]
theorem Bl.runs_want : (Bl.play Bl.new Bl.runs).2 = Bl.wants := Bl.tri_inj (Bl.runs_told.1.trans rfl)
theorem Bl.runs_each {w : World} {g3 g4 g5 g6 : Nat} (h3 : Bl.IsC w (Bl.rOne 3 g3) (Bl.cOne 3)) (h4 : Bl.IsC w (Bl.rOne 3 g4) (Bl.cOne 3)) (h5 : Bl.IsC w (Bl.rOne 4 g5) (Bl.cOne 4)) (h6 : Bl.IsC w (Bl.rOne 5 g6) (Bl.cOne 5)) : Bl.EachC w (Bl.runsR g3 g4 g5 g6) Bl.runs := by
 refine ⟨rfl,fun i hi => ?_⟩
 have hi' : i < 11 := hi
 match i,hi' with
 | 0,_ => exact ⟨rfl,rfl,rfl,rfl,rfl,rfl,rfl,rfl,rfl,Ln.ls_nil w,rfl,rfl,rfl⟩
 | 1,_ => exact ⟨rfl,rfl,rfl,rfl,rfl,rfl,rfl,rfl,rfl,Ln.ls_nil w,rfl,rfl,rfl⟩
 | 2,_ => exact ⟨rfl,rfl,rfl,rfl,rfl,rfl,rfl,rfl,rfl,Ln.ls_nil w,rfl,rfl,rfl⟩
 | 3,_ => exact h3
 | 4,_ => exact h4
 | 5,_ => exact h5
 | 6,_ => exact h6
 | 7,_ => exact ⟨rfl,rfl,rfl,rfl,rfl,rfl,rfl,rfl,rfl,Ln.ls_nil w,rfl,rfl,rfl⟩
 | 8,_ => exact ⟨rfl,rfl,rfl,rfl,rfl,rfl,rfl,rfl,rfl,Ln.ls_nil w,rfl,rfl,rfl⟩
 | 9,_ => exact ⟨rfl,rfl,rfl,rfl,rfl,rfl,rfl,rfl,rfl,Ln.ls_nil w,rfl,rfl,rfl⟩
 | 10,_ => exact ⟨rfl,rfl,rfl,rfl,rfl,rfl,rfl,rfl,rfl,Ln.ls_nil w,rfl,rfl,rfl⟩
theorem Bl.runs_short (g3 g4 g5 g6 : Nat) : ∀ r ∈ Bl.runsR g3 g4 g5 g6,Ca.Short r := by
 intro r hr
 unfold Bl.runsR at hr
 simp only [List.mem_cons,List.not_mem_nil,or_false] at hr
 rcases hr with rfl | rfl | rfl | rfl | rfl | rfl | rfl | rfl | rfl | rfl | rfl
 all_goals first
  | exact Bl.rOne_short (by unfold Fit; omega) _
  | (refine ⟨?_,?_,?_,?_,?_,?_,?_,?_,?_,?_,?_,?_,?_,?_,?_,?_⟩ <;> first | (show (0 : Nat) ≤ _; omega) | (show (1 : Nat) ≤ _; omega) | (show (3 : Nat) ≤ _; omega) | (refine ⟨?_,?_⟩ <;> (simp only []; omega)))
end Go.Proofs.YtjpfpojbalepeaaGreat
namespace Go.Proofs.YtjpfpojbalepeaaGreat
open Go.RowKit
open Mem
theorem Bl.wants_short : ∀ r ∈ Bl.wants,Rp.Short r := by
 intro r hr
 unfold Bl.wants at hr
 simp only [List.mem_cons,List.not_mem_nil,or_false] at hr
 rcases hr with rfl | rfl | rfl | rfl | rfl | rfl | rfl | rfl | rfl | rfl | rfl
 all_goals (refine ⟨?_,?_,?_⟩ <;> (refine ⟨?_,?_⟩ <;> (simp only []; omega)))
theorem Bl.runs_lines : ∀ c ∈ Bl.runs,c.cmd.lines.length ≤ 15 := by
 intro c hc
 unfold Bl.runs at hc
 simp only [List.mem_cons,List.not_mem_nil,or_false] at hc
 rcases hc with rfl | rfl | rfl | rfl | rfl | rfl | rfl | rfl | rfl | rfl | rfl
 all_goals first | (show (0 : Nat) ≤ 15; omega) | (show (1 : Nat) ≤ 15; omega)
set_option maxHeartbeats 8000000 in
theorem bruns (w0 w : World) (hw : Below w0.heap.size w0 w) :
  Calls Tryz.prog 3 #[] w fun e w' => e = .returned (.bool true) ∧ Below w0.heap.size w0 w' := by
 have HW := Lib.hid hw
 clear hw
 go_enter Tryz.func3,Tryz.ntmps3
 go_upto_region 1 with fail
 go_cut [1] (fun l wx => ∃ (b : Nat) (rs : List Ca.T),l = .slice (some ⟨b,0,none⟩) 11 11 ∧ Hid (Bl.Cs wx (some ⟨b,0,none⟩) 11 11 rs Bl.runs) ∧ Hid (Below w.heap.size w wx))
 case first =>
  go_wp2_with fail
  refine (law_one 3 w _ (Below.refl _ _)).mono ?_
  rintro e w3 ⟨g3,rfl,i3,_,b3⟩
  have HI3 := Lib.hid i3
  have HC3 := Lib.hid b3
  clear b3 i3
  go_wp2_with fail
  refine (law_one 3 w3 _ (Below.refl _ _)).mono ?_
  rintro e w4 ⟨g4,rfl,i4,_,b4⟩
  have HI4 := Lib.hid i4
  have HC4 := Lib.hid b4
  clear b4 i4
  go_wp2_with fail
  refine (law_one 4 w4 _ (Below.refl _ _)).mono ?_
  rintro e w5 ⟨g5,rfl,i5,_,b5⟩
  have HI5 := Lib.hid i5
  have HC5 := Lib.hid b5
  clear b5 i5
  go_wp2_with fail
  refine (law_one 5 w5 _ (Below.refl _ _)).mono ?_
  rintro e w6 ⟨g6,rfl,i6,_,b6⟩
  have HI6 := Lib.hid i6
  have HC6 := Lib.hid b6
  clear b6 i6
  go_wp2_with fail
  refine (law_day w6 _ (Below.refl _ _)).mono ?_
  rintro e w7 ⟨rfl,b7⟩
  have HC7 := Lib.hid b7
  clear b7
  go_wp2_with fail
  refine (law_day w7 _ (Below.refl _ _)).mono ?_
  rintro e w8 ⟨rfl,b8⟩
  have HC8 := Lib.hid b8
  clear b8
  go_wp2_with (first | ((with_reducible apply Ca.wpl_eleven (r0 := ⟨0,0,6,.empty,0,.empty,0,0,0,0,0,0,0,⟨none,0,0⟩,.empty,0,0⟩) (r1 := ⟨1,1,3,.empty,0,Bl.stdA,2000,1,1,1900,0,0,0,⟨none,0,0⟩,.empty,0,0⟩) (r2 := ⟨1,2,1,Bl.aA,2,.empty,0,0,0,0,0,0,0,⟨none,0,0⟩,.empty,0,0⟩) (r3 := Bl.rOne 3 g3) (r4 := Bl.rOne 3 g4) (r5 := Bl.rOne 4 g5) (r6 := Bl.rOne 5 g6) (r7 := ⟨1,6,1,Bl.bA,9,.empty,0,0,0,0,0,0,0,⟨none,0,0⟩,.empty,0,0⟩) (r8 := ⟨1,7,5,Bl.bA,0,.empty,0,0,0,0,2026,11,15,⟨none,0,0⟩,Bl.aA,1,0⟩) (r9 := ⟨1,8,5,Bl.bA,0,.empty,0,0,0,0,2026,11,15,⟨none,0,0⟩,Bl.aA,1,0⟩) (r10 := ⟨1,9,8,Bl.bA,0,.empty,0,0,0,0,0,0,0,⟨none,0,0⟩,.empty,0,0⟩)); rfl; rfl; rfl; rfl; rfl; rfl; rfl; rfl; rfl; rfl; rfl; rfl; rfl))
  have hB8 := bchain (bchain (bchain (bchain (bchain HC3.out HC4.out) HC5.out) HC6.out) HC7.out) HC8.out
  have hbU : Below w8.heap.size w8 (Ca.boxL w8 (Bl.runsR g3 g4 g5 g6)) := (Below.refl _ _).alloc (Nat.le_refl _) _
  have hC : Bl.Cs (Ca.boxL w8 (Bl.runsR g3 g4 g5 g6)) (some ⟨w8.heap.size,0,none⟩) 11 11 (Bl.runsR g3 g4 g5 g6) Bl.runs := by
   refine ⟨?_,?_⟩
   ·
    have hb : Ca.Block (Ca.boxL w8 (Bl.runsR g3 g4 g5 g6)) w8.heap.size (Bl.runsR g3 g4 g5 g6 ++ []) := by
     rw [List.append_nil]
     exact heap_alloc_new w8 _
    exact hb.ls 11 11 rfl (Nat.le_refl _) (by omega) (Bl.runs_short _ _ _ _)
   ·
    have h3 := (((((HI3.out.below HC4.out).below HC5.out).below HC6.out).below HC7.out).below HC8.out).below hbU
    have h4 := ((((HI4.out.below HC5.out).below HC6.out).below HC7.out).below HC8.out).below hbU
    have h5 := (((HI5.out.below HC6.out).below HC7.out).below HC8.out).below hbU
    have h6 := ((HI6.out.below HC7.out).below HC8.out).below hbU
    exact Bl.runs_each h3 h4 h5 h6
  go_meet
  exact ⟨_,Bl.runsR g3 g4 g5 g6,rfl,Lib.hid hC,Lib.hid (bchain hB8 hbU)⟩
 case rest =>
  rename World => U
  obtain ⟨b,rs,rfl,HCs,HBU⟩ := hcut
  go_upto_region 2 with fail
  go_cut [2,3] (fun p l wx => ∃ (g : Nat) (h : Bl.Sv) (ao : Option Addr) (cap : Nat),p = .pointer (some ⟨g,0,none⟩) ∧ l = .slice ao 11 cap ∧ 11 ≤ cap ∧ cap ≤ 9223372036854775807 ∧ Hid (h.post.n = 3 ∧ Bl.At wx g h ∧ Bl.Lies wx h (Bl.play Bl.new Bl.runs).1 ∧ Rp.Ls wx ao 11 cap Bl.wants) ∧ Hid (Below U.heap.size U wx))
  case first =>
   go_wp2_with fail
   refine (bil_new U _ (Below.refl _ _)).mono ?_
   rintro e w9 ⟨h0,rfl,hL0,b9⟩
   have HL0 := Lib.hid hL0
   have HC9 := Lib.hid b9
   clear hL0 b9
   go_wp2_with fail
   refine (bil_play Bl.new Bl.runs h0 rs (some ⟨b,0,none⟩) 11 11 w9 _ (Below.refl _ _) HL0.out.lies (HCs.out.below HC9.out) Bl.right_new Bl.runs_lines (by omega)).mono ?_
   rintro e w10 ⟨h,ao,n,cap,rfl,hL,hRp,_,b10⟩
   rw [Bl.runs_want] at hRp
   obtain rfl : n = 11 := hRp.len
   have hpn : h.post.n = 3 := by
    obtain ⟨rs,h1,h2,_⟩ := hL.post
    rw [h1.len,h2.len,Bl.runs_told.2]
   have hb2 := Bl.below_own w10 h
   have HZ := Lib.hid (And.intro hpn (And.intro (Bl.at_box w10 h) (And.intro (hL.lies.below hb2) (hRp.below hb2))))
   have HB10 := Lib.hid (bchain (bchain HC9.out b10) hb2)
   have hcap := hRp.reach
   have hfit := hRp.fits
   clear hL hRp b10 HC9 HL0 hb2 hpn
   go_wp2_with (first | ((with_reducible apply Bl.wpl_store (h := h) (g := w10.heap.size)); rfl; rfl; rfl; rfl; rfl; rfl))
   go_meet
   exact ⟨_,h,ao,cap,rfl,rfl,hfit,hcap,HZ,HB10⟩
  case rest =>
   rename World => V
   obtain ⟨g,h,ao,cap,rfl,rfl,hfit,hcap,HZ,HBV⟩ := hcut
   go_upto_region 3 with fail
   go_cut [4] (fun l wx => ∃ b : Nat,l = .slice (some ⟨b,0,none⟩) 11 11 ∧ Hid (Rp.Ls wx (some ⟨b,0,none⟩) 11 11 Bl.wants) ∧ Hid (Below V.heap.size V wx))
   case first =>
    have hW : Rp.Ls (V.alloc (.cells (Bl.wants.flatMap Rp.rv).toArray 49)) (some ⟨V.heap.size,0,none⟩) 11 11 Bl.wants := by
     have hb : Rp.Block (V.alloc (.cells (Bl.wants.flatMap Rp.rv).toArray 49)) V.heap.size (Bl.wants ++ []) := by
      rw [List.append_nil]
      exact heap_alloc_new _ _
     exact hb.ls 11 11 rfl (Nat.le_refl _) (by omega) Bl.wants_short
    have HWl := Lib.hid hW
    clear hW
    go_wp2_with fail
    go_meet
    exact ⟨_,rfl,HWl,Lib.hid ((Below.refl _ _).alloc (Nat.le_refl _) _)⟩
   case rest =>
    rename World => X
    obtain ⟨b2,rfl,HWl,HBX⟩ := hcut
    go_wp2_with fail
    refine (Rp.same_rows Bl.wants ao (some ⟨b2,0,none⟩) 11 cap 11 X _ (Below.refl _ _) (HZ.out.2.2.2.below HBX.out) HWl.out).mono ?_
    rintro e w12 ⟨rfl,b12⟩
    have HB12 := Lib.hid (bchain HBX.out b12)
    have HA12 := Lib.hid ((HZ.out.2.1.below HBX.out).below b12)
    obtain ⟨x0,x1,x2,x3,x4,x5⟩ := HA12.out.cells
    clear b12 HWl
    go_wp2_with fail
    refine (bil_right _ h w12 _ (Below.refl _ _) (HZ.out.2.2.1.below HB12.out) (Bl.Right.played Bl.right_new)).mono ?_
    rintro e w13 ⟨rfl,b13⟩
    clear x0 x1 x2 x3 x4 x5
    have HB13 := Lib.hid (bchain HB12.out b13)
    obtain ⟨x0,x1,x2,x3,x4,x5⟩ := (HA12.out.below b13).cells
    rw [HZ.out.1] at x2
    clear b13 HB12 HA12
    go_wp2_with fail
    go_ret
    exact ⟨rfl,bchain HW.out (bchain (bchain HBU.out HBV.out) HB13.out)⟩
end Go.Proofs.YtjpfpojbalepeaaGreat
namespace Go.Proofs.YtjpfpojbalepeaaGreat
open Go.RowKit
open Mem
structure BSt (w wr : World) (g : Nat) (h : Bl.Sv) (s : Bl.St) (ao : Option Addr) (n cap : Nat) (rs : List Ca.T) (cs : List Bl.Cl) : Prop where
 bel : Below w.heap.size w wr
 out : w.heap.size ≤ g
 box : Bl.At wr g h
 lies : Bl.LiesA (g + 1) wr h s
 right : Bl.Right s
 ls : Ca.Ls wr ao n cap rs
 inA : InA (g + 1) ao n
 each : Bl.EachC w rs cs
 few : ∀ c ∈ cs,c.cmd.lines.length ≤ 15
theorem BSt.len {w wr : World} {g : Nat} {h : Bl.Sv} {s : Bl.St} {ao : Option Addr} {n cap : Nat} {rs : List Ca.T} {cs : List Bl.Cl} (b : BSt w wr g h s ao n cap rs cs) : n = rs.length ∧ rs.length = cs.length := ⟨b.ls.len,b.each.len⟩
theorem BSt.below {w wr v : World} {g : Nat} {h : Bl.Sv} {s : Bl.St} {ao : Option Addr} {n cap : Nat} {rs : List Ca.T} {cs : List Bl.Cl} (b : BSt w wr g h s ao n cap rs cs) (k : Below wr.heap.size wr v) : BSt w v g h s ao n cap rs cs :=
 ⟨bchain b.bel k,b.out,b.box.below k,b.lies.below k,b.right,b.ls.below k,b.inA,b.each,b.few⟩
theorem BSt.lay {w wr u : World} {g : Nat} {h h' : Bl.Sv} {s s' : Bl.St} {ao : Option Addr} {n cap : Nat} {rs : List Ca.T} {cs : List Bl.Cl} (b : BSt w wr g h s ao n cap rs cs) (k : Below wr.heap.size wr u) (hl : Bl.LiesA wr.heap.size u h' s') (hr : Bl.Right s') :
  BSt w (Bl.lay u g h') g h' s' ao n cap rs cs := by
 have b' := b.below k
 have hg : g + 1 ≤ wr.heap.size := b.box.lt
 have hk : Kp (g + 1) u (Bl.lay u g h') := Bl.kp_lay u (Nat.lt_succ_self g) h'
 exact ⟨Bl.below_lay b'.bel b.out h',b.out,b'.box.lay h',(hl.mono hg).kp hk,hr,b'.ls.kp b.inA hk,b.inA,b.each,b.few⟩
theorem Bl.LiesA.fresh {A : Nat} {w : World} {h : Bl.Sv} (l : Bl.LiesA A w h Bl.new) (B : Nat) : Bl.LiesA B w h Bl.new := by
 obtain ⟨rs,h1,h2,_⟩ := l.post
 have e : rs = [] := List.length_eq_zero_iff.1 h2.len
 have n0 : h.tab.n = 0 := l.tab.len
 have n1 : h.ser.n = 0 := l.ser.len
 have n2 : h.post.n = 0 := by rw [h1.len,e]; rfl
 have n3 : h.book.n = 0 := l.book.len
 have n4 : h.sess.n = 0 := l.sess.len
 exact ⟨l.tab,l.ser,⟨rs,h1,h2,by rw [e]; intro r hr; cases hr⟩,l.book,l.sess,l.next,l.fit,by rw [n0]; exact inA_nil _ _,by rw [n1]; exact inA_nil _ _,by rw [n2]; exact inA_nil _ _,by rw [n3]; exact inA_nil _ _,by rw [n4]; exact inA_nil _ _⟩
def FewL (w u : World) (cs0 : List Bl.Cl) (N : Nat) (e : Ending) (w' : World) : Prop := ∃ (ao : Option Addr) (n cap : Nat) (rs : List Ca.T),e = .returned (.slice ao n cap) ∧ n ≤ N ∧ Ca.Ls w' ao n cap rs ∧ InA u.heap.size ao n ∧ Bl.EachC w rs (Bl.fewL N cs0) ∧ Below u.heap.size u w'
theorem law_fewL (rs0 : List Ca.T) (cs0 : List Bl.Cl) (N : Nat) (ao0 : Option Addr) (n0 cap0 : Nat) (w u : World) (hC : Bl.Cs w ao0 n0 cap0 rs0 cs0) (hu : Below w.heap.size w u) (hN : N ≤ 1000) :
  Calls Tryz.prog 15 #[.slice ao0 n0 cap0,.int .i64 N] u (FewL w u cs0 N) := by
 refine (law_few rs0 cs0 N ao0 n0 cap0 u (hC.below hu) hN).mono ?_
 rintro e w3 ⟨v,rfl,hO,hE,b3⟩
 have hs : ∀ r ∈ (rs0.take N).map Ca.cut,Ca.Short r := by
  intro r hr
  obtain ⟨q,hq,rfl⟩ := List.mem_map.1 hr
  exact Ca.short_cut (hC.ls.short q (List.mem_of_mem_take hq))
 obtain ⟨ao,cap,rfl,hLs,hin⟩ := Ca.own_ls hO hs
 refine ⟨ao,_,cap,_,rfl,?_,hLs,inA_own hin,hC.each.few N,b3⟩
 rw [List.length_map,List.length_take]
 omega
end Go.Proofs.YtjpfpojbalepeaaGreat
namespace Go.Proofs.YtjpfpojbalepeaaGreat
open Go.RowKit
open Mem
def Ca.Bk (u : World) (g : Nat) (r : Ca.T) : Prop := u.heap[g]? = some (Ca.block r)
structure BPr (w wr : World) (gs gc : Nat) (h : Bl.Sv) (s : Bl.St) (r : Ca.T) (c : Bl.Cl) : Prop where
 bel : Below w.heap.size w wr
 out : w.heap.size ≤ gc
 apart : gc < gs
 box : Bl.At wr gs h
 lies : Bl.LiesA (gc + 1) wr h s
 right : Bl.Right s
 call : Ca.Bk wr gc r
 short : Ca.Short r
 isC : Bl.IsC w r c
theorem Bl.At.far {u : World} {g : Nat} {h : Bl.Sv} (a : Bl.At u g h) {b : Nat} (hne : g ≠ b) (o : Nat) (x : Value) : Bl.At (u.setCell ⟨b,o,none⟩ x) g h := by
 unfold Bl.At
 rw [heap_setCell_other u ⟨b,o,none⟩ g x hne]
 exact a
end Go.Proofs.YtjpfpojbalepeaaGreat
namespace Go.Proofs.YtjpfpojbalepeaaGreat
open Go.RowKit
open Mem
def Bl.z : Bl.Sv := ⟨⟨none,0,0⟩,⟨none,0,0⟩,⟨none,0,0⟩,⟨none,0,0⟩,⟨none,0,0⟩,0⟩
theorem Rp.Bk.c {u : World} {g : Nat} {r : Rp.T} (h : Rp.Bk u g r) : Rp.C u g r := by
 unfold Rp.C
 refine ⟨?_,?_,?_⟩
 all_goals
  rw [cell_of_row u g _ _ _ _ h]
  rfl
theorem Rp.Bk.put {u : World} {g : Nat} {r : Rp.T} (a : Rp.Bk u g r) (q : Rp.T) : Rp.Bk (((u.setCell ⟨g,0,none⟩ (.int .i64 q.why)).setCell ⟨g,1,none⟩ (.int .i64 q.num)).setCell ⟨g,2,none⟩ (.int .i64 q.gross)) g q :=
 (Bl.set_heap (Bl.set_heap (Bl.set_heap a 0 _) 1 _) 2 _).trans rfl
theorem Rp.Bk.far {u : World} {g : Nat} {h : Rp.T} (a : Rp.Bk u g h) {b : Nat} (hne : g ≠ b) (o : Nat) (x : Value) : Rp.Bk (u.setCell ⟨b,o,none⟩ x) g h := by
 unfold Rp.Bk
 rw [heap_setCell_other u ⟨b,o,none⟩ g x hne]
 exact a
structure Two (wr wx : World) (gt gr : Nat) (h : Bl.Sv) (s : Bl.St) (r : Rp.T) : Prop where
 bel : Below wr.heap.size wr wx
 box : Bl.At wx gt h
 rep : Rp.Bk wx gr r
 lies : Bl.LiesA wr.heap.size wx h s
 gt : wr.heap.size ≤ gt
 gr : wr.heap.size ≤ gr
theorem ltA (u : World) (a : Obj) : u.heap.size < (u.alloc a).heap.size := by simp
theorem ltB (u : World) (a b : Obj) : u.heap.size < ((u.alloc a).alloc b).heap.size := by
 rw [show ((u.alloc a).alloc b).heap.size = u.heap.size + 1 + 1 by simp]
 omega
theorem ltC (u : World) (a b : Obj) : u.heap.size + 1 < ((u.alloc a).alloc b).heap.size := by
 rw [show ((u.alloc a).alloc b).heap.size = u.heap.size + 1 + 1 by simp]
 omega
theorem kp6 {A : Nat} (u : World) {g : Nat} (hg : g < A) (h : Bl.Sv) : Kp A u ((((((u.setCell ⟨g,0,none⟩ (.slice h.tab.ao h.tab.n h.tab.cap)).setCell ⟨g,1,none⟩ (.slice h.ser.ao h.ser.n h.ser.cap)).setCell ⟨g,2,none⟩ (.slice h.post.ao h.post.n h.post.cap)).setCell ⟨g,3,none⟩ (.slice h.book.ao h.book.n h.book.cap)).setCell ⟨g,4,none⟩ (.slice h.sess.ao h.sess.n h.sess.cap)).setCell ⟨g,5,none⟩ (.int .i64 h.next)) :=
 (((((Kp.set u hg 0 _).trans (Kp.set _ hg 1 _)).trans (Kp.set _ hg 2 _)).trans (Kp.set _ hg 3 _)).trans (Kp.set _ hg 4 _)).trans (Kp.set _ hg 5 _)
theorem kp3 {A : Nat} (u : World) {g : Nat} (hg : g < A) (q : Rp.T) : Kp A u (((u.setCell ⟨g,0,none⟩ (.int .i64 q.why)).setCell ⟨g,1,none⟩ (.int .i64 q.num)).setCell ⟨g,2,none⟩ (.int .i64 q.gross)) :=
 ((Kp.set u hg 0 _).trans (Kp.set _ hg 1 _)).trans (Kp.set _ hg 2 _)
theorem bel6 {w0 u : World} {g : Nat} (hB : Below w0.heap.size w0 u) (hg : w0.heap.size ≤ g) (h : Bl.Sv) : Below w0.heap.size w0 ((((((u.setCell ⟨g,0,none⟩ (.slice h.tab.ao h.tab.n h.tab.cap)).setCell ⟨g,1,none⟩ (.slice h.ser.ao h.ser.n h.ser.cap)).setCell ⟨g,2,none⟩ (.slice h.post.ao h.post.n h.post.cap)).setCell ⟨g,3,none⟩ (.slice h.book.ao h.book.n h.book.cap)).setCell ⟨g,4,none⟩ (.slice h.sess.ao h.sess.n h.sess.cap)).setCell ⟨g,5,none⟩ (.int .i64 h.next)) := Bl.below_put hB hg _ _ _ _ _ _
theorem bel3 {w0 u : World} {g : Nat} (hB : Below w0.heap.size w0 u) (hg : w0.heap.size ≤ g) (q : Rp.T) : Below w0.heap.size w0 (((u.setCell ⟨g,0,none⟩ (.int .i64 q.why)).setCell ⟨g,1,none⟩ (.int .i64 q.num)).setCell ⟨g,2,none⟩ (.int .i64 q.gross)) := bset (bset (bset hB hg _ _) hg _ _) hg _ _
theorem size6 (u : World) (g : Nat) (h : Bl.Sv) : (((((((u.setCell ⟨g,0,none⟩ (.slice h.tab.ao h.tab.n h.tab.cap)).setCell ⟨g,1,none⟩ (.slice h.ser.ao h.ser.n h.ser.cap)).setCell ⟨g,2,none⟩ (.slice h.post.ao h.post.n h.post.cap)).setCell ⟨g,3,none⟩ (.slice h.book.ao h.book.n h.book.cap)).setCell ⟨g,4,none⟩ (.slice h.sess.ao h.sess.n h.sess.cap)).setCell ⟨g,5,none⟩ (.int .i64 h.next))).heap.size = u.heap.size := by simp
theorem size3 (u : World) (g : Nat) (q : Rp.T) : ((((u.setCell ⟨g,0,none⟩ (.int .i64 q.why)).setCell ⟨g,1,none⟩ (.int .i64 q.num)).setCell ⟨g,2,none⟩ (.int .i64 q.gross))).heap.size = u.heap.size := by simp
theorem two1 {wr u : World} {A : Nat} {h : Bl.Sv} {s : Bl.St} {q : Rp.T} (hB : Below wr.heap.size wr u) (hL : Bl.LiesA A u h s) (hA : wr.heap.size ≤ A) : Two wr ((u.alloc (.cells #[.slice h.tab.ao h.tab.n h.tab.cap,.slice h.ser.ao h.ser.n h.ser.cap,.slice h.post.ao h.post.n h.post.cap,.slice h.book.ao h.book.n h.book.cap,.slice h.sess.ao h.sess.n h.sess.cap,.int .i64 h.next] 42)).alloc (.cells #[.int .i64 q.why,.int .i64 q.num,.int .i64 q.gross] 49)) u.heap.size (u.heap.size + 1) h s q := by
 have b1 := Bl.below_own u h
 have b2 := Rp.below_own (Bl.box u h) q
 have e : Rp.Bk (Rp.box (Bl.box u h) q) (u.heap.size + 1) q := heap_next u _ _
 exact ⟨bchain hB (bchain b1 b2),(Bl.at_box u h).below b2,e,((hL.mono hA).below b1).below b2,hB.size,Nat.le_succ_of_le hB.size⟩
theorem two2 {wr u : World} {A : Nat} {h : Bl.Sv} {s : Bl.St} {q : Rp.T} (hB : Below wr.heap.size wr u) (hL : Bl.LiesA A u h s) (hA : wr.heap.size ≤ A) : Two wr ((u.alloc (.cells #[.int .i64 q.why,.int .i64 q.num,.int .i64 q.gross] 49)).alloc (.cells #[.slice h.tab.ao h.tab.n h.tab.cap,.slice h.ser.ao h.ser.n h.ser.cap,.slice h.post.ao h.post.n h.post.cap,.slice h.book.ao h.book.n h.book.cap,.slice h.sess.ao h.sess.n h.sess.cap,.int .i64 h.next] 42)) (u.heap.size + 1) u.heap.size h s q := by
 have b1 := Rp.below_own u q
 have b2 := Bl.below_own (Rp.box u q) h
 have e : Bl.At (Bl.box (Rp.box u q) h) (u.heap.size + 1) h := heap_next u _ _
 exact ⟨bchain hB (bchain b1 b2),e,(show Rp.Bk (Rp.box u q) u.heap.size q from heap_alloc_new u _).below b2,((hL.mono hA).below b1).below b2,Nat.le_succ_of_le hB.size,hB.size⟩
theorem two3 {wr u : World} {A : Nat} {h : Bl.Sv} {s : Bl.St} {q : Rp.T} (hB : Below wr.heap.size wr u) (hL : Bl.LiesA A u h s) (hA : wr.heap.size ≤ A) {gt : Nat} {h0 : Bl.Sv} (D : Bl.At u gt h0) (hg : wr.heap.size ≤ gt) (hl : gt < A) : Two wr (((((((u.setCell ⟨gt,0,none⟩ (.slice h.tab.ao h.tab.n h.tab.cap)).setCell ⟨gt,1,none⟩ (.slice h.ser.ao h.ser.n h.ser.cap)).setCell ⟨gt,2,none⟩ (.slice h.post.ao h.post.n h.post.cap)).setCell ⟨gt,3,none⟩ (.slice h.book.ao h.book.n h.book.cap)).setCell ⟨gt,4,none⟩ (.slice h.sess.ao h.sess.n h.sess.cap)).setCell ⟨gt,5,none⟩ (.int .i64 h.next)).alloc (.cells #[.int .i64 q.why,.int .i64 q.num,.int .i64 q.gross] 49)) gt u.heap.size h s q := by
 have k := kp6 u hl h
 have b2 := Rp.below_own ((((((u.setCell ⟨gt,0,none⟩ (.slice h.tab.ao h.tab.n h.tab.cap)).setCell ⟨gt,1,none⟩ (.slice h.ser.ao h.ser.n h.ser.cap)).setCell ⟨gt,2,none⟩ (.slice h.post.ao h.post.n h.post.cap)).setCell ⟨gt,3,none⟩ (.slice h.book.ao h.book.n h.book.cap)).setCell ⟨gt,4,none⟩ (.slice h.sess.ao h.sess.n h.sess.cap)).setCell ⟨gt,5,none⟩ (.int .i64 h.next)) q
 have e : Rp.Bk (Rp.box ((((((u.setCell ⟨gt,0,none⟩ (.slice h.tab.ao h.tab.n h.tab.cap)).setCell ⟨gt,1,none⟩ (.slice h.ser.ao h.ser.n h.ser.cap)).setCell ⟨gt,2,none⟩ (.slice h.post.ao h.post.n h.post.cap)).setCell ⟨gt,3,none⟩ (.slice h.book.ao h.book.n h.book.cap)).setCell ⟨gt,4,none⟩ (.slice h.sess.ao h.sess.n h.sess.cap)).setCell ⟨gt,5,none⟩ (.int .i64 h.next)) q) u.heap.size q := by
  have := heap_alloc_new ((((((u.setCell ⟨gt,0,none⟩ (.slice h.tab.ao h.tab.n h.tab.cap)).setCell ⟨gt,1,none⟩ (.slice h.ser.ao h.ser.n h.ser.cap)).setCell ⟨gt,2,none⟩ (.slice h.post.ao h.post.n h.post.cap)).setCell ⟨gt,3,none⟩ (.slice h.book.ao h.book.n h.book.cap)).setCell ⟨gt,4,none⟩ (.slice h.sess.ao h.sess.n h.sess.cap)).setCell ⟨gt,5,none⟩ (.int .i64 h.next)) (.cells #[.int .i64 q.why,.int .i64 q.num,.int .i64 q.gross] 49)
  rw [size6] at this
  exact this
 exact ⟨bchain (bel6 hB hg h) b2,(D.put h).below b2,e,((hL.kp k).mono hA).below b2,hg,hB.size⟩
theorem two4 {wr u : World} {A : Nat} {h : Bl.Sv} {s : Bl.St} {q : Rp.T} (hB : Below wr.heap.size wr u) (hL : Bl.LiesA A u h s) (hA : wr.heap.size ≤ A) {gt gr : Nat} {h0 : Bl.Sv} {q0 : Rp.T} (D : Bl.At u gt h0) (E : Rp.Bk u gr q0) (hne : gt ≠ gr) (hg : wr.heap.size ≤ gt) (hr : wr.heap.size ≤ gr) (hl : gt < A) (hl2 : gr < A) : Two wr (((((((((u.setCell ⟨gt,0,none⟩ (.slice h.tab.ao h.tab.n h.tab.cap)).setCell ⟨gt,1,none⟩ (.slice h.ser.ao h.ser.n h.ser.cap)).setCell ⟨gt,2,none⟩ (.slice h.post.ao h.post.n h.post.cap)).setCell ⟨gt,3,none⟩ (.slice h.book.ao h.book.n h.book.cap)).setCell ⟨gt,4,none⟩ (.slice h.sess.ao h.sess.n h.sess.cap)).setCell ⟨gt,5,none⟩ (.int .i64 h.next)).setCell ⟨gr,0,none⟩ (.int .i64 q.why)).setCell ⟨gr,1,none⟩ (.int .i64 q.num)).setCell ⟨gr,2,none⟩ (.int .i64 q.gross)) gt gr h s q := by
 have k := kp6 u hl h
 have k2 := kp3 ((((((u.setCell ⟨gt,0,none⟩ (.slice h.tab.ao h.tab.n h.tab.cap)).setCell ⟨gt,1,none⟩ (.slice h.ser.ao h.ser.n h.ser.cap)).setCell ⟨gt,2,none⟩ (.slice h.post.ao h.post.n h.post.cap)).setCell ⟨gt,3,none⟩ (.slice h.book.ao h.book.n h.book.cap)).setCell ⟨gt,4,none⟩ (.slice h.sess.ao h.sess.n h.sess.cap)).setCell ⟨gt,5,none⟩ (.int .i64 h.next)) hl2 q
 have E2 : Rp.Bk ((((((u.setCell ⟨gt,0,none⟩ (.slice h.tab.ao h.tab.n h.tab.cap)).setCell ⟨gt,1,none⟩ (.slice h.ser.ao h.ser.n h.ser.cap)).setCell ⟨gt,2,none⟩ (.slice h.post.ao h.post.n h.post.cap)).setCell ⟨gt,3,none⟩ (.slice h.book.ao h.book.n h.book.cap)).setCell ⟨gt,4,none⟩ (.slice h.sess.ao h.sess.n h.sess.cap)).setCell ⟨gt,5,none⟩ (.int .i64 h.next)) gr q0 := (((((E.far hne.symm _ _).far hne.symm _ _).far hne.symm _ _).far hne.symm _ _).far hne.symm _ _).far hne.symm _ _
 exact ⟨bel3 (bel6 hB hg h) hr q,(((D.put h).far hne _ _).far hne _ _).far hne _ _,E2.put q,((hL.kp k).kp k2).mono hA,hg,hr⟩
theorem two5 {wr u : World} {A : Nat} {h : Bl.Sv} {s : Bl.St} {q : Rp.T} (hB : Below wr.heap.size wr u) (hL : Bl.LiesA A u h s) (hA : wr.heap.size ≤ A) {gr : Nat} {q0 : Rp.T} (E : Rp.Bk u gr q0) (hr : wr.heap.size ≤ gr) (hl : gr < A) : Two wr ((((u.setCell ⟨gr,0,none⟩ (.int .i64 q.why)).setCell ⟨gr,1,none⟩ (.int .i64 q.num)).setCell ⟨gr,2,none⟩ (.int .i64 q.gross)).alloc (.cells #[.slice h.tab.ao h.tab.n h.tab.cap,.slice h.ser.ao h.ser.n h.ser.cap,.slice h.post.ao h.post.n h.post.cap,.slice h.book.ao h.book.n h.book.cap,.slice h.sess.ao h.sess.n h.sess.cap,.int .i64 h.next] 42)) u.heap.size gr h s q := by
 have k := kp3 u hl q
 have b2 := Bl.below_own (((u.setCell ⟨gr,0,none⟩ (.int .i64 q.why)).setCell ⟨gr,1,none⟩ (.int .i64 q.num)).setCell ⟨gr,2,none⟩ (.int .i64 q.gross)) h
 have e : Bl.At (Bl.box (((u.setCell ⟨gr,0,none⟩ (.int .i64 q.why)).setCell ⟨gr,1,none⟩ (.int .i64 q.num)).setCell ⟨gr,2,none⟩ (.int .i64 q.gross)) h) u.heap.size h := by
  have := Bl.at_box (((u.setCell ⟨gr,0,none⟩ (.int .i64 q.why)).setCell ⟨gr,1,none⟩ (.int .i64 q.num)).setCell ⟨gr,2,none⟩ (.int .i64 q.gross)) h
  rw [size3] at this
  exact this
 exact ⟨bchain (bel3 hB hr q) b2,e,(E.put q).below b2,((hL.kp k).mono hA).below b2,hB.size,hr⟩
end Go.Proofs.YtjpfpojbalepeaaGreat
