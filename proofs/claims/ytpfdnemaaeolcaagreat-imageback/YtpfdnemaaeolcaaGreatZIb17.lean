import Derived.Deep.RegionHeld3
import Derived.Laws.CopyOwn
import Derived.Laws.MakeOwn
import Derived.Lib.QuietBelow
import Derived.Deep.DeepCutAuto
import Derived.Test.YtpfdnemaaeolcaaGreatZIb1
import Derived.Test.YtpfdnemaaeolcaaGreatZIb4
import Derived.Test.YtpfdnemaaeolcaaGreatZIb5
import Derived.Test.YtpfdnemaaeolcaaGreatZIb10
import Derived.Test.YtpfdnemaaeolcaaGreatZIb15
import Derived.Test.YtpfdnemaaeolcaaGreatZIb16
variable {bs:List UInt8} {u w:Go.World} {A:Nat}
set_option maxHeartbeats 8000000
set_option maxRecDepth 100000
set_option linter.unusedVariables false
namespace Go.Proofs.YtpfdnemaaeolcaaGreat
open Go.RowKit
open Mem
open Go.Sort (grow)
namespace Bl
theorem TL (l:List Sn.T) (i q:Int):Fit (Sp.bQ l i q):=by
 unfold Sp.bQ;unfold Fit
 repeat (first | omega | split)
theorem OH {l:List Sn.T} (h:∀ r∈l,Sn.Short r) (i:Int):Sn.Short (Sp.own l i):=by
 unfold Sp.own;cases e:l[Sp.ix i l]? with
 | none=>exact ⟨eF,eF,eF,eF,eF⟩
 | some r=>exact h r (List.mem_of_getElem? e)
theorem Hg {s:St} {c:Cl} (hR:Right s) (hs:∀ r∈s.av,Sr.Short r) (hb:∀ r∈s.book,Ba.Short r) (hq:∀ r∈s.ak,Sn.Short r):Rp.Short (apply s c).2:=by
 have key:=zh s c;generalize hp:apply s c=p at key;cases key with
 | kind h=>exact ⟨⟨by show (-9223372036854775808:Int)<=17;omega,by show (17:Int)<=_;omega⟩,eF,eF⟩
 | full _ _ _=>exact ⟨⟨by show (-9223372036854775808:Int)<=14;omega,by show (14:Int)<=_;omega⟩,eF,eF⟩
 | join _ _ _ _=>exact ⟨eF,⟨by have:=hR.next;show (-9223372036854775808:Int)<=s.next;omega,by have:=hR.next;show s.next<=_;omega⟩,eF⟩
 | look _ _ _=>exact ⟨TL _ _ _,eF,eF⟩
 | again _ _ _ _ =>
  have h:=OH hq c.ak;exact ⟨h.2.2.1,h.2.2.2.1,h.2.2.2.2⟩
 | bad hk h6 h ho he =>
  have e:=wU hR hk h6 h ho;rw [hp] at e;have e2:(kept s c ⟨jZ s c.cmd,0,0⟩,(⟨jZ s c.cmd,0,0⟩:Rp.T)).2=sH s c.cmd:=by rw [e]
  rw [e2];exact wV hR hs hb hk h6
 | good hk h6 h ho he =>
  have e:=wU hR hk h6 h ho;rw [hp] at e;have e2:(kept (KI s c.cmd) c (UM s c.cmd),UM s c.cmd).2=sH s c.cmd:=by rw [e]
  rw [e2];exact wV hR hs hb hk h6
theorem Right.fw {s:St} (h:Right s):Fw s:=by
 have h1:s.tab.length<=24:=by
  have:=h.tab;unfold Vt.bN at this;rw [Bool.and_eq_true] at this;exact of_decide_eq_true this.1
 have h2:s.av.length<=8:=by
  have:=h.av;unfold Se.aA at this;rw [Bool.and_eq_true] at this;exact of_decide_eq_true this.1
 have h3:s.ak.length<=8:=by
  have:=h.ak;unfold Sp.aA at this;rw [Bool.and_eq_true] at this;exact of_decide_eq_true this.1
 exact ⟨by omega,by omega,by have:=h.few;omega,h.Ak,by omega,fun p hp=>by have:=(h.tot p hp).few;omega⟩
theorem rP {fn:Func} {p q:Tmp} (hf:fn.results=#[.cell p 30,.tmp q]) {tmps:Array Value} {w:World} {g:Nat} {h:Sv} {v:Value} (hp:tmps.getD p undef=.pointer (some ⟨g,0,none⟩)) (hq:tmps.getD q undef=v) (hA:At w g h):(results fn tmps).run Tryz.prog w=.ok (.tuple #[h.val,v]) w:=by
 have hp':tmps[p]?.getD undef=.pointer (some ⟨g,0,none⟩):=by simpa using hp
 have hq':tmps[q]?.getD undef=v:=by simpa using hq
 have e1:=run_loadVar_row (P:=Tryz.prog) w g 30 30 (rv h).toArray (0,0) _ hA Tryz.underlying30 rfl (by rw [info];rfl);simp [results,hf,hp',hq',asAddr,e1];rfl
structure Pl (w u:World) (g:Nat) (t:St) (hc:Sv) (rs:List Rp.T):Prop where
 dx:Below w.heap.size w u
 var:At u w.heap.size hc
 zr:At u (w.heap.size+1) iy
 lp:Lp (fun b=>b < w.heap.size\/g < b) u hc t
 blk:Rp.Block u g rs
 lo:w.heap.size+2<=g
section
variable {w u v:World} {g:Nat} {t t':St} {hc h':Sv} {rs:List Rp.T}
theorem Pl.below (c:Pl w u g t hc rs) (k:Below u.heap.size u v):Pl w v g t hc rs:=⟨aj c.dx k,c.var.below k,c.zr.below k,c.lp.below k,c.blk.below k,c.lo⟩
theorem Pl.laid (c:Pl w u g t hc rs) (h':Sv):Rp.Block (Bl.lay u w.heap.size h') g rs:=(setRow_other u _ _ _ (by have:=c.lo;omega)).trans c.blk
theorem Pl.next (c:Pl w u g t hc rs) (hl:Lp (fun b=>b < w.heap.size\/g < b) u h' t') (k:Nat) (hk:k < rs.length) (q:Rp.T):Pl w ((((Bl.lay u w.heap.size h').setCell ⟨g,k*3,none⟩ (.int .i64 q.why)).setCell ⟨g,k*3+1,none⟩ (.int .i64 q.num)).setCell ⟨g,k*3+2,none⟩ (.int .i64 q.au)) g t' h' (rs.set k q):=by
 have hlo:=c.lo;have n1: ¬ (w.heap.size < w.heap.size\/g < w.heap.size):=by omega
 have n2: ¬ (g < w.heap.size\/g < g):=by omega
 refine ⟨Rp.gL (Bl.dM c.dx (ac _) _) (by omega) k _ _ _,?_,?_,?_,Rp.Block.store (c.laid h') k hk q,hlo⟩
 · exact (((c.var.lay h').away (by omega) _ _).away (by omega) _ _).away (by omega) _ _
 · exact (((c.zr.other (by omega) _).away (by omega) _ _).away (by omega) _ _).away (by omega) _ _
 · exact (((hl.kp (jN.row u n1 _)).kp (jN.set _ n2 _ _)).kp (jN.set _ n2 _ _)).kp (jN.set _ n2 _ _)
end
theorem OI {s:St} {cs:List Cl} {k:Nat} (h:k < cs.length):play s (cs.take (k+1))=((apply (play s (cs.take k)).1 cs[k]).1,(play s (cs.take k)).2++[(apply (play s (cs.take k)).1 cs[k]).2]):=by
 rw [List.take_succ_eq_append_getElem h,ET];rfl
def TM (w:World) (s:St) (cs:List Cl) (e:Ending) (w':World):Prop:=∃ (h:Sv) (g:Nat),e=.returned (.tuple #[h.val,.slice (some ⟨g,0,none⟩) cs.length cs.length])/\lJ w.heap.size w' h (play s cs).1/\Rp.Block w' g (play s cs).2/\w.heap.size<=g/\(∀ r∈(play s cs).2,Rp.Short r)/\Below w.heap.size w w'
theorem TM.full {w0 w':World} {s:St} {cs:List Cl} {e:Ending} (q:TM w s cs e w') (hw:Below w0.heap.size w0 w) (hn:cs.length<=1000):Xp w0 w s cs e w':=by
 obtain ⟨h,g,rfl,l,k,hg,hs,b⟩:=q;refine ⟨h,some ⟨g,0,none⟩,cs.length,cs.length,rfl,l,Rp.Block.ls (zs:=[]) (by rw [List.append_nil];exact k) _ _ (zi cs s).symm (ac _) (by omega) hs,?_,aj hw b⟩;intro _ b off e;cases e
 exact hg
theorem TN (A:List Rp.T) (q z:Rp.T) (n:Nat):(A++List.replicate (n+1) z).set A.length q=A++[q]++List.replicate n z:=by
 rw [List.set_append_right _ _ (ac _),Nat.sub_self,List.replicate_succ,List.set_cons_zero,List.append_assoc];rfl
end Bl
theorem OJ (s:Bl.St) (cs:List Bl.Cl) (h:Bl.Sv) (rs:List Ca.T) (ao:Option Addr) (n cap:Nat) (w:World) (hL:Bl.kW w h s) (hC:Bl.Cs w ao n cap rs cs) (hR:Bl.Right s) (hn:n<=1000) :
  Calls Tryz.prog 5 #[h.val,.slice ao n cap] w (Bl.TM w s cs):=by
 have HL:=Lh hL;have XG:=Lh hC;have HR:=Lh hR;have HN:=Lh hC.ls.len;have HNc:Hid (n=cs.length):=Lh (by have:=hC.ls.len;have:=hC.each.len;omega);have hcap:=hC.ls.reach;have hfit:=hC.ls.fits;obtain ⟨U,hU,hB,k0,k1,hs⟩:=Bl.U7 w (.cells #[.slice h.tab.ao h.tab.n h.tab.cap,.slice h.av.ao h.av.n h.av.cap,.slice h.post.ao h.post.n h.post.cap,.slice h.book.ao h.book.n h.book.cap,.slice h.ak.ao h.ak.n h.ak.cap,.int .i64 h.next] 30) (.cells #[.slice none 0 0,.slice none 0 0,.slice none 0 0,.slice none 0 0,.slice none 0 0,.int .i64 0] 30);have hA:Bl.At U w.heap.size h:=k0;have hZ:Bl.At U (w.heap.size+1) Bl.iy:=k1;have HA:=Lh hA;have HZ:=Lh hZ;have HB:=Lh hB;have HS:Hid (U.heap.size=w.heap.size+2):=Lh hs;clear hL hC hR k0 k1 hB hs hZ;unfold Bl.Sv.val Bl.sl;go_enter Tryz.func5,Tryz.ntmps5;go_wp2_with (first | ((with_reducible apply Bl.aI hA);rfl;rfl;rfl));clear hU hA;refine (nI s h U U ah (HL.out.below HB.out)).mono ?_;rintro e w1 ⟨hcase,b1⟩;rcases hcase with ⟨_,rfl⟩ | ⟨hno,rfl⟩
 rotate_left
 · exact absurd HR.out hno
 have HA1:=Lh (HA.out.below b1);have HZ1:=Lh (HZ.out.below b1);have HB1:=Lh (aj HB.out b1);have Es:Hid (w.heap.size+2<=w1.heap.size):=Lh (by have:=b1.size;have:=HS.out;omega);clear b1 HA HZ;have hmk:=Rp.make n (by omega);have hbl:=Rp.aZ w1 n;have hb2:Below w1.heap.size w1 (w1.alloc (.cells (Rp.zeros n) 43)):=ah.alloc (ac _) _;have SK:Hid (Bl.Pl w (w1.alloc (.cells (Rp.zeros n) 43)) w1.heap.size s h (List.replicate n Rp.zero)):=Lh ⟨aj HB1.out hb2,HA1.out.below hb2,HZ1.out.below hb2,(HL.out.lp.below (aj HB1.out hb2)).mono fun b hb=>.inl hb,hbl,Es.out⟩;obtain ⟨W,hW⟩:∃ W,w1.alloc (.cells (Rp.zeros n) 43)=W:=⟨_,rfl⟩;rw [hW] at SK;clear hbl hb2 HA1 HZ1 HB1 Es;go_wp2_with fail;clear hmk hW;obtain ⟨g,hg⟩:∃ g,w1.heap.size=g:=⟨_,rfl⟩;rw [hg] at SK;rw [hg];clear hg
 go_loopw [8,9,17] (fun _ _ j wr=>∃ (k:Nat) (hc:Bl.Sv),k<=n/\j=.int .i64 k/\Hid (Bl.Pl w wr g (Bl.play s (cs.take k)).1 hc ((Bl.play s (cs.take k)).2++List.replicate (n - k) Rp.zero))/\Hid (∀ r∈(Bl.play s (cs.take k)).2,Rp.Short r)) (fun _ _ j _=>n - (intOf j).toNat)
 case atStart=>exact ⟨0,h,by omega,rfl,SK,Lh (fun _ h=>by cases h)⟩
 case round =>
  clear SK;rename World=>wz
  obtain ⟨k,hc,hk,rfl,HP,bT⟩:=hrel;have Ab:=Lh (Bl.Right.IQ (l:=cs.take k) HR.out);have SL:Hid ((Bl.play s (cs.take k)).2.length=k):=Lh (by rw [Bl.zi,List.length_take];have:=HNc.out;omega);by_cases hlt:k < n
  ·
   obtain ⟨b,off,rfl⟩:=XG.out.ls.at (by omega);have hkl:k < rs.length:=HN.out▸hlt;have hkc:k < cs.length:=HNc.out▸hlt;have hrow:=(XG.out.ls.row k hkl).below HP.out.dx;have wT:=Lh (XG.out.ls.short _ (ae hkl));have HI:=Lh (XG.out.each.each k hkl);have p9:=Lh (Bl.OI (s:=s) hkc);obtain ⟨r,hr⟩:∃ r,rs[k]=r:=⟨_,rfl⟩;obtain ⟨c,hc'⟩:∃ c,cs[k]=c:=⟨_,rfl⟩;rw [hr] at hrow wT HI;rw [hc'] at HI p9;obtain ⟨t,ht⟩:∃ t,(Bl.play s (cs.take k)).1=t:=⟨_,rfl⟩;obtain ⟨A,hAA⟩:∃ A,(Bl.play s (cs.take k)).2=A:=⟨_,rfl⟩;rw [ht] at HP p9 Ab;rw [hAA] at HP p9 bT SL;clear hr hc' ht hAA;have hb3:=Ca.aC wz r;have hP3:=HP.out.below hb3;have HP3:=Lh hP3;have hA3:=hP3.var;have V6:=Ca.dO wz r;have HI3:=Lh (HI.out.below (aj HP.out.dx hb3));clear hb3 hP3 HP;go_wp2_with (first | ((with_reducible apply Ca.aI hrow);rfl;rfl;rfl)|((with_reducible apply Ca.aQ (r:=r) (g:=wz.heap.size));rfl;rfl;rfl;rfl;rfl;rfl)|((with_reducible apply Bl.aI hA3);rfl;rfl;rfl)|((with_reducible apply Ca.kE V6);rfl;rfl;rfl));refine (Ka (fun b=>b < w.heap.size\/g < b) t hc r c (Ca.box wz r) HP3.out.lp HI3.out wT.out Ab.out).mono ?_;rintro e w4 ⟨h',rfl,hL4,b4⟩;have hP4:=HP3.out.below b4;have hV4:=hP4.var;have HSq:=Lh (Bl.Hg (c:=c) Ab.out HP3.out.lp.av.short HP3.out.lp.book.short HP3.out.lp.ak.short);have lC:Hid (k < (A++List.replicate (n - k) Rp.zero).length):=Lh (by rw [ag,List.length_replicate,SL.out];omega);have AJ:Hid (Bl.Lp (fun b=>b < w.heap.size\/g < b) w4 h' (Bl.apply t c).1):=Lh (hL4.mono fun b z=>z.elim id fun y=>.inr (by have:=HP3.out.blk.lt;omega));obtain ⟨q,hq⟩:∃ q,(Bl.apply t c).2=q:=⟨_,rfl⟩;rw [hq] at p9 HSq;rw [hq];have HNx:=Lh (hP4.next AJ.out k lC.out q);have hBl:=hP4.laid h';have hRk:=hBl.row k lC.out;have f0:=hBl.frozen (k*3);have f1:=hBl.frozen (k*3+1);have f2:=hBl.frozen (k*3+2)
   have HEq:Hid ((A++List.replicate (n - k) Rp.zero).set k q=A++[q]++List.replicate (n - (k+1)) Rp.zero):=Lh (by
    have h1:=Bl.TN A q Rp.zero (n - (k+1));rw [SL.out] at h1;rw [show n - k=n - (k+1)+1 by omega];exact h1)
   obtain ⟨r0,r1,r2⟩:=hRk;clear hq hP4 b4 hL4 hA3 V6 hrow hBl;unfold Rp.val;go_wp2_with (first | ((with_reducible apply Bl.aU (h:=h') hV4);rfl;rfl;rfl;rfl));go_roundw
   case rel =>
    refine ⟨k+1,h',by omega,by go_num,Lh ?_,Lh ?_⟩
    ·
     rw [p9.out,<- HEq.out];exact HNx.out
    ·
     rw [p9.out];intro x hx;rcases List.mem_append.1 hx with h | h
     · exact bT.out x h
     ·
      rw [List.mem_singleton.1 h];exact HSq.out
   case measure=>simp [intOf];omega
  ·
   obtain rfl:k=n:=by omega
   have e0:cs.take k=cs:=List.take_of_length_le (by have:=HNc.out;omega);have e1:k - k=0:=Nat.sub_self k;rw [e0] at HP bT Ab SL;rw [e1,List.replicate_zero,List.append_nil] at HP;clear e0 e1;have hA3:=HP.out.var;go_wp2_with (first | ((with_reducible apply Bl.aI hA3);rfl;rfl;rfl));refine (NH (Bl.play s cs).1 hc wz HP.out.lp.lies Ab.out.fw).mono ?_;rintro e w5 ⟨h5,rfl,l5,b5⟩;have XK:=HP.out.zr.below b5;have HZ5:=Lh XK;have tZ:=Lh (aj HP.out.dx b5);have HK5:=Lh (HP.out.blk.below b5);have OY:=Lh l5;have HLo:Hid (w.heap.size+2<=g/\g < wz.heap.size):=Lh ⟨HP.out.lo,HP.out.blk.lt⟩;clear l5 b5 hA3;go_wp2_with (first | ((with_reducible apply Bl.aU (h:=h5) XK);rfl;rfl;rfl;rfl));refine bodyPost_ret (Bl.rP Tryz.results5 rfl rfl (HZ5.out.lay _)) rfl ⟨h5,g,?_,?_,?_,?_,bT.out,Bl.dM tZ.out (by omega) _⟩
   ·
    rw [<- HNc.out];rfl
   ·
    have:=HLo.out;exact ((OY.out.mono (by omega:w.heap.size+2<=wz.heap.size+2)).kp (Bl.Dv _ (by omega) _)).mono (by omega)
   · exact (setRow_other _ _ _ _ (by have:=HLo.out;omega)).trans HK5.out
   ·
    have:=HLo.out;omega
open Mem Pk Cm
theorem Kc (bs:List UInt8) (ao:Option Addr) (m cap:Nat) (w:World) (hL:By.Ls w ao m cap bs) (hm:m<=140737488355328) :
  Calls Tryz.prog 18 #[.slice ao m cap] w fun e w'=>(∃ p bo,e=.returned (.pointer (some ⟨p,0,none⟩))/\w.heap.size<=p/\Rd w' p bo m m bs ⟨0,0⟩)/\Below w.heap.size w w':=by
 have hmk:=By.make m (by omega);have hb0:=By.aZ w m;have hB1:=(Below.refl w.heap.size w).alloc (ac _) (.cells (By.zeros m) 5);obtain ⟨W1,hcp,hblk,hbel,hsz⟩:=By.copy (w.alloc (.cells (By.zeros m) 5)) w.heap.size 0 [] [] m ao m cap bs (by simpa using hb0) rfl hL.len (hL.below hB1).seg (some ⟨w.heap.size,0,none⟩) (fun _=>rfl);rw [List.length_nil,Nat.add_zero] at hcp;rw [List.nil_append,List.append_nil] at hblk;have HB1:=Lh (hbel _ _ hB1 (ac _));have gV:=Lh hblk;have HLen:=Lh hL.len;have hcap:=hL.reach;have hs1:W1.heap.size=w.heap.size+1:=by rw [hsz];simp
 clear hL hb0 hblk hbel hB1 hsz;go_enter Tryz.func18,Tryz.ntmps18;go_wp2;go_ret;have bx:Below W1.heap.size W1 (W1.alloc (.cells #[.slice (some ⟨w.heap.size,0,none⟩) m m,.int .i64 0,.int .i64 0] 112)):=ah.alloc (ac _) _;have hls:=(gV.out.ls (by rw [<- HLen.out];omega)).below bx;rw [<- HLen.out] at hls;refine ⟨⟨w.heap.size+1,some ⟨w.heap.size,0,none⟩,rfl,by omega,?_⟩,aj HB1.out bx⟩;rw [<- hs1];exact ⟨by simp [go_sem],by simp [go_sem],by simp [go_sem],fun o=>by simp [go_sem],hls,fun b off e=>by cases e;omega,by show 0<=m;omega⟩
theorem bI.LQ {p:Nat} (h:gF w p u):bI (fun b=>b=p) w u:=⟨h.size,fun b hb hq=>h.block b hb hq,fun w0 a c=>h.below w0 a (c p rfl)⟩
def Im.fin (bs:List UInt8):Int:=(ql bs (Im.fI bs ⟨0,0⟩).2).1
def Im.Told (bs:List UInt8) (t:Bl.St):Prop:=Im.fin bs=0/\Im.fill (Im.fI bs ⟨0,0⟩).1=some t/\Bl.Right t
def Im.xU (bs:List UInt8):Int:=if Im.fin bs=0 then 4 else Im.fin bs
def Im.GetE (w0 w:World) (bs:List UInt8) (e:Ending) (w':World):Prop :=
 ((∃ h t,e=.returned (.tuple #[Bl.Sv.val h,.int .i64 0])/\Im.Told bs t/\Bl.Lp (fun b=>w.heap.size < b) w' h t)\/(e=.returned (.tuple #[Bl.iy.val,.int .i64 (Im.xU bs)])/\Im.xU bs≠0/\∀ t,¬ Im.Told bs t))/\Below w0.heap.size w0 w'
theorem Ep (bs:List UInt8) (ao:Option Addr) (m cap:Nat) (w0 w:World) (hw:Below w0.heap.size w0 w) (hL:By.Ls w ao m cap bs) (hm:m<=140737488355328) :
  Calls Tryz.prog 8 #[.slice ao m cap] w (Im.GetE w0 w bs):=by
 have HW:=Lh hw;have HL:=Lh hL;obtain ⟨U,hU⟩:∃ U,w.alloc (.cells #[.slice none 0 0,.slice none 0 0,.slice none 0 0,.slice none 0 0,.slice none 0 0,.int .i64 0] 30)=U:=⟨_,rfl⟩;obtain ⟨hB,k0,hs⟩:=Bl.Ua w (.cells #[.slice none 0 0,.slice none 0 0,.slice none 0 0,.slice none 0 0,.slice none 0 0,.int .i64 0] 30);rw [hU] at hB k0 hs;have hZ:Bl.At U w.heap.size Bl.iy:=k0;have HZ:=Lh hZ;have HB:=Lh hB;have HS:=Lh hs;clear k0 hs hB hw hL hZ;go_enter Tryz.func8,Tryz.ntmps8;go_wp2_with fail;clear hU;refine (Kc bs ao m cap U (HL.out.below HB.out) hm).mono ?_;rintro e w1 ⟨⟨p,bo,rfl,hp,hR⟩,b1⟩;have HP:Hid (w.heap.size+1<=p):=Lh (by have:=HS.out;omega);have HR1:=Lh hR;have vX:Hid (p < w1.heap.size):=Lh (aH hR.c0);have HB1:=Lh (aj HB.out b1);have HZ1:=Lh (HZ.out.below b1);clear b1 hp hR;go_wp2_with fail;refine (NJ p bo m m bs ⟨0,0⟩ w1 HR1.out).mono ?_;rintro e w2 ⟨h,rfl,_,⟨B1,B2,B3,B4,rs,rn⟩,r2,k2⟩;have HZ2:=Lh (Im.At.keep HZ1.out (bI.LQ k2) (by have:=HP.out;omega));have HB2:=Lh (k2.below w HB1.out (by have:=HP.out;omega));have hbx:Below w2.heap.size w2 (Bl.box w2 h):=ah.alloc (ac _) _;have HR3:=Lh (r2.below hbx);have HRn3:=Lh (rn.below hbx);have HZ3:=Lh (HZ2.out.below hbx);have HB3:=Lh (aj HB2.out hbx);have JR:Hid (Bl.At (Bl.box w2 h) w2.heap.size h):=Lh (heap_alloc_new w2 _);have HQ:Hid (B4<=w2.heap.size):=Lh rn.Y2;have HQw:Hid (w1.heap.size<=w2.heap.size):=Lh k2.size;obtain ⟨q,hq⟩:∃ q,w2.heap.size=q:=⟨_,rfl⟩;obtain ⟨W3,hW3⟩:∃ W3,Bl.box w2 h=W3:=⟨_,rfl⟩;rw [hW3] at HR3 HRn3 HZ3 HB3 JR;rw [hq] at JR HQ HQw;have Uc:=Lh hW3;have HSq:=Lh hq;clear rn r2 k2 hbx hW3 hq;go_wp2_with (first | ((with_reducible apply Bl.aQ (h:=h) (g:=w2.heap.size));rfl;rfl;rfl;rfl;rfl;rfl));rw [Uc.out,HSq.out];clear Uc HSq;refine (Yg p bo m m bs _ W3 HR3.out).mono ?_;rintro e w4 ⟨rfl,_,k4⟩;have HRn4:=Lh (HRn3.out.keep (bI.LQ k4) (.inl (by have:=vX.out;omega)));have HZ4:=Lh (Im.At.keep HZ3.out (bI.LQ k4) (by have:=HP.out;omega));have JX:=Lh (Im.At.keep JR.out (bI.LQ k4) (by have:=vX.out;have:=HQw.out;omega));have pR:=Lh (k4.below w HB3.out (by have:=HP.out;omega));clear k4;obtain ⟨E,hE⟩:∃ E,(ql bs (Im.fI bs ⟨0,0⟩).2).1=E:=⟨_,rfl⟩;have HE:Hid (Im.fin bs=E):=Lh hE;rw [hE];clear hE;by_cases hE0:E=0
 ·
  subst hE0;have Ke:Hid (Im.xU bs=4):=Lh (ab HE.out);go_wp2_with fail;refine (J5 q JX.out HRn4.out (Im.RY bs ⟨0,0⟩) (.inr HQ.out)).mono ?_;rintro e w5 ⟨h5,k5⟩;have HZ5:=Lh (Im.At.keep HZ4.out k5 (by have:=HQw.out;have:=vX.out;have:=HP.out;omega));have tZ:=Lh (k5.below w pR.out fun b hb=>by have:=HQw.out;have:=vX.out;have:=HP.out;omega);clear k5;rcases h5 with ⟨t,h',rfl,hf,a5,lp⟩ | ⟨rfl,hf⟩
  ·
   have HF:=Lh hf;have HLp:=Lh lp;have Wz:=Lh a5;obtain ⟨x0,x1,x2,x3,x4,x5⟩:=a5.cells;clear hf lp a5;go_wp2_with fail;refine (nI t h' w5 w5 ah HLp.out.lies).mono ?_;rintro e w6 ⟨hcase,b6⟩;have HZ6:=Lh (HZ5.out.below b6);have DU:=Lh (aj tZ.out b6);have HA6:=Lh (Wz.out.below b6);have YZ:=Lh (HLp.out.below b6);clear b6 x0 x1 x2 x3 x4 x5;rcases hcase with ⟨hR,rfl⟩ | ⟨hN,rfl⟩
   ·
    have HTold:Hid (Im.Told bs t):=Lh ⟨HE.out,HF.out,hR⟩;clear hR;have XI:=HA6.out;have Y0:=HZ6.out;go_wp2_with (first | ((with_reducible apply Bl.aI XI);rfl;rfl;rfl)|((with_reducible apply Bl.aU (h:=h') Y0);rfl;rfl;rfl;rfl));refine bodyPost_ret (Bl.rP Tryz.results8 rfl rfl (Y0.lay _)) rfl ⟨.inl ⟨h',t,rfl,HTold.out,?_⟩,aj HW.out (Bl.dM DU.out (ac _) _)⟩;exact (YZ.out.mono (Q:=fun b=>w.heap.size < b) fun b hb=>by have:=hb.1;have:=vX.out;have:=HP.out;omega).kp (jN.row w6 (by omega) _)
   ·
    have cK:Hid (∀ t',¬ Im.Told bs t'):=Lh fun t' z=>hN (by
     have h1:=z.2.1;rw [HF.out,Option.some.injEq] at h1;rw [h1];exact z.2.2)
    clear hN;have Y0:=HZ6.out;go_wp2_with (first | ((with_reducible apply Bl.aU (h:=Bl.iy) Y0);rfl;rfl;rfl;rfl));exact bodyPost_ret (Bl.rP Tryz.results8 rfl rfl (Y0.lay _)) rfl ⟨.inr ⟨by rw [Ke.out];rfl,by rw [Ke.out];decide,cK.out⟩,aj HW.out (Bl.dM DU.out (ac _) _)⟩
  ·
   have cK:Hid (∀ t',¬ Im.Told bs t'):=Lh fun t' z=>by
    have h1:=z.2.1;rw [hf] at h1;cases h1
   clear hf;have XK:=HZ5.out;go_wp2_with (first | ((with_reducible apply Bl.aU (h:=Bl.iy) XK);rfl;rfl;rfl;rfl));exact bodyPost_ret (Bl.rP Tryz.results8 rfl rfl (XK.lay _)) rfl ⟨.inr ⟨by rw [Ke.out];rfl,by rw [Ke.out];decide,cK.out⟩,aj HW.out (Bl.dM tZ.out (ac _) _)⟩
 ·
  have Ke:Hid (Im.xU bs=E):=Lh ((aa (by rw [HE.out];exact hE0)).trans HE.out);have cK:Hid (∀ t',¬ Im.Told bs t'):=Lh fun t' z=>hE0 (HE.out.symm.trans z.1)
  have Jq:=Lh hE0;have qe:(E != 0)=true:=bne_iff_ne.2 hE0;have hZ4:=HZ4.out;clear hE0;go_wp2_with (first | ((with_reducible apply Bl.aU (h:=Bl.iy) hZ4);rfl;rfl;rfl;rfl));exact bodyPost_ret (Bl.rP Tryz.results8 rfl rfl (hZ4.lay _)) rfl ⟨.inr ⟨by rw [Ke.out];rfl,by rw [Ke.out];exact Jq.out,cK.out⟩,aj HW.out (Bl.dM pR.out (ac _) _)⟩
end Go.Proofs.YtpfdnemaaeolcaaGreat
namespace Go.Proofs.YtpfdnemaaeolcaaGreat.Im
open Pk Cm Bl
theorem OL {s:Bl.St} (h:StO s):Raw (strip s):=by
 refine ⟨h.tab,⟨by show (s.av.map Ad).length<=8;rw [List.length_map];exact h.av.1,fun r hr=>?_⟩,⟨by show (s.post.map eB).length<=40;rw [List.length_map];exact h.post.1,fun p hp=>?_⟩,h.ak,rfl,h.next⟩
 ·
  obtain ⟨q,hq,rfl⟩:=List.mem_map.1 hr;exact ⟨(h.av.2 q hq).1,(h.av.2 q hq).2,rfl⟩
 ·
  obtain ⟨q,hq,rfl⟩:=List.mem_map.1 hp;have o:=h.post.2 q hq;refine ⟨o.av,o.day,o.bf,o.aY,⟨by show (q.tot.parts.map jq).length<=12;rw [List.length_map];exact o.few,fun x hx=>?_⟩,rfl,rfl,rfl,rfl,rfl⟩;obtain ⟨y,hy,rfl⟩:=List.mem_map.1 hx;exact ⟨(o.parts y hy).1,(o.parts y hy).2.1,(o.parts y hy).2.2,rfl⟩
theorem rem_0 (bs:List UInt8):nD bs s0 bs:=⟨rfl,rfl⟩
theorem Hl {s:Bl.St} (h:StO s) (r:List UInt8):(fI (xQ s++r) s0).1=strip s/\nD (xQ s++r) (fI (xQ s++r) s0).2 r:=by
 have hr:nD (xQ s++r) s0 (xQ (strip s)++r):=by rw [Ch];exact rem_0 _
 exact MK (OL h) hr
structure N24 (s:Bl.St):Prop where
 tab:∀ r∈s.tab,r.cat.size<=24
 av:∀ r∈s.av,r.name.size<=24
 post:∀ p∈s.post,p.av.size<=24/\p.bf.size<=24/\p.tot.parts.length<=12/\∀ x∈p.tot.parts,x.cat.size<=24
theorem n24 {s:Bl.St} (hR:Right s):N24 s:=by
 have h1:=(Vt.gW _).1 hR.tab;have h2:=(Se.aJ _).1 hR.av
 have Tv:∀ p∈s.post,p.av.size<=24:=fun p hp=>by
  obtain ⟨r,hr,e⟩:=Se.jR.1 (hR.has p hp);rw [<- e];exact nA (Se.bL.1 (h2.2.1 r hr)).1
 refine ⟨fun r hr=>nA (Vt.oH.1 (h1.2.1 r hr)).1,fun r hr=>nA (Se.bL.1 (h2.2.1 r hr)).1,fun p hp=>⟨Tv p hp,?_,(hR.tot p hp).few,fun x hx=>nA ((hR.tot p hp).each x hx).1⟩⟩;obtain ⟨i,hi,e⟩:=List.getElem_of_mem hp;by_cases o:Own p
 ·
  rw [o.1]
  decide
 ·
  obtain ⟨_,k,hk,ht,_⟩:=(hR.link i hi).of (by rw [e];exact o);rw [e] at ht;rw [ht.1];exact Tv _ (ae (show k < s.post.length by omega))
theorem nm_1 {n:Nat} (h:n < 64):(nm (n:Int)).length=1:=by
 have e:zz (n:Int)=2*n:=by
  unfold zz;rw [aa (by omega)];omega
 unfold nm vb;rw [e,uP (by omega)];rfl
theorem Ho {c:ByteArray} (h:c.size<=24):(tx c).length<=25:=by
 unfold tx;rw [ag,nm_1 (by omega)];have e:(txt c).length=c.size:=by unfold txt;rw [Array.length_toList];rfl
 omega
theorem WZ {s:Bl.St} (hR:Right s):(xQ s).length<=32768/\4 < (xQ s).length:=by
 have hn:=n24 hR;have h1:=(Vt.gW _).1 hR.tab;have h2:=(Se.aJ _).1 hR.av
 have h3:s.ak.length<=8:=by
  have:=hR.ak;unfold Sp.aA at this;rw [Bool.and_eq_true] at this;exact of_decide_eq_true this.1
 have a1:(bR gG s.tab).length<=10+24*65:=jY h1.1 fun r hr=>by
  unfold gG;simp only [ag];have:=Ho (hn.tab r hr);have:=LJ r.y r.m r.d;have:=bG r.bp;omega
 have a2:(bR iY s.av).length<=10+8*45:=jY h2.1 fun r hr=>by
  unfold iY KO;simp only [ag];have:=Ho (hn.av r hr);have:=bG r.limit;have:=bG (if r.shut=true then 1 else 0);omega
 have a3:(bR dS s.post).length<=10+40*640:=jY hR.few fun p hp=>by
  obtain ⟨q1,q2,q3,q4⟩:=hn.post p hp
  have q5:(bR gH p.tot.parts).length<=10+12*45:=jY q3 fun x hx=>by
   unfold gH;simp only [ag];have:=Ho (q4 x hx);have:=bG x.bp;have:=bG x.net;omega
  unfold dS;simp only [ag];have:=Ho q1;have:=LJ p.y p.m p.d;have:=Ho q2;have:=bG p.aY;omega
 have a4:(bR iG s.ak).length<=10+8*50:=jY h3 fun x hx=>by
  unfold iG;simp only [ag];have:=bG x.id;have:=bG x.last;have:=bG x.why;have:=bG x.num;have:=bG x.au;omega
 have a5:=bG s.next
 have b:∀ {α :Type} (f: α ->List UInt8) (l:List α),1<=(bR f l).length:=fun f l=>by
  unfold bR;rw [ag];have:=yK (l.length:Int);omega
 have b1:=b gG s.tab;have b2:=b iY s.av;have b3:=b dS s.post;have b4:=b iG s.ak;have b5:=yK s.next;unfold xQ;simp only [ag];omega
end Go.Proofs.YtpfdnemaaeolcaaGreat.Im
namespace Go.Proofs.YtpfdnemaaeolcaaGreat
open Go.RowKit
open Mem Pk Cm
theorem Im.W9 {st:St} (h:nD bs st []):(ql bs st).1=0:=by
 have h1:=List.drop_eq_nil_iff.1 h.2;unfold ql;rw [aa (fun z=>by omega)];exact h.1
theorem Im.TP {r:List UInt8} {st:St} (h:nD bs st r) (hr:r≠[]):(ql bs st).1=5:=by
 have hl:st.at' < bs.length:=by
  rcases Nat.lt_or_ge st.at' bs.length with k | k
  · exact k
  · exact absurd (h.2.symm.trans (List.drop_eq_nil_of_le k)) hr
 unfold ql;rw [ab ⟨h.1,hl⟩]
theorem Im.Xa {st:St} (h:(ql bs st).1=0):nD bs st []:=by
 unfold ql at h;split at h
 · cases h
 ·
  rename_i k;refine ⟨h,List.drop_eq_nil_of_le ?_⟩;have h2:st.err=0:=h;rcases Nat.lt_or_ge st.at' bs.length with z | z
  · exact absurd ⟨h2,z⟩ k
  · exact z
theorem Im.Hq {s:Bl.St} (hR:Bl.Right s) (hO:Im.StO s):Im.Told (Im.xQ s) s:=by
 have h:=Im.Hl hO [];rw [List.append_nil] at h;refine ⟨Im.W9 h.2,?_,hR⟩;have e:(Im.fI (Im.xQ s) ⟨0,0⟩).1=Im.strip s:=h.1;rw [e];exact Im.JB hR
theorem Im.TQ {s t:Bl.St} (h:Im.Told bs s) (k:Im.Told bs t):s=t:=Option.some.inj (h.2.1.symm.trans k.2.1)
theorem Im.Av {t:Bl.St} (h:Im.Told bs t):Im.xQ t=bs:=by
 obtain ⟨h1,h2⟩:=Im.ML (Im.Xa h.1);rw [List.append_nil] at h1;rw [Im.JD h2 h.2.1];exact h1.2.symm
theorem Im.wW:Im.xQ Bl.new=[0,0,0,0,2]:=by decide +kernel
theorem Im.TS:Im.StO Bl.new:=Im.Tq (w:=default) Bl.nN (Bl.zu _)
theorem Im.TT:Im.Told [0,0,0,0,2] Bl.new:=by
 rw [<- Im.wW];exact Im.Hq Bl.nN Im.TS
theorem Im.TU:Im.xU [0,0,0,0,2,0]=5/\∀ t,¬ Im.Told [0,0,0,0,2,0] t:=by
 have h:=Im.Hl Im.TS [0];rw [Im.wW] at h;have e:Im.fin [0,0,0,0,2,0]=5:=Im.TP h.2 (by simp);refine ⟨?_,fun t z=>?_⟩
 ·
  unfold Im.xU;rw [e];rfl
 ·
  have:=z.1;rw [e] at this;cases this
theorem Im.get_none:Im.xU []=3/\∀ t,¬ Im.Told [] t:=by
 have e:Im.fin []=3:=by decide +kernel
 refine ⟨?_,fun t z=>?_⟩
 ·
  unfold Im.xU;rw [e];rfl
 ·
  have:=z.1;rw [e] at this;cases this
theorem Im.TV:Im.xU [0,0,0,0,0]=4/\∀ t,¬ Im.Told [0,0,0,0,0] t:=by
 have e:Im.fin [0,0,0,0,0]=0:=by decide +kernel
 refine ⟨by unfold Im.xU;rw [e];rfl,fun t z=>?_⟩;have h1:=Im.Av z;have h2:=z.2.2.next.1
 have h3:t.next=0:=by
  have h4:=z.2.1;unfold Im.fill at h4;split at h4
  ·
   split at h4
   ·
    rw [Option.some.injEq] at h4;rw [<- h4];show (Im.fI [0,0,0,0,0] ⟨0,0⟩).1.next=0
    decide +kernel
   · cases h4
  · cases h4
 omega
theorem xP (bs:List UInt8) (t:Bl.St) (ao:Option Addr) (m cap:Nat) (w0 w:World) (hw:Below w0.heap.size w0 w) (hL:By.Ls w ao m cap bs) (hm:m<=140737488355328) (hT:Im.Told bs t) :
  Calls Tryz.prog 8 #[.slice ao m cap] w fun e w'=>∃ h,e=.returned (.tuple #[Bl.Sv.val h,.int .i64 0])/\Bl.Lp (fun b=>w.heap.size < b) w' h t/\Below w0.heap.size w0 w':=by
 refine (Ep bs ao m cap w0 w hw hL hm).mono ?_;rintro e w' ⟨h1,b⟩;rcases h1 with ⟨h,t',rfl,h2,h3⟩ | ⟨_,_,h2⟩
 ·
  rw [Im.TQ h2 hT] at h3;exact ⟨h,rfl,h3,b⟩
 · exact absurd hT (h2 t)
theorem uK (bs:List UInt8) (E:Int) (ao:Option Addr) (m cap:Nat) (w0 w:World) (hw:Below w0.heap.size w0 w) (hL:By.Ls w ao m cap bs) (hm:m<=140737488355328) (hT:Im.xU bs=E/\∀ t,¬ Im.Told bs t) :
  Calls Tryz.prog 8 #[.slice ao m cap] w fun e w'=>e=.returned (.tuple #[Bl.iy.val,.int .i64 E])/\Below w0.heap.size w0 w':=by
 refine (Ep bs ao m cap w0 w hw hL hm).mono ?_;rintro e w' ⟨h1,b⟩;rcases h1 with ⟨h,t',rfl,h2,h3⟩ | ⟨rfl,_,h2⟩
 · exact absurd h2 (hT.2 t')
 ·
  rw [hT.1];exact ⟨rfl,b⟩
open Mem
theorem Aw (s:Bl.St) (cs:List Bl.Cl) (h:Bl.Sv) (rs:List Ca.T) (ao:Option Addr) (n cap:Nat) (w0 w:World) (hw:Below w0.heap.size w0 w) (hL:Bl.kW w h s) (hC:Bl.Cs w ao n cap rs cs) (hR:Bl.Right s) (hl:∀ c∈cs,c.cmd.lines.length<=15) (hn:n<=60) :
  Calls Tryz.prog 5 #[h.val,.slice ao n cap] w (Bl.Xp w0 w s cs) :=
 (OJ s cs h rs ao n cap w hL hC hR (by omega)).mono fun e w' q=>q.full hw (by have h1:=hC.ls.len;have h2:=hC.each.len;omega)
end Go.Proofs.YtpfdnemaaeolcaaGreat
namespace Go.Proofs.YtpfdnemaaeolcaaGreat.By
open Go.RowKit
open Mem
theorem OM {xs ys:List UInt8} {k:Nat} (h:xs.take k=ys.take k) (ha:k < xs.length) (hb:k < ys.length) (e:xs[k]=ys[k]):xs.take (k+1)=ys.take (k+1):=by
 rw [List.take_succ_eq_append_getElem ha,List.take_succ_eq_append_getElem hb,h,e]
theorem iI (xs ys:List UInt8) (ao bo:Option Addr) (n m ca cb:Nat) (w:World) (hA:Ls w ao n ca xs) (hB:Ls w bo m cb ys) :
  Calls Tryz.prog 12 #[.slice ao n ca,.slice bo m cb] w fun e w'=>e=.returned (.bool (decide (xs=ys)))/\Below w.heap.size w w':=by
 have HA:=Lh hA;have HB:=Lh hB;have HN:=Lh hA.len;have HM:=Lh hB.len;have hca:=hA.reach;have hfa:=hA.fits;have hcb:=hB.reach;have OQ:=hB.fits;clear hA hB;by_cases hnm:n=m
 ·
  subst hnm;have hne:((n:Int) != (n:Int))=false:=bne_self_eq_false _;go_enter Tryz.func12,Tryz.ntmps12;go_wp2
  go_loopw [5] (fun i wr=>∃ k:Nat,k<=n/\i=.int .i64 k/\Hid (xs.take k=ys.take k)/\Hid (Below w.heap.size w wr)) (fun i _=>n - (intOf i).toNat)
  case atStart=>exact ⟨0,Nat.zero_le _,rfl,Lh rfl,Lh ah⟩
  case round =>
   obtain ⟨k,hk,rfl,HT,iT⟩:=hrel;by_cases hlt:k < n
   ·
    obtain ⟨a,oa,rfl⟩:=HA.out.at (by omega);obtain ⟨b,ob,rfl⟩:=HB.out.at (by omega);have hka:k < xs.length:=HN.out▸hlt;have hkb:k < ys.length:=HM.out▸hlt;have c1:=HA.out.row k hka;have c2:=HB.out.row k hkb;rw [<- (aD iT.out).1 _ _ (aH c1)] at c1;rw [<- (aD iT.out).1 _ _ (aH c2)] at c2;unfold bv at c1 c2;have hlt':(k:Int) < (n:Int):=by omega
    by_cases hxy:xs[k]=ys[k]
    ·
     have HT':Hid (xs.take (k+1)=ys.take (k+1)):=Lh (OM HT.out hka hkb hxy);have hne:((xs[k].toNat:Int) != (ys[k].toNat:Int))=false:=by rw [hxy];simp
     clear hxy;generalize xs[k]=x at *;generalize ys[k]=y at *;go_wp2;go_quiet (fail);go_wp2;go_roundw
     case rel=>exact ⟨k+1,by omega,by go_num,HT',Lh (below_drewN iT.out _)⟩
     case measure=>simp [intOf];omega
    ·
     have hne:((xs[k].toNat:Int) != (ys[k].toNat:Int))=true:=by
      rw [bne_iff_ne];intro h;exact hxy (UInt8.toNat_inj.1 (by omega))
     have HF:Hid (decide (xs=ys)=false):=Lh (by
      rw [decide_eq_false_iff_not];intro h;subst h;exact hxy rfl)
     clear hxy;generalize xs[k]=x at *;generalize ys[k]=y at *;go_wp2;go_quiet (fail);go_wp2;go_ret;exact ⟨by rw [HF.out];rfl,below_drewN iT.out _⟩
   ·
    have HF:Hid (decide (xs=ys)=true):=Lh (by
     rw [decide_eq_true_iff];have h1:=HT.out;have h2:=HN.out;have h3:=HM.out
     rwa [List.take_of_length_le (by omega),List.take_of_length_le (by omega)] at h1)
    go_wp2;go_ret;exact ⟨by rw [HF.out];rfl,iT.out⟩
 ·
  have HF:Hid (decide (xs=ys)=false):=Lh (by
   rw [decide_eq_false_iff_not];intro h;subst h;exact hnm (HN.out.trans HM.out.symm))
  have hne:((n:Int) != (m:Int))=true:=bne_iff_ne.2 (by omega);go_enter Tryz.func12,Tryz.ntmps12;go_wp2;go_ret;exact ⟨by rw [HF.out];rfl,ah⟩
end Go.Proofs.YtpfdnemaaeolcaaGreat.By
namespace Go.Proofs.YtpfdnemaaeolcaaGreat
open Go.RowKit
open Mem Pk Cm
theorem Bl.kW.ZU {v:World} {h:Bl.Sv} (l:Bl.kW w h Bl.new):Bl.kW v h Bl.new:=by
 obtain ⟨rs,h1,h2⟩:=l.post;have e:rs=[]:=List.length_eq_zero_iff.1 h2.len;subst e;exact ⟨⟨l.tab.len,l.tab.fits,l.tab.reach,l.tab.nil,.inl rfl,l.tab.short⟩,⟨l.av.len,l.av.fits,l.av.reach,l.av.nil,.inl rfl,l.av.short⟩,⟨[],⟨h1.len,h1.fits,h1.reach,h1.nil,.inl rfl,h1.short⟩,Bl.qR v⟩,⟨l.book.len,l.book.fits,l.book.reach,l.book.nil,.inl rfl,l.book.short⟩,⟨l.ak.len,l.ak.fits,l.ak.reach,l.ak.nil,.inl rfl,l.ak.short⟩,l.next,l.fit⟩
theorem Im.ls5 (u:World) (a b c d e:UInt8):By.Ls (u.alloc (.cells #[By.bv a,By.bv b,By.bv c,By.bv d,By.bv e] 5)) (some ⟨u.heap.size,0,none⟩) 5 5 [a,b,c,d,e]:=by
 have h:By.Block (u.alloc (.cells #[By.bv a,By.bv b,By.bv c,By.bv d,By.bv e] 5)) u.heap.size [a,b,c,d,e]:=heap_alloc_new u _;exact h.ls (by simp)
theorem By.same_eq (xs:List UInt8) (ao bo:Option Addr) (n m ca cb:Nat) (w0 w:World) (hw:Below w0.heap.size w0 w) (hA:By.Ls w ao n ca xs) (hB:By.Ls w bo m cb xs) :
  Calls Tryz.prog 12 #[.slice ao n ca,.slice bo m cb] w fun e w'=>e=.returned (.bool true)/\Below w0.heap.size w0 w' :=
 (By.iI xs xs ao bo n m ca cb w hA hB).mono fun e w' ⟨h1,h2⟩=>⟨by rw [h1,decide_eq_true rfl],aj hw h2⟩
theorem TW (w0 w:World) (hw:Below w0.heap.size w0 w):Calls Tryz.prog 13 #[] w fun e w'=>e=.returned (.bool true)/\Below w0.heap.size w0 w':=by
 have HW:=Lh hw;clear hw;go_enter Tryz.func13,Tryz.ntmps13;go_wp2_with fail;refine (Dy w _ ah).mono ?_;rintro e w1 ⟨h0,rfl,hL0,b1⟩;have XE:=Lh hL0.lies;have HB1:=Lh b1;clear hL0 b1;go_wp2_with fail;refine (En h0 Bl.new w1 w1 ah XE.out).mono ?_;rintro e w2 ⟨h2,b2⟩;have HB2:=Lh (aj HB1.out b2);clear b2;rcases h2 with ⟨_,ao,n,cap,rfl,Ug,_⟩ | ⟨hN,_⟩
 case inr=>exact absurd Bl.nN hN
 rw [Im.wW] at Ug;obtain rfl:n=5:=Ug.len;have hcap:=Ug.reach;have hfit:=Ug.fits;have HLb:=Lh Ug;clear Ug;go_wp2_with fail;refine (xP _ Bl.new ao 5 cap w2 w2 ah HLb.out (by omega) Im.TT).mono ?_;rintro e w3 ⟨h,rfl,lp,b3⟩;have hb4:=Bl.aC w3 h;have pR:=Lh (aj (aj HB2.out b3) hb4);have JX:=Lh (Bl.dY w3 h);have wO:=Lh (lp.lies.below hb4);have AJ:=Lh (HLb.out.below (aj b3 hb4));obtain ⟨W4,hW4⟩:∃ W4,Bl.box w3 h=W4:=⟨_,rfl⟩;rw [hW4] at pR JX wO AJ;have KW:=Lh hW4;clear lp b3 hb4 hW4 HLb;go_wp2_with (first | ((with_reducible apply Bl.aQ (h:=h) (g:=w3.heap.size));rfl;rfl;rfl;rfl;rfl;rfl)|(at_builtin;go_must (refine By.aG (W4.alloc (.cells #[] 5)) rfl (.tmp 18) (.tmp 19) rfl W4.heap.size (.slice (some ⟨W4.heap.size,0,none⟩) 0 0) [] rfl (By.Ou (ac _) (heap_alloc_new W4 _)) ao 5 cap [0,0,0,0,2] rfl rfl AJ.out.nil (AJ.out.below (ah.alloc (ac _) _)).seg (by simp) (by simp) ?_)) | rw [KW.out]);obtain ⟨g,hg⟩:∃ g,w3.heap.size=g:=⟨_,rfl⟩;rw [hg] at JX
 try rw [hg]
 clear KW hg;intro v5 w5 o5 gr5 _;have hb5:Below W4.heap.size W4 w5:=(ah.alloc (ac _) _).grown gr5 (by simp) (fun k e=>by cases e;exact ac _);have tZ:=Lh hb5;have Xr:=Lh o5;clear o5 gr5 hb5;go_wp2_with (at_builtin;go_must (refine By.aG (w5.alloc (.cells #[.int .u8 0] 5)) rfl (.tmp 20) (.tmp 21) rfl W4.heap.size v5 [0,0,0,0,2] rfl (By.bA Xr.out _) (some ⟨w5.heap.size,0,none⟩) 1 1 [0] rfl rfl (fun z=>by cases z) (By.WA (heap_alloc_new w5 _) rfl) (by simp) (by have:=tZ.out.size;simp;omega) ?_));intro v6 w6 o6 gr6 _;have hb6:Below W4.heap.size W4 w6:=(tZ.out.alloc tZ.out.size _).grown gr6 (by have:=tZ.out.size;simp;omega) (By.bK Xr.out);obtain ⟨ao6,cap6,rfl,l6,_⟩:=By.aX o6;have DU:=Lh hb6;have YZ:=Lh l6;clear o6 gr6 hb6 l6 Xr tZ;go_wp2_with fail;refine (uK [0,0,0,0,2,0] 5 ao6 6 cap6 W4 w6 DU.out YZ.out (by omega) Im.TU).mono ?_;rintro e w7 ⟨rfl,b7⟩;have hb8:=Bl.aC w7 Bl.iy;have HB8:=Lh (aj b7 hb8);clear b7 hb8 DU YZ;go_wp2_with (first | ((with_reducible apply Bl.aQ (h:=Bl.iy) (g:=w7.heap.size));rfl;rfl;rfl;rfl;rfl;rfl));generalize Bl.box w7 Bl.iy=W8 at *;refine (uK [] 3 none 0 0 W4 W8 HB8.out (By.dL _) (by omega) Im.get_none).mono ?_;rintro e w9 ⟨rfl,b9⟩;have OO:=Lh (aj b9 (Bl.aC w9 Bl.iy));clear b9 HB8;go_wp2_with (first | ((with_reducible apply Bl.aQ (h:=Bl.iy) (g:=w9.heap.size));rfl;rfl;rfl;rfl;rfl;rfl));generalize Bl.box w9 Bl.iy=W10 at *;refine (uK [0,0,0,0,0] 4 (some ⟨W10.heap.size,0,none⟩) 5 5 W4 _ (aL OO.out _) (Im.ls5 W10 0 0 0 0 0) (by omega) Im.TV).mono ?_;rintro e w11 ⟨rfl,b11⟩;have GQ:=Lh (aj b11 (Bl.aC w11 Bl.iy));clear b11 OO;go_wp2_with (first | ((with_reducible apply Bl.aQ (h:=Bl.iy) (g:=w11.heap.size));rfl;rfl;rfl;rfl;rfl;rfl));generalize Bl.box w11 Bl.iy=X at *;have HAx:=Lh (JX.out.below GQ.out);have Xb:=Lh (wO.out.below GQ.out);have HLy:=Lh (AJ.out.below GQ.out);have oo:=Lh (aj pR.out GQ.out);clear JX wO AJ GQ;have lx:∀ u,Below X.heap.size X u->Below X.heap.size X u/\u.cell? ⟨g,0,none⟩=some (.slice h.tab.ao h.tab.n h.tab.cap)/\u.cell? ⟨g,1,none⟩=some (.slice h.av.ao h.av.n h.av.cap)/\u.cell? ⟨g,2,none⟩=some (.slice h.post.ao h.post.n h.post.cap)/\u.cell? ⟨g,3,none⟩=some (.slice h.book.ao h.book.n h.book.cap)/\u.cell? ⟨g,4,none⟩=some (.slice h.ak.ao h.ak.n h.ak.cap)/\u.cell? ⟨g,5,none⟩=some (.int .i64 h.next):=fun u b=>⟨b,(HAx.out.below b).cells⟩
 obtain ⟨x0,x1,x2,x3,x4,x5⟩:=HAx.out.cells;go_region_held3 (fun u=>Below X.heap.size X u/\u.cell? ⟨g,0,none⟩=some (.slice h.tab.ao h.tab.n h.tab.cap)/\u.cell? ⟨g,1,none⟩=some (.slice h.av.ao h.av.n h.av.cap)/\u.cell? ⟨g,2,none⟩=some (.slice h.post.ao h.post.n h.post.cap)/\u.cell? ⟨g,3,none⟩=some (.slice h.book.ao h.book.n h.book.cap)/\u.cell? ⟨g,4,none⟩=some (.slice h.ak.ao h.ak.n h.ak.cap)/\u.cell? ⟨g,5,none⟩=some (.int .i64 h.next)) (first | with_reducible assumption | (apply lx;repeat (first | with_reducible assumption | with_reducible apply aL | with_reducible apply Below.drew | with_reducible exact ah)) | fail) (first | (go_at_call 12;have AO:=And.left (by assumption);refine (By.same_eq [0,0,0,0,2] ao _ 5 5 cap 5 X _ AO (HLy.out.below AO) (by first | exact Im.ls5 X 0 0 0 0 2 | exact (Im.ls5 X 0 0 0 0 2).below ah.drew | exact Im.ls5 X.drew 0 0 0 0 2 | exact (Im.ls5 X.drew 0 0 0 0 2).below ah.drew)).mono ?_;rintro e u ⟨rfl,b⟩;have sS:=lx _ b;have Ht:=Lh b;clear b AO)|(go_at_call 6;have AO:=And.left (by assumption);refine (Dy X _ AO).mono ?_;rintro e u ⟨hN,rfl,hLN,b⟩;have sS:=lx _ b;have lC:=Lh hLN;have Ht:=Lh b;clear b hLN AO)|(go_at_call 10;have AO:=And.left (by assumption);refine (qU Bl.new h hN X _ AO (Xb.out.below AO) lC.out.lies.ZU).mono ?_;rintro e u ⟨rfl,b⟩;have sS:=lx _ b;have Ht:=Lh b;clear b AO) | fail)
 all_goals (try go_wp2_with fail)
 all_goals go_ret
 all_goals exact ⟨rfl,aj HW.out (aj oo.out (by first | exact Ht.out | exact Ht.out.drew))⟩
open Mem
def FewL (w u:World) (cs0:List Bl.Cl) (N:Nat) (e:Ending) (w':World):Prop:=∃ (ao:Option Addr) (n cap:Nat) (rs:List Ca.T),e=.returned (.slice ao n cap)/\n<=N/\Ca.Ls w' ao n cap rs/\sJ u.heap.size ao n/\Bl.tq w rs (Bl.AX N cs0)/\Below u.heap.size u w'
theorem Ay (rs0:List Ca.T) (cs0:List Bl.Cl) (N:Nat) (ZV:Option Addr) (n0 cap0:Nat) (w u:World) (hC:Bl.Cs w ZV n0 cap0 rs0 cs0) (hu:Below w.heap.size w u) (hN:N<=1000) :
  Calls Tryz.prog 7 #[.slice ZV n0 cap0,.int .i64 N] u (FewL w u cs0 N):=by
 refine (U4 rs0 cs0 N ZV n0 cap0 u (hC.below hu) hN).mono ?_;rintro e w3 ⟨v,rfl,hO,hE,b3⟩
 have hs:∀ r∈(rs0.take N).map Ca.cut,Ca.Short r:=by
  intro r hr;obtain ⟨q,hq,rfl⟩:=List.mem_map.1 hr;exact Ca.MP (hC.ls.short q (List.mem_of_mem_take hq))
 obtain ⟨ao,cap,rfl,Ny,hin⟩:=Ca.aX hO hs;refine ⟨ao,_,cap,_,rfl,?_,Ny,dZ hin,hC.each.few N,b3⟩;rw [List.length_map,List.length_take];omega
def Bl.z:Bl.Sv:=⟨⟨none,0,0⟩,⟨none,0,0⟩,⟨none,0,0⟩,⟨none,0,0⟩,⟨none,0,0⟩,0⟩
theorem ltA (u:World) (a:Obj):u.heap.size < (u.alloc a).heap.size:=by simp
theorem kp6 (u:World) {g:Nat} (hg:g < A) (h:Bl.Sv):Kp A u ((((((u.setCell ⟨g,0,none⟩ (.slice h.tab.ao h.tab.n h.tab.cap)).setCell ⟨g,1,none⟩ (.slice h.av.ao h.av.n h.av.cap)).setCell ⟨g,2,none⟩ (.slice h.post.ao h.post.n h.post.cap)).setCell ⟨g,3,none⟩ (.slice h.book.ao h.book.n h.book.cap)).setCell ⟨g,4,none⟩ (.slice h.ak.ao h.ak.n h.ak.cap)).setCell ⟨g,5,none⟩ (.int .i64 h.next)) :=
 (((((Kp.set u hg 0 _).trans (Kp.set _ hg 1 _)).trans (Kp.set _ hg 2 _)).trans (Kp.set _ hg 3 _)).trans (Kp.set _ hg 4 _)).trans (Kp.set _ hg 5 _)
theorem Xc {w0:World} {g:Nat} (hB:Below w0.heap.size w0 u) (hg:w0.heap.size<=g) (h:Bl.Sv):Below w0.heap.size w0 ((((((u.setCell ⟨g,0,none⟩ (.slice h.tab.ao h.tab.n h.tab.cap)).setCell ⟨g,1,none⟩ (.slice h.av.ao h.av.n h.av.cap)).setCell ⟨g,2,none⟩ (.slice h.post.ao h.post.n h.post.cap)).setCell ⟨g,3,none⟩ (.slice h.book.ao h.book.n h.book.cap)).setCell ⟨g,4,none⟩ (.slice h.ak.ao h.ak.n h.ak.cap)).setCell ⟨g,5,none⟩ (.int .i64 h.next)):=Bl.aW hB hg _ _ _ _ _ _
theorem Bl.oneA {h:Bl.Sv} {s:Bl.St} {ro:Option Addr} {rn rc:Nat} {l:List Rp.T} (x:Bl.lJ A u h s/\Rp.Ls u ro rn rc l/\sJ A ro rn):Bl.At (u.alloc (.cells #[.slice h.tab.ao h.tab.n h.tab.cap,.slice h.av.ao h.av.n h.av.cap,.slice h.post.ao h.post.n h.post.cap,.slice h.book.ao h.book.n h.book.cap,.slice h.ak.ao h.ak.n h.ak.cap,.int .i64 h.next] 30)) u.heap.size h/\Bl.kW (u.alloc (.cells #[.slice h.tab.ao h.tab.n h.tab.cap,.slice h.av.ao h.av.n h.av.cap,.slice h.post.ao h.post.n h.post.cap,.slice h.book.ao h.book.n h.book.cap,.slice h.ak.ao h.ak.n h.ak.cap,.int .i64 h.next] 30)) h s/\Rp.Ls (u.alloc (.cells #[.slice h.tab.ao h.tab.n h.tab.cap,.slice h.av.ao h.av.n h.av.cap,.slice h.post.ao h.post.n h.post.cap,.slice h.book.ao h.book.n h.book.cap,.slice h.ak.ao h.ak.n h.ak.cap,.int .i64 h.next] 30)) ro rn rc l :=
 ⟨Bl.dY u h,x.1.lies.below (Bl.aC u h),x.2.1.below (Bl.aC u h)⟩
theorem Bl.Xd {gt:Nat} {h h0:Bl.Sv} {s:Bl.St} {ro:Option Addr} {rn rc:Nat} {l:List Rp.T} (x:Bl.lJ A u h s/\Rp.Ls u ro rn rc l/\sJ A ro rn) (D:Bl.At u gt h0) (hl:gt < A):Bl.At ((((((u.setCell ⟨gt,0,none⟩ (.slice h.tab.ao h.tab.n h.tab.cap)).setCell ⟨gt,1,none⟩ (.slice h.av.ao h.av.n h.av.cap)).setCell ⟨gt,2,none⟩ (.slice h.post.ao h.post.n h.post.cap)).setCell ⟨gt,3,none⟩ (.slice h.book.ao h.book.n h.book.cap)).setCell ⟨gt,4,none⟩ (.slice h.ak.ao h.ak.n h.ak.cap)).setCell ⟨gt,5,none⟩ (.int .i64 h.next)) gt h/\Bl.kW ((((((u.setCell ⟨gt,0,none⟩ (.slice h.tab.ao h.tab.n h.tab.cap)).setCell ⟨gt,1,none⟩ (.slice h.av.ao h.av.n h.av.cap)).setCell ⟨gt,2,none⟩ (.slice h.post.ao h.post.n h.post.cap)).setCell ⟨gt,3,none⟩ (.slice h.book.ao h.book.n h.book.cap)).setCell ⟨gt,4,none⟩ (.slice h.ak.ao h.ak.n h.ak.cap)).setCell ⟨gt,5,none⟩ (.int .i64 h.next)) h s/\Rp.Ls ((((((u.setCell ⟨gt,0,none⟩ (.slice h.tab.ao h.tab.n h.tab.cap)).setCell ⟨gt,1,none⟩ (.slice h.av.ao h.av.n h.av.cap)).setCell ⟨gt,2,none⟩ (.slice h.post.ao h.post.n h.post.cap)).setCell ⟨gt,3,none⟩ (.slice h.book.ao h.book.n h.book.cap)).setCell ⟨gt,4,none⟩ (.slice h.ak.ao h.ak.n h.ak.cap)).setCell ⟨gt,5,none⟩ (.int .i64 h.next)) ro rn rc l :=
 ⟨D.put h,(x.1.kp (kp6 u hl h)).lies,x.2.1.kp x.2.2 (kp6 u hl h)⟩
theorem Az (rs0:List Ca.T) (cs0:List Bl.Cl) (ZV:Option Addr) (n0 cap0:Nat) (Em:List Ca.T) (cs1:List Bl.Cl) (ao1:Option Addr) (n1 OP:Nat) (bs:List UInt8) (bo:Option Addr) (bn bc:Nat) (w:World) (hC:Bl.Cs w ZV n0 cap0 rs0 cs0) (O1:Bl.Cs w ao1 n1 OP Em cs1) (hBs:By.Ls w bo bn bc bs) (hbn:bn<=140737488351232) :
  Calls Tryz.prog 3 #[.slice ZV n0 cap0,.slice ao1 n1 OP,.slice bo bn bc] w fun e w'=>e=.returned (.bool true)/\Below w.heap.size w w':=by
 have HC:=Lh hC;have iA:=Lh O1;have YP:=Lh hBs;have hbc:=hBs.reach;have hbf:=hBs.fits;clear hC O1 hBs;obtain ⟨S0,hS0⟩:∃ S0,(Bl.play Bl.new (Bl.AX 40 cs0)).1=S0:=⟨_,rfl⟩;have Ab:Hid (Bl.Right S0):=Lh (hS0▸Bl.Right.IQ Bl.nN);obtain ⟨M0,hM0⟩:∃ M0,Bl.AX 15 cs1=M0:=⟨_,rfl⟩;have HFw:Hid (∀ c∈M0,c.cmd.lines.length<=15):=Lh (hM0▸Bl.BA);have JO:=Lh hS0;have HM0:=Lh hM0;clear hS0;go_enter Tryz.func3,Tryz.ntmps3
 go_upto_region 1 with fail
 go_cut [7,8] (fun p l wx=>∃ (gs:Nat) (h:Bl.Sv),p=.pointer (some ⟨gs,0,none⟩)/\Hid (Bl.At wx gs h/\Bl.kW wx h S0)/\Hid (Below w.heap.size w wx))
 case first =>
  go_wp2_with fail;refine (Dy w _ ah).mono ?_;rintro e w1 ⟨h0,rfl,hL0,b1⟩;have XE:=Lh hL0;have HB1:=Lh b1;clear hL0 b1;go_wp2_with fail;refine (Ay rs0 cs0 40 ZV n0 cap0 w _ HC.out HB1.out (by omega)).mono ?_;rintro e w2 ⟨ao,n,cap,rs,rfl,hn40,Ny,_,hE,b2⟩;have wO:=Lh Ny;have HE:=Lh hE;have HB2:=Lh b2;have hcap:=Ny.reach;have hfit:=Ny.fits;clear Ny hE b2;go_wp2_with fail;refine (Aw Bl.new (Bl.AX 40 cs0) h0 rs ao n cap w2 _ ah (XE.out.lies.below HB2.out) ⟨wO.out,HE.out.below (aj HB1.out HB2.out)⟩ Bl.nN Bl.BA (by omega)).mono ?_;rintro e w3 ⟨h,ro,rn,rc,rfl,hL3,_,_,b3⟩;rw [JO.out] at hL3;have HB3:=Lh (aj (aj (aj HB1.out HB2.out) b3) (Bl.aC w3 h));have HZ:=Lh (And.intro (Bl.dY w3 h) (hL3.lies.below (Bl.aC w3 h)));clear hL3 b3 HB1 XE HB2 wO HE;go_wp2_with (first | ((with_reducible apply Bl.aQ (h:=h) (g:=w3.heap.size));rfl;rfl;rfl;rfl;rfl;rfl));go_meet;exact ⟨_,h,rfl,HZ,HB3⟩
 case rest =>
  rename World=>Y
  obtain ⟨gs,hs,rfl,HZs,HBY⟩:=hcut;clear JO;have hAs:=HZs.out.1;go_wp2_with (first | ((with_reducible apply Bl.aI hAs);rfl;rfl;rfl));refine (En hs S0 Y Y ah HZs.out.2).mono ?_;rintro e w2 ⟨h2,b2⟩;rcases h2 with ⟨_,po,pn,pc,rfl,Ug,_⟩ | ⟨hN,_⟩
  case inr=>exact absurd Ab.out hN
  have HLb:=Lh Ug;have XH:Hid (pn<=32768):=Lh (by rw [Ug.len];exact (Im.WZ Ab.out).1);have HB2:=Lh b2;have Eh:Hid (Im.Told (Im.xQ S0) S0):=Lh (Im.Hq Ab.out (Im.Tq Ab.out HZs.out.2));clear Ug b2 hAs;go_wp2_with fail;refine (xP _ S0 po pn pc w2 w2 ah HLb.out (by have:=XH.out;omega) Eh.out).mono ?_;rintro e w3 ⟨ht,rfl,lp,b3⟩;have hb4:=Bl.aC w3 ht;have O6:=Lh (aj (aj HB2.out b3) hb4);have VJ:=Lh (Bl.dY w3 ht);have FX:=Lh (lp.lies.below hb4);clear lp b3 hb4 HLb XH HB2 Eh
  go_upto_region 3 with (first | ((with_reducible apply Bl.aQ (h:=ht) (g:=w3.heap.size));rfl;rfl;rfl;rfl;rfl;rfl))
  generalize Bl.box w3 ht=Z at *;generalize w3.heap.size=gt at *;have HAs:=Lh (HZs.out.1.below O6.out);have wO:=Lh (HZs.out.2.below O6.out);have YO:=Lh (aj HBY.out O6.out);clear HZs O6 HBY;obtain ⟨x0,x1,x2,x3,x4,x5⟩:=HAs.out.cells;obtain ⟨y0,y1,y2,y3,y4,y5⟩:=VJ.out.cells;go_wp2_with fail;refine (qU S0 hs ht Z _ ah wO.out FX.out).mono ?_;rintro e Z2 ⟨rfl,bz2⟩;have ZW:=Lh (HAs.out.below bz2);have HAt2:=Lh (VJ.out.below bz2);have HLs2:=Lh (wO.out.below bz2);have Jw:=Lh (FX.out.below bz2);have Xe:=Lh (aj YO.out bz2);clear bz2 HAs VJ wO FX YO x0 x1 x2 x3 x4 x5 y0 y1 y2 y3 y4 y5 hM0
  go_upto_region 5 with fail
  go_cut [11,12] (fun p l wx=>∃ (gt:Nat) (h:Bl.Sv) (ro:Option Addr) (rn rc:Nat),p=.pointer (some ⟨gt,0,none⟩)/\l=.slice ro rn rc/\rn<=rc/\rc<=9223372036854775807/\Hid (Bl.At wx gt h/\Bl.kW wx h (Bl.play S0 M0).1/\Rp.Ls wx ro rn rc (Bl.play S0 M0).2)/\Hid (Below Z2.heap.size Z2 wx))
  case first =>
   have lx:∀ u,Below Z2.heap.size Z2 u->Below Z2.heap.size Z2 u/\u.cell? ⟨gs,0,none⟩=some (.slice hs.tab.ao hs.tab.n hs.tab.cap)/\u.cell? ⟨gs,1,none⟩=some (.slice hs.av.ao hs.av.n hs.av.cap)/\u.cell? ⟨gs,2,none⟩=some (.slice hs.post.ao hs.post.n hs.post.cap)/\u.cell? ⟨gs,3,none⟩=some (.slice hs.book.ao hs.book.n hs.book.cap)/\u.cell? ⟨gs,4,none⟩=some (.slice hs.ak.ao hs.ak.n hs.ak.cap)/\u.cell? ⟨gs,5,none⟩=some (.int .i64 hs.next):=fun u b=>⟨b,(ZW.out.below b).cells⟩
   obtain ⟨x0,x1,x2,x3,x4,x5⟩:=ZW.out.cells;go_region_held3 (fun u=>Below Z2.heap.size Z2 u/\u.cell? ⟨gs,0,none⟩=some (.slice hs.tab.ao hs.tab.n hs.tab.cap)/\u.cell? ⟨gs,1,none⟩=some (.slice hs.av.ao hs.av.n hs.av.cap)/\u.cell? ⟨gs,2,none⟩=some (.slice hs.post.ao hs.post.n hs.post.cap)/\u.cell? ⟨gs,3,none⟩=some (.slice hs.book.ao hs.book.n hs.book.cap)/\u.cell? ⟨gs,4,none⟩=some (.slice hs.ak.ao hs.ak.n hs.ak.cap)/\u.cell? ⟨gs,5,none⟩=some (.int .i64 hs.next)) (first | with_reducible assumption | (apply lx;repeat (first | with_reducible assumption | with_reducible apply aL | with_reducible apply Below.drew | with_reducible apply Mem.bU | with_reducible exact ah | omega)) | fail) (first | (go_at_call 5;have AO:=And.left (by assumption);refine (Aw S0 M0 hs Yb mO n2 cap2 _ _ ah (HLs2.out.below AO) ⟨(by first | exact ko.out.1 | exact ko.out.1.below ah.drew | exact ko.out.1.below (ah.alloc (ac _) _) | exact ko.out.1.below (ah.alloc (ac _) _).drew | exact ko.out.1.below (ah.drew.alloc (ac _) _)),ko.out.2.below (aj Xe.out AO)⟩ Ab.out HFw.out (by omega)).mono ?_;rintro e u2 ⟨h',ro,rn,rc,rfl,hL',hR',hA',b2⟩;have s2:=aj AO b2;have z2:=s2.size;have Xb:=Lh (And.intro hL' (And.intro hR' hA'));have hrf:=hR'.fits;have hrr:=hR'.reach;have oo:=Lh (And.intro s2 AO.size);have s3:=lx _ s2;(first | have D:=D.below b2 | (have D:Bl.At u2 u1.heap.size Bl.z:=(b2.block _ (ltA u1 _)).trans (heap_alloc_new u1 _)) | skip);(try (obtain ⟨q0,q1,q2,q3,q4,q5⟩:=D.cells;have qL:=D.lt;have qf0:=D.frozen 0;have qf1:=D.frozen 1;have qf2:=D.frozen 2;have qf3:=D.frozen 3;have qf4:=D.frozen 4;have qf5:=D.frozen 5));unfold Bl.Sv.val Bl.sl;clear hL' hR' hA' b2 AO)|(go_at_call 7;have ZX:=And.left (by assumption);refine (Ay Em cs1 15 ao1 n1 OP w _ iA.out (aj Xe.out ZX) (by omega)).mono ?_;rintro e u1 ⟨mO,n2,cap2,Yb,rfl,hn2,hL2,hin2,hE2,b1⟩;have s1:=aj ZX b1;have z1:=s1.size;have s3:=lx _ s1;rw [HM0.out] at hE2;have ko:=Lh (And.intro hL2 hE2);(first | have D:Bl.At u1 Z2.heap.size Bl.z:=(b1.block _ (ltA Z2 _)).trans (heap_alloc_new Z2 _) | skip);(try have L1:=D.lt);clear hL2 hin2 hE2 b1 ZX) | fail)
   all_goals (try go_wp2_with fail)
   all_goals go_meet
   · exact ⟨_,h',ro,rn,rc,rfl,rfl,hrf,hrr,Lh (Bl.oneA Xb.out),Lh (aL oo.out.1 _)⟩
   · exact ⟨_,h',ro,rn,rc,rfl,rfl,hrf,hrr,Lh (Bl.Xd Xb.out D (ltA u1 _)),Lh (Xc oo.out.1 z1 h')⟩
   · exact ⟨_,h',ro,rn,rc,rfl,rfl,hrf,hrr,Lh (Bl.Xd Xb.out D L1),Lh (Xc oo.out.1 (ac _) h')⟩
  case rest =>
   rename World=>P
   obtain ⟨gu,hu,uo,un,uc,rfl,rfl,huf,hur,HU,HBP⟩:=hcut;have HAt3:=Lh (HAt2.out.below HBP.out);have VH:=Lh (Jw.out.below HBP.out);have Xf:=Lh (aj Xe.out HBP.out);clear ZW HAt2 HLs2 Jw Xe HBP
   go_upto_region 6 with fail
   go_cut [13,14] (fun p l wx=>∃ (gt:Nat) (h:Bl.Sv) (ro:Option Addr) (rn rc:Nat),p=.pointer (some ⟨gt,0,none⟩)/\l=.slice ro rn rc/\rn<=rc/\rc<=9223372036854775807/\Hid (Bl.At wx gt h/\Bl.kW wx h (Bl.play S0 M0).1/\Rp.Ls wx ro rn rc (Bl.play S0 M0).2)/\Hid (Below P.heap.size P wx))
   case first =>
    have lx:∀ u,Below P.heap.size P u->Below P.heap.size P u/\u.cell? ⟨gt,0,none⟩=some (.slice ht.tab.ao ht.tab.n ht.tab.cap)/\u.cell? ⟨gt,1,none⟩=some (.slice ht.av.ao ht.av.n ht.av.cap)/\u.cell? ⟨gt,2,none⟩=some (.slice ht.post.ao ht.post.n ht.post.cap)/\u.cell? ⟨gt,3,none⟩=some (.slice ht.book.ao ht.book.n ht.book.cap)/\u.cell? ⟨gt,4,none⟩=some (.slice ht.ak.ao ht.ak.n ht.ak.cap)/\u.cell? ⟨gt,5,none⟩=some (.int .i64 ht.next):=fun u b=>⟨b,(HAt3.out.below b).cells⟩
    obtain ⟨x0,x1,x2,x3,x4,x5⟩:=HAt3.out.cells;go_region_held3 (fun u=>Below P.heap.size P u/\u.cell? ⟨gt,0,none⟩=some (.slice ht.tab.ao ht.tab.n ht.tab.cap)/\u.cell? ⟨gt,1,none⟩=some (.slice ht.av.ao ht.av.n ht.av.cap)/\u.cell? ⟨gt,2,none⟩=some (.slice ht.post.ao ht.post.n ht.post.cap)/\u.cell? ⟨gt,3,none⟩=some (.slice ht.book.ao ht.book.n ht.book.cap)/\u.cell? ⟨gt,4,none⟩=some (.slice ht.ak.ao ht.ak.n ht.ak.cap)/\u.cell? ⟨gt,5,none⟩=some (.int .i64 ht.next)) (first | with_reducible assumption | (apply lx;repeat (first | with_reducible assumption | with_reducible apply aL | with_reducible apply Below.drew | with_reducible apply Mem.bU | with_reducible exact ah | omega)) | fail) (first | (go_at_call 5;have AO:=And.left (by assumption);refine (Aw S0 M0 ht Yb mO n2 cap2 _ _ ah (VH.out.below AO) ⟨(by first | exact ko.out.1 | exact ko.out.1.below ah.drew | exact ko.out.1.below (ah.alloc (ac _) _) | exact ko.out.1.below (ah.alloc (ac _) _).drew | exact ko.out.1.below (ah.drew.alloc (ac _) _)),ko.out.2.below (aj Xf.out AO)⟩ Ab.out HFw.out (by omega)).mono ?_;rintro e u2 ⟨h',ro,rn,rc,rfl,hL',hR',hA',b2⟩;have s2:=aj AO b2;have z2:=s2.size;have Xb:=Lh (And.intro hL' (And.intro hR' hA'));have hrf:=hR'.fits;have hrr:=hR'.reach;have oo:=Lh (And.intro s2 AO.size);have s3:=lx _ s2;(first | have D:=D.below b2 | (have D:Bl.At u2 u1.heap.size Bl.z:=(b2.block _ (ltA u1 _)).trans (heap_alloc_new u1 _)) | skip);(try (obtain ⟨q0,q1,q2,q3,q4,q5⟩:=D.cells;have qL:=D.lt;have qf0:=D.frozen 0;have qf1:=D.frozen 1;have qf2:=D.frozen 2;have qf3:=D.frozen 3;have qf4:=D.frozen 4;have qf5:=D.frozen 5));unfold Bl.Sv.val Bl.sl;clear hL' hR' hA' b2 AO)|(go_at_call 7;have ZX:=And.left (by assumption);refine (Ay Em cs1 15 ao1 n1 OP w _ iA.out (aj Xf.out ZX) (by omega)).mono ?_;rintro e u1 ⟨mO,n2,cap2,Yb,rfl,hn2,hL2,hin2,hE2,b1⟩;have s1:=aj ZX b1;have z1:=s1.size;have s3:=lx _ s1;rw [HM0.out] at hE2;have ko:=Lh (And.intro hL2 hE2);(first | have D:Bl.At u1 P.heap.size Bl.z:=(b1.block _ (ltA P _)).trans (heap_alloc_new P _) | skip);(try have L1:=D.lt);clear hL2 hin2 hE2 b1 ZX) | fail)
    all_goals (try go_wp2_with fail)
    all_goals go_meet
    · exact ⟨_,h',ro,rn,rc,rfl,rfl,hrf,hrr,Lh (Bl.oneA Xb.out),Lh (aL oo.out.1 _)⟩
    · exact ⟨_,h',ro,rn,rc,rfl,rfl,hrf,hrr,Lh (Bl.Xd Xb.out D (ltA u1 _)),Lh (Xc oo.out.1 z1 h')⟩
    · exact ⟨_,h',ro,rn,rc,rfl,rfl,hrf,hrr,Lh (Bl.Xd Xb.out D L1),Lh (Xc oo.out.1 (ac _) h')⟩
   case rest =>
    rename World=>Q
    obtain ⟨gv,hv,vo,vn,vc,rfl,rfl,hvf,hvr,HV,HBQ⟩:=hcut;obtain rfl:un=vn:=HU.out.2.2.len.trans HV.out.2.2.len.symm;have ZL:=Lh (And.intro (HU.out.1.below HBQ.out) (And.intro (HU.out.2.1.below HBQ.out) (HU.out.2.2.below HBQ.out)));have ZY:=Lh (aj Xf.out HBQ.out);have hAu:=ZL.out.1;have hAv:=HV.out.1;clear HU HBQ Xf;go_wp2_with (first | ((with_reducible apply Bl.aI hAu);rfl;rfl;rfl)|((with_reducible apply Bl.aI hAv);rfl;rfl;rfl));clear hAu hAv;refine (qU _ hu hv Q _ ah ZL.out.2.1 HV.out.2.1).mono ?_;rintro e Q2 ⟨rfl,q2⟩;have tZ:=Lh q2;clear q2;go_wp2_with fail;refine (Rp.fV _ uo vo un uc vc Q Q2 tZ.out (ZL.out.2.2.below tZ.out) (HV.out.2.2.below tZ.out)).mono ?_;rintro e Q3 ⟨rfl,q3⟩;have DU:=Lh (aj ZY.out q3);have Z0:=Lh (YP.out.below (aj ZY.out q3));clear q3 tZ ZL HV ZY;go_wp2_with fail;refine (Ep bs bo bn bc Q3 Q3 ah Z0.out (by omega)).mono ?_;rintro e w5 ⟨h5,b5⟩;rcases h5 with ⟨hw,tw,rfl,hTd,lpw⟩ | ⟨rfl,hEr,_⟩
    ·
     have ZM:=Bl.aC w5 hw;have HA7:=Lh (Bl.dY w5 hw);have HL7:=Lh (lpw.lies.below ZM);have HBs7:=Lh (Z0.out.below (aj b5 ZM));have ZO:=Lh (aj DU.out (aj b5 ZM));have HTd:=Lh hTd;clear lpw ZM b5 hTd Z0 DU
     go_upto_region 10 with (first | ((with_reducible apply Bl.aQ (h:=hw) (g:=w5.heap.size));rfl;rfl;rfl;rfl;rfl;rfl))
     generalize Bl.box w5 hw=V at *;generalize w5.heap.size=gw at *;obtain ⟨x0,x1,x2,x3,x4,x5⟩:=HA7.out.cells;go_wp2_with fail;refine (En hw tw V V ah HL7.out).mono ?_;rintro e V2 ⟨h8,b8⟩;rcases h8 with ⟨_,DZ,pn2,pc2,rfl,Z4,_⟩ | ⟨hN,_⟩
     case inr=>exact absurd HTd.out.2.2 hN
     rw [Im.Av HTd.out] at Z4;have HLb2:=Lh Z4;have HB8:=Lh (aj ZO.out b8);have HBs8:=Lh (HBs7.out.below b8);clear Z4 b8 x0 x1 x2 x3 x4 x5 HBs7 ZO;go_wp2_with fail;refine (By.same_eq bs DZ bo pn2 bn pc2 bc V2 V2 ah HLb2.out HBs8.out).mono ?_;rintro e V3 ⟨rfl,b9⟩;have HB9:=Lh (aj HB8.out b9);clear b9;go_wp2_with fail;refine (TW w _ HB9.out).mono ?_;rintro e V4 ⟨rfl,b10⟩;have OO:=Lh b10;clear b10;go_wp2_with fail;go_ret;exact ⟨rfl,OO.out⟩
    ·
     have ZO:=Lh (aj DU.out (aj b5 (Bl.aC w5 Bl.iy)));obtain ⟨E,hE⟩:∃ E,Im.xU bs=E:=⟨_,rfl⟩;rw [hE] at hEr ⊢;have qe:(E != 0)=true:=bne_iff_ne.2 hEr;clear hE hEr b5;go_wp2_with (first | ((with_reducible apply Bl.aQ (h:=Bl.iy) (g:=w5.heap.size));rfl;rfl;rfl;rfl;rfl;rfl));refine (TW w _ ZO.out).mono ?_;rintro e V4 ⟨rfl,b10⟩;have OO:=Lh b10;clear b10;go_wp2_with fail;go_ret;exact ⟨rfl,OO.out⟩
end Go.Proofs.YtpfdnemaaeolcaaGreat
namespace Go.Proofs.YtpfdnemaaeolcaaGreat.By
open Go.ChangeShapes Go.WideShapes Go.ChangeAt Go.RowKit
theorem TY:Tryz.prog.cellsOf 5=1:=by kernel_rfl
theorem T9:Tryz.prog.bytesOf 5=1:=by kernel_rfl
theorem Dr {H:Type} {enc:TypeId×Value->H} {W:World} {ao:Option Addr} {n cap:Nat} {d:DataW H} {p:List MemPlace} {ts:List TypeId} {ds:List (DataW H)} (j:Nat)
  (hj:DataW.Trod enc Tryz.prog W 0 (fun _=>true) true 23 (.slice ao n cap) d p)
  (hsz:(DataW.weightsEach Tryz.prog ts ds).all (· <=reachBytes)=true) (ht:ts[j]? =some 23) (hd:ds[j]? =some d):∃ bs,Ls W ao n cap bs/\n<=140737488351232:=by
 obtain ⟨fuel,hf⟩:=hj;rcases open_ints Tryz.underlying23 Tryz.underlying5 TY hf with ⟨hcs,_⟩ | ⟨x,l,c,zs,hcs,_,hl,hm,hz,hx,hcell,hwz⟩
 ·
  simp [Value.cells] at hcs;obtain ⟨rfl,rfl,rfl⟩:=hcs;exact ⟨[],dL W,by omega⟩
 ·
  simp [Value.cells] at hcs;obtain ⟨rfl,rfl,rfl⟩:=hcs;simp only [if_true] at hz;have hd':=congrArg Prod.fst hx;simp only at hd';rw [hd'] at hd;have hr:=sized_slice hsz ht hd Tryz.underlying23;rw [T9] at hr;simp only [lits,List.length_map,List.length_take,List.length_drop,reachBytes] at hr;refine ⟨(zs.take n).map fun z=>UInt8.ofNat z.toNat,⟨by simp;omega,hl,by omega,(fun h=>by cases h),?_⟩,by omega⟩;by_cases h0:0 < zs.length
  ·
   obtain ⟨b,off,rfl,hc⟩ := ints_at hcell h0;refine .inr ⟨b,off,rfl,fun k hk => ?_⟩;simp only [List.length_map,List.length_take] at hk;have h1 := hc k (by omega);have hmem : zs[k]'(by omega) ∈ zs := ae _;have hw := hwz _ hmem;have hb : 0 <= zs[k]'(by omega) /\ zs[k]'(by omega) <= 255 := by simpa [Lit.wf,IntKind.min,IntKind.max,IntKind.signed,IntKind.bits] using hw
   rw [h1];unfold bv;simp only [List.getElem_map,List.getElem_take];rw [List.getD_eq_getElem?_getD,List.getElem?_eq_getElem (by omega)];simp only [Option.getD_some,UInt8.toNat_ofNat']
   congr 2
   omega
  ·
   refine .inl ?_;have:zs=[]:=List.length_eq_zero_iff.1 (by omega);simp [this]
end Go.Proofs.YtpfdnemaaeolcaaGreat.By
