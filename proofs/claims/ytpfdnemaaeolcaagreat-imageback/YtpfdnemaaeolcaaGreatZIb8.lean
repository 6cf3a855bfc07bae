import Derived.Deep.RegionHeld3
import Derived.Lib.QuietBelow
import Derived.Test.YtpfdnemaaeolcaaGreatZIb2
import Derived.Test.YtpfdnemaaeolcaaGreatZIb3
import Derived.Test.YtpfdnemaaeolcaaGreatZIb4
import Derived.Test.YtpfdnemaaeolcaaGreatZIb5
import Derived.Test.YtpfdnemaaeolcaaGreatZIb7
variable {y m d i z n e:Int}
set_option maxHeartbeats 8000000
namespace Go.Proofs.YtpfdnemaaeolcaaGreat
open Go.RowKit
theorem BI (y:Int) (w:World) (h0:0<=y) (h1:y<=10000) :
  Calls Tryz.prog 154 #[.int .i64 y] w fun e w'=>e=.returned (.bool (Dt.yL y))/\w'=w:=by
 go_enter Tryz.func154,Tryz.ntmps154;by_cases a1:y % 4=0
 ·
  by_cases a2:y % 100=0
  ·
   have a3:(y % 100 != 0)=false:=by rw [a2];rfl
   go_wp2;go_ret;refine ⟨ay ?_,rfl⟩;rw [Bool.eq_iff_iff,Dt.qx,beq_iff_eq];omega
  ·
   have a3:(y % 100 != 0)=true:=bne_iff_ne.2 a2;go_wp2;go_ret;exact ⟨ay ((Dt.qx y).2 ⟨a1,.inl a2⟩).symm,rfl⟩
 ·
  have a2:(y % 4==0)=false:=beq_eq_false_iff_ne.2 a1;go_wp2;go_ret;refine ⟨ay ?_,rfl⟩;rw [Bool.eq_iff_iff,Dt.qx,beq_iff_eq];omega
theorem rD (y m:Int) (w:World) (h0:0<=y) (h1:y<=10000) :
  Calls Tryz.prog 117 #[.int .i64 y,.int .i64 m] w fun e w'=>e=.returned (.int .i64 (Dt.len y m))/\w'=w:=by
 by_cases h:m < 1\/12 < m
 ·
  have HL:=Lh (Dt.Xn (y:=y) h);have e1:(m==1)=false:=beq_eq_false_iff_ne.2 (by omega);have e2:(m==2)=false:=beq_eq_false_iff_ne.2 (by omega);have e3:(m==3)=false:=beq_eq_false_iff_ne.2 (by omega);have e4:(m==4)=false:=beq_eq_false_iff_ne.2 (by omega);have e5:(m==5)=false:=beq_eq_false_iff_ne.2 (by omega);have e6:(m==6)=false:=beq_eq_false_iff_ne.2 (by omega);have e7:(m==7)=false:=beq_eq_false_iff_ne.2 (by omega);have e8:(m==8)=false:=beq_eq_false_iff_ne.2 (by omega);have e9:(m==9)=false:=beq_eq_false_iff_ne.2 (by omega);have e10:(m==10)=false:=beq_eq_false_iff_ne.2 (by omega);have e11:(m==11)=false:=beq_eq_false_iff_ne.2 (by omega);have e12:(m==12)=false:=beq_eq_false_iff_ne.2 (by omega);clear h;go_enter Tryz.func117,Tryz.ntmps117;go_wp2_with fail;go_ret;exact ⟨eP HL.out.symm,rfl⟩
 ·
  have hm:m=1\/m=2\/m=3\/m=4\/m=5\/m=6\/m=7\/m=8\/m=9\/m=10\/m=11\/m=12:=by omega
  clear h;by_cases h2:m=2
  ·
   subst h2;clear hm;by_cases hl:Dt.yL y=true
   ·
    have HL:Hid (Dt.len y 2=29):=Lh (by rw [Dt.Xm,Dt.Um hl];rfl);go_enter Tryz.func117,Tryz.ntmps117;go_wp2_with fail;refine (BI y _ h0 h1).mono ?_;rintro e w1 ⟨rfl,hw1⟩;subst hw1;rw [hl];go_wp2_with fail;go_ret;exact ⟨eP HL.out.symm,rfl⟩
   ·
    have hl':Dt.yL y=false:=by simpa using hl
    have HL:Hid (Dt.len y 2=28):=Lh (by rw [Dt.Xm,Dt.Pg hl'];rfl);clear hl;go_enter Tryz.func117,Tryz.ntmps117;go_wp2_with fail;refine (BI y _ h0 h1).mono ?_;rintro e w1 ⟨rfl,hw1⟩;subst hw1;rw [hl'];go_wp2_with fail;go_ret;exact ⟨eP HL.out.symm,rfl⟩
  ·
   by_cases h3:m=4\/m=6\/m=9\/m=11
   ·
    have HL:=Lh (Dt.Yh (y:=y) h3);clear hm h2;rcases h3 with rfl | rfl | rfl | rfl
    all_goals
     go_enter Tryz.func117,Tryz.ntmps117;go_wp2_with fail;go_ret;exact ⟨eP HL.out.symm,rfl⟩
   ·
    have h4:m=1\/m=3\/m=5\/m=7\/m=8\/m=10\/m=12:=by omega
    have HL:=Lh (Dt.Yi (y:=y) h4);clear hm h2 h3;rcases h4 with rfl | rfl | rfl | rfl | rfl | rfl | rfl
    all_goals
     go_enter Tryz.func117,Tryz.ntmps117;go_wp2_with fail;go_ret;exact ⟨eP HL.out.symm,rfl⟩
theorem xG (n a b:Int) (w:World) :
  Calls Tryz.prog 116 #[.int .i64 n,.int .i64 a,.int .i64 b] w fun e w'=>e=.returned (.bool (decide (a<=n/\n<=b)))/\w'=w:=by
 go_enter Tryz.func116,Tryz.ntmps116;by_cases h1:a<=n
 ·
  go_wp2;go_ret;exact ⟨ay (by simp [h1]),rfl⟩
 ·
  go_wp2;go_ret;refine ⟨ay ?_,rfl⟩;rw [Bool.eq_iff_iff]
  simp
  omega
theorem FP (h:1<=y/\y<=9999):Dt.aA y m d=decide (1<=d/\d<=Dt.len y m):=by
 unfold Dt.aA;rw [Bool.eq_iff_iff,decide_eq_true_iff,decide_eq_true_iff];exact ⟨fun k=>k.2.2,fun k=>⟨h.1,h.2,k⟩⟩
theorem DN (h: ¬ (1<=y/\y<=9999)):Dt.aA y m d=false:=by
 rw [Bool.eq_false_iff];intro k;rw [Dt.aJ] at k;omega
theorem fJ (y m d:Int) (w0 w:World) (hw:Below w0.heap.size w0 w) (_hy:Fit y) (_hm:Fit m) (_hd:Fit d) :
  Calls Tryz.prog 75 #[nG y m d] w fun e w'=>e=.returned (.bool (Dt.aA y m d))/\Below w0.heap.size w0 w':=by
 have HW:=Lh hw;clear hw;unfold nG;by_cases h1:1<=y/\y<=9999
 ·
  have HR:=Lh (FP (m:=m) (d:=d) h1);have hd1:decide (1<=y/\y<=9999)=true:=decide_eq_true h1;go_enter Tryz.func75,Tryz.ntmps75;go_wp2;go_quiet (first | (go_at_call 117;exact Calls.quiet_of_same (rD _ _ _ (by omega) (by omega)))|(go_at_call 116;exact Calls.quiet_of_same (xG _ _ _ _)));go_wp2;go_ret;exact ⟨ay (by rw [HR.out,Bool.decide_and]),below_drewN (aL HW.out _) _⟩
 ·
  have HR:=Lh (DN (m:=m) (d:=d) h1);have hd1:decide (1<=y/\y<=9999)=false:=decide_eq_false h1;go_enter Tryz.func75,Tryz.ntmps75;go_wp2;go_quiet (first | (go_at_call 117;exact Calls.quiet_of_same (rD _ _ _ (by omega) (by omega)))|(go_at_call 116;exact Calls.quiet_of_same (xG _ _ _ _)));go_wp2;go_ret;exact ⟨ay HR.out.symm,below_drewN (aL HW.out _) _⟩
theorem Jb (y:Int) (w:World) (h0:1<=y) (h1:y<=10000) :
  Calls Tryz.prog 175 #[.int .i64 y] w fun e w'=>e=.returned (.int .i64 (Dt.yd y))/\w'=w:=by
 have HY:Hid (Dt.yd y=(y - 1)*365+(y - 1) / 4 - (y - 1) / 100+(y - 1) / 400):=Lh (by unfold Dt.yd;omega);go_enter Tryz.func175,Tryz.ntmps175;go_wp2;go_ret;exact ⟨eP HY.out.symm,rfl⟩
theorem M9 (y m d:Int) (w0 w:World) (hw:Below w0.heap.size w0 w) (hy:Fit y) (hm:Fit m) (hd:Fit d) :
  Calls Tryz.prog 153 #[nG y m d] w fun e w'=>e=.returned (.int .i64 (Dt.days y m d))/\Below w0.heap.size w0 w':=by
 have HW:=Lh hw;clear hw;by_cases h:Dt.aA y m d=true
 ·
  rw [Dt.lZ h];obtain ⟨h1,h2,h3,h4,h5,h6⟩:=Dt.qy h;have hn:=Lh (Dt.Yk h);obtain ⟨hy0,hy1⟩:=Dt.Pn h1 (show y<=10000 by omega);unfold nG;go_enter Tryz.func153,Tryz.ntmps153;go_wp2_with fail;refine (fJ y m d _ _ (Below.refl _ _) hy hm hd).mono ?_;rintro e w1 ⟨rfl,b1⟩;have HB1:=Lh ((aL HW.out _).trans (b1.mono (aL HW.out _).size));obtain ⟨hc,hf⟩:=aD b1;clear b1 hy hm hd;rw [h];go_wp2;go_quiet ((go_at_call 175;exact Calls.quiet_of_same (Jb _ _ (by omega) (by omega))));go_wp2
  go_loop [3,4] (fun n i=>∃ k:Int,1<=k/\k<=m/\i=.int .i64 k/\n=.int .i64 (Dt.yd y+d - 1+Dt.Ie y k)) (fun _ i=>(m - intOf i).toNat)
  case atStart=>exact ⟨1,by omega,h3,rfl,by rw [Dt.Xo,Int.add_zero]⟩
  case round =>
   obtain ⟨k,hk0,hk1,rfl,rfl⟩:=hrel;have hcb:=Dt.Ig (y:=y) hk0 (show k<=13 by omega);by_cases hlt:k < m
   ·
    have hlb:=Dt.Ph y k;have HS:=Lh (Dt.yM y k hk0 (by omega));go_wp2_with fail;refine (rD y k _ (by omega) (by omega)).mono ?_;rintro e w2 ⟨rfl,hw2⟩;subst hw2;go_wp2;go_round
    case rel=>exact ⟨k+1,by omega,by omega,rfl,by rw [HS.out,<- Int.add_assoc]⟩
    case measure=>simp [intOf];omega
   ·
    obtain rfl:k=m:=by omega
    go_wp2;go_ret;exact ⟨eP (by unfold Dt.num;omega),below_drewN HB1.out _⟩
 ·
  have h':Dt.aA y m d=false:=by simpa using h
  rw [Dt.Pp h'];unfold nG;go_enter Tryz.func153,Tryz.ntmps153;go_wp2_with fail;refine (fJ y m d w0 _ (aL HW.out _) hy hm hd).mono ?_;rintro e w1 ⟨rfl,b1⟩;have HB1:=Lh b1;clear b1;rw [h'];go_wp2;go_ret;exact ⟨rfl,HB1.out⟩
def mq (y m d z n e:Int):Bool:=Dt.aA y m d&&Dt.aA z n e&&decide (Dt.num y m d < Dt.num z n e)
theorem Jc (h:Dt.aA y m d=false):mq y m d z n e=false:=by
 unfold mq;rw [h];rfl
theorem Jd (h:Dt.aA z n e=false):mq y m d z n e=false:=by
 unfold mq;rw [h,Bool.and_false];rfl
theorem mD (h:Dt.aA y m d=true) (k:Dt.aA z n e=true):mq y m d z n e=decide (Dt.days y m d < Dt.days z n e):=by
 unfold mq;rw [h,k,Dt.lZ h,Dt.lZ k];rfl
theorem lg (y m d z n e:Int) (w0 w:World) (hw:Below w0.heap.size w0 w) (hy:Fit y) (hm:Fit m) (hd:Fit d) (hz:Fit z) (hn:Fit n) (he:Fit e) :
  Calls Tryz.prog 113 #[nG y m d,nG z n e] w fun en w'=>en=.returned (.bool (mq y m d z n e))/\Below w0.heap.size w0 w':=by
 have HW:=Lh hw;have HF:=Lh (And.intro hy (And.intro hm (And.intro hd (And.intro hz (And.intro hn he)))));clear hw hy hm hd hz hn he;unfold nG;obtain ⟨W,hW⟩:∃ W,(w.alloc (.cells #[.int .i64 y,.int .i64 m,.int .i64 d] 50)).alloc (.cells #[.int .i64 z,.int .i64 n,.int .i64 e] 50)=W:=⟨_,rfl⟩;have dz:Hid (Below w0.heap.size w0 W):=Lh (hW▸aL (aL HW.out _) _)
 have l0:∀ u,Below W.heap.size W u->u.cell? ⟨w.heap.size,0,none⟩=some (.int .i64 y)/\u.cell? ⟨w.heap.size,1,none⟩=some (.int .i64 m)/\u.cell? ⟨w.heap.size,2,none⟩=some (.int .i64 d):=fun u hb=>by
  rw [(aD hb).1 _ _ (by rw [<- hW];simp;omega),(aD hb).1 _ _ (by rw [<- hW];simp;omega),(aD hb).1 _ _ (by rw [<- hW];simp;omega),<- hW];simp [go_sem]
 have l1:∀ u,Below W.heap.size W u->u.cell? ⟨w.heap.size+1,0,none⟩=some (.int .i64 z)/\u.cell? ⟨w.heap.size+1,1,none⟩=some (.int .i64 n)/\u.cell? ⟨w.heap.size+1,2,none⟩=some (.int .i64 e):=fun u hb=>by
  rw [(aD hb).1 _ _ (by rw [<- hW];simp),(aD hb).1 _ _ (by rw [<- hW];simp),(aD hb).1 _ _ (by rw [<- hW];simp),<- hW];simp [go_sem]
 by_cases h1:Dt.aA y m d=true
 ·
  by_cases h2:Dt.aA z n e=true
  ·
   rw [mD h1 h2];go_enter Tryz.func113,Tryz.ntmps113;go_wp2;go_region_held3 (fun u=>Below W.heap.size W u) (first | assumption | exact (Below.refl _ _).drew) (first | (go_at_call 75;refine (fJ _ _ _ W _ (by assumption) (by first | exact HF.out.1 | exact HF.out.2.1 | exact HF.out.2.2.1 | exact HF.out.2.2.2.1 | exact HF.out.2.2.2.2.1 | exact HF.out.2.2.2.2.2) (by first | exact HF.out.1 | exact HF.out.2.1 | exact HF.out.2.2.1 | exact HF.out.2.2.2.1 | exact HF.out.2.2.2.2.1 | exact HF.out.2.2.2.2.2) (by first | exact HF.out.1 | exact HF.out.2.1 | exact HF.out.2.2.1 | exact HF.out.2.2.2.1 | exact HF.out.2.2.2.2.1 | exact HF.out.2.2.2.2.2)).mono ?_;rintro en w' ⟨rfl,b⟩)|(go_at_call 153;refine (M9 _ _ _ W _ (by assumption) (by first | exact HF.out.1 | exact HF.out.2.1 | exact HF.out.2.2.1 | exact HF.out.2.2.2.1 | exact HF.out.2.2.2.2.1 | exact HF.out.2.2.2.2.2) (by first | exact HF.out.1 | exact HF.out.2.1 | exact HF.out.2.2.1 | exact HF.out.2.2.2.1 | exact HF.out.2.2.2.2.1 | exact HF.out.2.2.2.2.2) (by first | exact HF.out.1 | exact HF.out.2.1 | exact HF.out.2.2.1 | exact HF.out.2.2.2.1 | exact HF.out.2.2.2.2.1 | exact HF.out.2.2.2.2.2)).mono ?_;rintro en w' ⟨rfl,b⟩));go_wp2;go_ret;exact ⟨rfl,dz.out.trans (b.mono dz.out.size)⟩
  ·
   have h2':Dt.aA z n e=false:=by simpa using h2
   clear h2;rw [Jd h2'];go_enter Tryz.func113,Tryz.ntmps113;go_wp2;obtain ⟨g0,g1,g2⟩:=l0 W.drew (Below.refl _ _).drew;obtain ⟨g3,g4,g5⟩:=l1 W.drew (Below.refl _ _).drew;go_region_with (go_at_call 75;refine (fJ _ _ _ W _ (by first | assumption | exact (Below.refl _ _).drew) (by first | exact HF.out.1 | exact HF.out.2.1 | exact HF.out.2.2.1 | exact HF.out.2.2.2.1 | exact HF.out.2.2.2.2.1 | exact HF.out.2.2.2.2.2) (by first | exact HF.out.1 | exact HF.out.2.1 | exact HF.out.2.2.1 | exact HF.out.2.2.2.1 | exact HF.out.2.2.2.2.1 | exact HF.out.2.2.2.2.2) (by first | exact HF.out.1 | exact HF.out.2.1 | exact HF.out.2.2.1 | exact HF.out.2.2.2.1 | exact HF.out.2.2.2.2.1 | exact HF.out.2.2.2.2.2)).mono ?_;rintro en w' ⟨rfl,b⟩;obtain ⟨k0,k1,k2⟩:=l0 _ b;obtain ⟨k3,k4,k5⟩:=l1 _ b;first | rw [h1] | rw [h2'])
   all_goals
    go_wp2;go_ret;exact ⟨rfl,dz.out.trans (b.mono dz.out.size)⟩
 ·
  have h1':Dt.aA y m d=false:=by simpa using h1
  clear h1;rw [Jc h1'];go_enter Tryz.func113,Tryz.ntmps113;go_wp2;obtain ⟨g0,g1,g2⟩:=l0 W.drew (Below.refl _ _).drew;obtain ⟨g3,g4,g5⟩:=l1 W.drew (Below.refl _ _).drew;go_region_with (go_at_call 75;refine (fJ _ _ _ W _ (by first | assumption | exact (Below.refl _ _).drew) (by first | exact HF.out.1 | exact HF.out.2.1 | exact HF.out.2.2.1 | exact HF.out.2.2.2.1 | exact HF.out.2.2.2.2.1 | exact HF.out.2.2.2.2.2) (by first | exact HF.out.1 | exact HF.out.2.1 | exact HF.out.2.2.1 | exact HF.out.2.2.2.1 | exact HF.out.2.2.2.2.1 | exact HF.out.2.2.2.2.2) (by first | exact HF.out.1 | exact HF.out.2.1 | exact HF.out.2.2.1 | exact HF.out.2.2.2.1 | exact HF.out.2.2.2.2.1 | exact HF.out.2.2.2.2.2)).mono ?_;rintro en w' ⟨rfl,b⟩;obtain ⟨k0,k1,k2⟩:=l0 _ b;obtain ⟨k3,k4,k5⟩:=l1 _ b;rw [h1'])
  all_goals
   go_wp2;go_ret;exact ⟨rfl,dz.out.trans (b.mono dz.out.size)⟩
open Vt (Rt)
theorem KY (r:Rt) (w0 w:World) (hw:Below w0.heap.size w0 w) (hs:Short r) :
  Calls Tryz.prog 70 #[oP r] w fun e w'=>e=.returned (.int .i64 (Vt.gT r))/\Below w0.heap.size w0 w':=by
 have HW:=Lh hw;have HS:=Lh hs;clear hw hs;obtain ⟨cat,y,m,d,bp⟩:=r;unfold oP Short at *;dsimp only at *;go_enter Tryz.func70,Tryz.ntmps70;go_wp2_with fail;refine (vG cat _ HS.out.1).mono ?_;rintro e w1 ⟨rfl,b1⟩;have hC:=(l9 w ⟨cat,y,m,d,bp⟩).below b1;have HC:=Lh hC;unfold lV at hC;obtain ⟨c0,c1,c2,c3,c4⟩:=hC;have HB1:=Lh (aj (aL HW.out _) b1);clear b1;cases hn:Rn.name (txt cat)
 ·
  have HE:=Lh (Vt.Ma (r:=⟨cat,y,m,d,bp⟩) hn);go_wp2_with fail;go_ret;exact ⟨eP HE.out.symm,HB1.out⟩
 ·
  have HN:=Lh hn;go_wp2_with fail;refine (fJ y m d _ _ (Below.refl _ _) HS.out.2.1 HS.out.2.2.1 HS.out.2.2.2.1).mono ?_;rintro e w2 ⟨rfl,b2⟩;have hC:=HC.out.below b2;unfold lV at hC;obtain ⟨c5,c6,c7,c8,c9⟩:=hC;have HB2:=Lh (aj HB1.out b2);clear b2;cases hr:Dt.aA y m d
  ·
   have HE:=Lh (Vt.Pq (r:=⟨cat,y,m,d,bp⟩) HN.out hr);go_wp2_with fail;go_ret;exact ⟨eP HE.out.symm,HB2.out⟩
  ·
   have HR:=Lh hr;by_cases h0:bp < 0
   ·
    have HE:=Lh (Vt.Ko (r:=⟨cat,y,m,d,bp⟩) HN.out HR.out (.inl h0));go_wp2_with fail;go_ret;exact ⟨eP HE.out.symm,HB2.out⟩
   ·
    by_cases h1:100000 < bp
    ·
     have HE:=Lh (Vt.Ko (r:=⟨cat,y,m,d,bp⟩) HN.out HR.out (.inr h1));go_wp2_with fail;go_ret;exact ⟨eP HE.out.symm,HB2.out⟩
    ·
     have HE:=Lh (Vt.oH (r:=⟨cat,y,m,d,bp⟩) |>.2 ⟨HN.out,HR.out,Int.not_lt.1 h0,Int.not_lt.1 h1⟩);go_wp2_with fail;go_ret;exact ⟨eP HE.out.symm,HB2.out⟩
theorem Na (a:Rt):Op.bytesLess a.cat.toList a.cat.toList=false:=Vt.jE _
theorem Nb (a b:Rt) (w0 w:World) (hw:Below w0.heap.size w0 w) (ha:Short a) (hb:Short b) (ra:Dt.aA a.y a.m a.d=true) (rb:Dt.aA b.y b.m b.d=true) :
  Calls Tryz.prog 71 #[oP a,oP b] w fun e w'=>e=.returned (.bool (Vt.lt a b))/\Below w0.heap.size w0 w':=by
 have HW:=Lh hw;have HA:=Lh ha;have HB:=Lh hb;have HRR:=Lh (mD ra rb);clear hw ha hb ra rb;obtain ⟨W,hW,hbW,hA,hB⟩:=Yx w a b;have dz:Hid (Below w0.heap.size w0 W):=Lh (aj HW.out hbW);unfold lV at hA hB;obtain ⟨a0,a1,a2,a3,a4⟩:=hA;obtain ⟨b0,b1,b2,b3,b4⟩:=hB;by_cases hc:a.cat=b.cat
 ·
  have HL:=Lh (Vt.jP hc);have hy:(a.cat.toList==b.cat.toList)=true:=beq_iff_eq.2 (by rw [hc]);have hlf:Op.bytesLess a.cat.toList b.cat.toList=false:=by rw [hc];exact Na b
  have e1:Hid (Vt.dy a=Dt.days a.y a.m a.d):=rfl;have e2:Hid (Vt.dy b=Dt.days b.y b.m b.d):=rfl;clear hbW hc;unfold oP;go_enter Tryz.func71,Tryz.ntmps71;go_wp2_with fail;refine (lg a.y a.m a.d b.y b.m b.d w0 _ dz.out HA.out.2.1 HA.out.2.2.1 HA.out.2.2.2.1 HB.out.2.1 HB.out.2.2.1 HB.out.2.2.2.1).mono ?_;rintro e w1 ⟨rfl,b5⟩;have HB1:=Lh b5;clear b5;go_wp2_with fail;go_ret;exact ⟨ay (by rw [HL.out,e1.out,e2.out,HRR.out]),HB1.out⟩
 ·
  have HL:=Lh (Vt.jQ hc);have hy:(a.cat.toList==b.cat.toList)=false:=beq_eq_false_iff_ne.2 fun k=>hc (Vt.gM k)
  clear hbW hc;unfold oP;cases hl:Op.bytesLess a.cat.toList b.cat.toList
  ·
   go_enter Tryz.func71,Tryz.ntmps71;go_wp2_with fail;go_ret;exact ⟨ay (by rw [HL.out,hl]),dz.out⟩
  ·
   go_enter Tryz.func71,Tryz.ntmps71;go_wp2_with fail;go_ret;exact ⟨ay (by rw [HL.out,hl]),dz.out⟩
theorem Q7 (r:Rt) (w0 w:World) (hw:Below w0.heap.size w0 w) :
  Calls Tryz.prog 179 #[oP r] w fun e w'=>e=.returned (oP { r with bp:=0 })/\Below w0.heap.size w0 w':=by
 have HW:=Lh hw;clear hw;obtain ⟨cat,y,m,d,bp⟩:=r;unfold oP;go_enter Tryz.func179,Tryz.ntmps179;go_wp2;exact bodyPost_ret (v:=oP ⟨cat,y,m,d,0⟩) (by simp [results,oP,Tryz.results179,go_sem]) rfl ⟨rfl,aL (aL HW.out _) _⟩
open Go.Sort (grow)
def UU (f:FuncId) (args:Array Value) (u:World) (i:Nat) (os:Array Obj) (v:Value):Prop :=
 Calls Tryz.prog f args (grow (redrawn u i) os) fun e w''=>e=.returned v/\∃ p:Regrown,w''=grow (redrawn u p.d) p.os
theorem Je (r:Rt) (hs:Short r) (u:World) (i:Nat) (os:Array Obj):UU 70 #[.agg #[.string r.cat,.int .i64 r.y,.int .i64 r.m,.int .i64 r.d,.int .i64 r.bp]] u i os (.int .i64 (Vt.gT r)) :=
 Calls.regrown_of (KY r _ _ (Below.refl _ _) hs)
theorem vH (a b:Rt) (ha:Short a) (hb:Short b) (ra:Vt.gT a=0) (rb:Vt.gT b=0) (u:World) (i:Nat) (os:Array Obj):UU 71 #[.agg #[.string a.cat,.int .i64 a.y,.int .i64 a.m,.int .i64 a.d,.int .i64 a.bp],.agg #[.string b.cat,.int .i64 b.y,.int .i64 b.m,.int .i64 b.d,.int .i64 b.bp]] u i os (.bool (Vt.lt a b)) :=
 Calls.regrown_of (Nb a b _ _ (Below.refl _ _) ha hb (Vt.oH.1 ra).2.1 (Vt.oH.1 rb).2.1)
theorem sj (rs:List Rt) (ao:Option Addr) (n cap:Nat) (w0 w:World) (hw:Below w0.heap.size w0 w) (hR:om w ao n cap rs) :
  Calls Tryz.prog 28 #[.slice ao n cap] w fun e w'=>e=.returned (.bool (Vt.bN rs))/\Below w0.heap.size w0 w':=by
 have HW:=Lh hw;have HR:=Lh hR;have HN:=Lh hR.len;have hcap:=hR.reach;have hfit:=hR.fits;clear hw hR;by_cases Z8:24 < n
 ·
  have HT:=Lh (Vt.Ij (l:=rs) (HN.out▸Z8));go_enter Tryz.func28,Tryz.ntmps28;go_wp2;go_ret;exact ⟨ay HT.out.symm,HW.out⟩
 ·
  have HT:=Lh (Vt.EF (l:=rs) (by have:=HN.out;omega));go_enter Tryz.func28,Tryz.ntmps28;go_wp2
  go_loopw [3,4,10] (fun _ _ i wr=>∃ k:Nat,k<=n/\i=.int .i64 k/\Hid (Vt.dN (Vt.bO rs k) (rs.drop k)=Vt.dN none rs)/\Hid (∀ q,Vt.bO rs k=some q->Vt.gT q=0)/\Hid (Below w.heap.size w wr)) (fun _ _ i _=>n - (intOf i).toNat)
  case atStart=>exact ⟨0,by omega,rfl,Lh rfl,Lh (fun q h=>by unfold Vt.bO at h;rw [if_pos rfl] at h;cases h),Lh (Below.refl _ _)⟩
  case round =>
   obtain ⟨k,hk,rfl,HK,HQ,HB⟩:=hrel;by_cases hlt:k < n
   ·
    obtain ⟨b,off,rfl⟩:=HR.out.at (by omega);have hkr:k < rs.length:=HN.out▸hlt;obtain ⟨r,hr⟩:∃ r,rs[k]=r:=⟨_,rfl⟩;have hrow:=(HR.out.row k hkr).below HB.out;have bX:=Lh (Vt.qA rs k hkr);have HPr:Hid (Vt.bO rs (k+1)=some r):=Lh (by unfold Vt.bO;rw [if_neg (by omega),Nat.add_sub_cancel,List.getElem?_eq_getElem hkr,hr]);rw [hr] at hrow bX;have hsh:Short r:=HR.out.short r (hr▸List.getElem_mem hkr);obtain ⟨g0,g1,g2,g3,g4⟩:=hrow;obtain ⟨W,hW,hbW,hA⟩:=bZ wr r;have dz:=Lh (aj HB.out hbW);clear hbW;unfold lV at hA;obtain ⟨a0,a1,a2,a3,a4⟩:=hA;have k0:=cell_regrown a0;have k1:=cell_regrown a1;have k2:=cell_regrown a2;have k3:=cell_regrown a3;have k4:=cell_regrown a4;have c1:=Je r hsh;by_cases he:Vt.gT r=0
    ·
     have hne:(Vt.gT r != 0)=false:=by rw [he];rfl
     by_cases hk0:k=0
     ·
      subst hk0;simp only [Nat.zero_mul,Nat.add_zero] at g0 g1 g2 g3 g4
      have HO:Hid (Vt.ok (Vt.bO rs 0) r=true):=by
       show _=_;unfold Vt.ok Vt.bO;rw [decide_eq_true he];rfl
      have HE:=Lh he;clear he hr hsh;go_wp2;refine wp_region_quiet_below (by kernel_rfl) (by kernel_rfl) ?_
      repeat (first | go_big_quiet_step (first | (go_at_call 70;exact c1 _ _ _)) | quiet_step (first | (go_at_call 70;exact c1 _ _ _)))
      refine wpQuiet_nil ?_;intro _ hw';obtain ⟨⟨dq,osq⟩,hw''⟩:=hw';subst hw'';have cO:=Lh (aj dz.out (below_regrown W dq osq));go_wp2;go_roundw
      case rel=>exact ⟨1,by omega,rfl,Lh (by rw [<- HK.out,bX.out,HO.out,Bool.true_and]),Lh (fun q h=>by rw [HPr.out] at h;cases h;exact HE.out),cO⟩
      case measure=>simp [intOf];omega
     ·
      obtain ⟨j,rfl⟩:∃ j,k=j+1:=⟨k - 1,by omega⟩;have hjr:j < rs.length:=by omega
      obtain ⟨q,hq⟩:∃ q,rs[j]=q:=⟨_,rfl⟩;have hrow2:=(HR.out.row j hjr).below dz.out;have Xv:Short q:=HR.out.short q (hq▸List.getElem_mem hjr);rw [hq] at hrow2;obtain ⟨f0,f1,f2,f3,f4⟩:=hrow2;have m0:=cell_regrown f0;have m1:=cell_regrown f1;have m2:=cell_regrown f2;have m3:=cell_regrown f3;have m4:=cell_regrown f4;have hpj:Vt.bO rs (j+1)=some q:=by unfold Vt.bO;rw [if_neg (by omega),Nat.add_sub_cancel,List.getElem?_eq_getElem hjr,hq]
      have c2:=vH q r Xv hsh (HQ.out q hpj) he
      have HO:Hid (Vt.ok (Vt.bO rs (j+1)) r=Vt.lt q r):=by
       show _=_;unfold Vt.ok;rw [decide_eq_true he,hpj];rfl
      have hjs:((j+1:Nat):Int) - 1=(j:Int):=by omega
      have HE:=Lh he;clear he hq hk0 hpj hr hsh Xv;cases hlt2:Vt.lt q r
      ·
       rw [hlt2] at c2 HO;go_wp2;refine wp_region_quiet_below (by kernel_rfl) (by kernel_rfl) ?_
       repeat (first | go_big_quiet_step (first | (go_at_call 70;exact c1 _ _ _)|(go_at_call 71;exact c2 _ _ _)) | quiet_step (first | (go_at_call 70;exact c1 _ _ _)|(go_at_call 71;exact c2 _ _ _)))
       refine wpQuiet_nil ?_;intro _ hw';obtain ⟨⟨dq,osq⟩,hw''⟩:=hw';subst hw'';have cO:=Lh (aj dz.out (below_regrown W dq osq));go_wp2;go_ret;exact ⟨ay (by rw [HT.out,<- HK.out,bX.out,HO.out,Bool.false_and]),aj HW.out cO.out⟩
      ·
       rw [hlt2] at c2 HO;go_wp2;refine wp_region_quiet_below (by kernel_rfl) (by kernel_rfl) ?_
       repeat (first | go_big_quiet_step (first | (go_at_call 70;exact c1 _ _ _)|(go_at_call 71;exact c2 _ _ _)) | quiet_step (first | (go_at_call 70;exact c1 _ _ _)|(go_at_call 71;exact c2 _ _ _)))
       refine wpQuiet_nil ?_;intro _ hw';obtain ⟨⟨dq,osq⟩,hw''⟩:=hw';subst hw'';have cO:=Lh (aj dz.out (below_regrown W dq osq));go_wp2;go_roundw
       case rel=>exact ⟨j+1+1,by omega,by go_num,Lh (by rw [<- HK.out,bX.out,HO.out,Bool.true_and]),Lh (fun q h=>by rw [HPr.out] at h;cases h;exact HE.out),cO⟩
       case measure=>simp [intOf];omega
    ·
     have hne:(Vt.gT r != 0)=true:=bne_iff_ne.2 he
     have HO:Hid (Vt.ok (Vt.bO rs k) r=false):=by
      show _=_;unfold Vt.ok;rw [decide_eq_false he];rfl
     clear he hr hsh;go_wp2;refine wp_region_quiet_below (by kernel_rfl) (by kernel_rfl) ?_
     repeat (first | go_big_quiet_step (first | (go_at_call 70;exact c1 _ _ _)) | quiet_step (first | (go_at_call 70;exact c1 _ _ _)))
     refine wpQuiet_nil ?_;intro _ hw';obtain ⟨⟨dq,osq⟩,hw''⟩:=hw';subst hw'';have cO:=Lh (aj dz.out (below_regrown W dq osq));go_wp2;go_ret;exact ⟨ay (by rw [HT.out,<- HK.out,bX.out,HO.out,Bool.false_and]),aj HW.out cO.out⟩
   ·
    obtain rfl:k=n:=by omega
    go_wp2;go_ret;exact ⟨ay (by rw [HT.out,<- HK.out,List.drop_eq_nil_of_le (Nat.le_of_eq HN.out.symm)];rfl),aj HW.out HB.out⟩
namespace Vt
def aK (r a:Rt):Bool:=decide (a.cat=r.cat)&&decide (a.y=r.y)&&decide (a.m=r.m)&&decide (a.d=r.d)
theorem FQ {r a:Rt} (h0:a.cat=r.cat) (h1:a.y=r.y) (h2:a.m=r.m) (h3:a.d=r.d):aK r a=true:=by
 unfold aK;rw [decide_eq_true h0,decide_eq_true h1,decide_eq_true h2,decide_eq_true h3];rfl
theorem Ve {r a:Rt} (h:a.cat≠r.cat\/a.y≠r.y\/a.m≠r.m\/a.d≠r.d):aK r a=false:=by
 rw [Bool.eq_false_iff];intro k;unfold aK at k;simp only [Bool.and_eq_true,decide_eq_true_iff] at k;rcases h with h | h | h | h
 · exact h k.1.1.1
 · exact h k.1.1.2
 · exact h k.1.2
 · exact h k.2
theorem Vf {r a:Rt} (h:aK r a=true):a.cat=r.cat/\dy a=dy r:=by
 unfold aK at h;simp only [Bool.and_eq_true,decide_eq_true_iff] at h;refine ⟨h.1.1.1,?_⟩;unfold dy;rw [h.1.1.2,h.1.2,h.2]
theorem DR {r a:Rt} (h:lt a r=true\/lt r a=true):aK r a=false:=by
 rw [Bool.eq_false_iff];intro k;obtain ⟨k1,k2⟩:=Vf k;rcases h with h | h
 ·
  rw [jP k1,decide_eq_true_iff] at h;omega
 ·
  rw [jP k1.symm,decide_eq_true_iff] at h;omega
theorem Q8 (r:Rt) (l:List Rt) (h:∀ a∈l,lt r a=true):l.any (aK r)=false:=by
 rw [List.any_eq_false];intro a ha;rw [DR (.inr (h a ha))]
 simp
theorem BJ (r:Rt) (hr:gT r=0):∀ l:List Rt,Sorted l->(∀ a∈l,gT a=0)->taken l r=l.any (aK r)
 | [],_,_=>rfl
 | a::l,hs,he=>by
  unfold Sorted at hs;rw [List.pairwise_cons] at hs;rw [List.any_cons];rcases fq a r with h | ⟨h1,h2⟩ | h
  ·
   rw [yN h,DR (.inl h),Bool.false_or];exact BJ r hr l hs.2 fun b hb=>he b (List.mem_cons_of_mem _ hb)
  ·
   have ha:=oH.1 (he a (List.mem_cons_self ..));have hb:=oH.1 hr
   have hd:Dt.num a.y a.m a.d=Dt.num r.y r.m r.d:=by
    unfold dy at h2;rw [Dt.lZ ha.2.1,Dt.lZ hb.2.1] at h2;exact h2
   obtain ⟨e1,e2,e3⟩:=Dt.xX ha.2.1 hb.2.1 hd;have l1:lt a r=false:=by rw [jP h1];exact decide_eq_false (by omega)
   have l2:lt r a=false:=by rw [jP h1.symm];exact decide_eq_false (by omega)
   rw [tN l1,l2,FQ h1 e1 e2 e3];rfl
  ·
   rw [tN (lt_asymm h),h,DR (.inr h),Q8 r l fun b hb=>lt_trans h (hs.1 b hb)];rfl
theorem YJ (r:Rt) (l:List Rt) (k:Nat) (h:k < l.length):(l.drop k).any (aK r)=(aK r l[k]||(l.drop (k+1)).any (aK r)):=by
 rw [List.drop_eq_getElem_cons h];rfl
end Vt
theorem xH (r:Rt) (u:World) (i:Nat) (os:Array Obj):UU 179 #[.agg #[.string r.cat,.int .i64 r.y,.int .i64 r.m,.int .i64 r.d,.int .i64 r.bp]] u i os (.agg #[.string r.cat,.int .i64 r.y,.int .i64 r.m,.int .i64 r.d,.int .i64 0]) :=
 Calls.regrown_of (Q7 r _ _ (Below.refl _ _))
theorem Nc (rs:List Rt) (ao:Option Addr) (n cap:Nat) (r:Rt) (w0 w:World) (hw:Below w0.heap.size w0 w) (hR:om w ao n cap rs) :
  Calls Tryz.prog 163 #[.slice ao n cap,oP r] w fun e w'=>e=.returned (.bool (rs.any (Vt.aK r)))/\Below w0.heap.size w0 w':=by
 have HW:=Lh hw;have HR:=Lh hR;have HN:=Lh hR.len;have hcap:=hR.reach;have hfit:=hR.fits;clear hw hR;unfold oP;go_enter Tryz.func163,Tryz.ntmps163;go_wp2
 go_loopw [6,9] (fun _ i wr=>∃ k:Nat,k<=n/\i=.int .i64 k/\Hid ((rs.drop k).any (Vt.aK r)=rs.any (Vt.aK r))/\Hid (Below w.heap.size w wr)/\Hid (lV wr w.heap.size r)) (fun _ i _=>n - (intOf i).toNat)
 case atStart=>exact ⟨0,by omega,rfl,Lh rfl,Lh (jy w r),Lh (l9 w r)⟩
 case round =>
  obtain ⟨k,hk,rfl,HK,HB,HC⟩:=hrel;by_cases hlt:k < n
  ·
   obtain ⟨b,off,rfl⟩:=HR.out.at (by omega);have hkr:k < rs.length:=HN.out▸hlt;obtain ⟨q,hq⟩:∃ q,rs[k]=q:=⟨_,rfl⟩;have hrow:=(HR.out.row k hkr).below HB.out;have bX:=Lh (Vt.YJ r rs k hkr);rw [hq] at hrow bX;clear hq;obtain ⟨g0,g1,g2,g3,g4⟩:=hrow;obtain ⟨W,hW,hbW,hA⟩:=bZ wr q;have dz:=Lh (aj HB.out hbW);have hC:=HC.out.below hbW;have Q9:=Lh hC;clear hbW;unfold lV at hA hC;obtain ⟨a0,a1,a2,a3,a4⟩:=hA;obtain ⟨b0,b1,b2,b3,b4⟩:=hC;have k0:=cell_regrown a0;have k1:=cell_regrown a1;have k2:=cell_regrown a2;have k3:=cell_regrown a3;have k4:=cell_regrown a4;have l0:=cell_regrown b0;have l1:=cell_regrown b1;have l2:=cell_regrown b2;have l3:=cell_regrown b3;have l4:=cell_regrown b4;have c1:=xH q;have c2:=xH r;by_cases e:q.cat=r.cat/\q.y=r.y/\q.m=r.m/\q.d=r.d
   ·
    have HS:=Lh (Vt.FQ e.1 e.2.1 e.2.2.1 e.2.2.2);have q0:(q.cat.toList==r.cat.toList)=true:=beq_iff_eq.2 (by rw [e.1]);have q1:(q.y==r.y)=true:=beq_iff_eq.2 e.2.1;have q2:(q.m==r.m)=true:=beq_iff_eq.2 e.2.2.1;have q3:(q.d==r.d)=true:=beq_iff_eq.2 e.2.2.2;clear e;go_wp2;refine wp_region_quiet_below (by kernel_rfl) (by kernel_rfl) ?_
    repeat (first | go_big_quiet_step (first | (go_at_call_of 179 (Value.string q.cat);exact c1 _ _ _)|(go_at_call_of 179 (Value.string r.cat);exact c2 _ _ _)) | quiet_step (first | (go_at_call_of 179 (Value.string q.cat);exact c1 _ _ _)|(go_at_call_of 179 (Value.string r.cat);exact c2 _ _ _)))
    refine wpQuiet_nil ?_;intro _ hw';obtain ⟨⟨dq,osq⟩,hw''⟩:=hw';subst hw'';have cO:=Lh (aj dz.out (below_regrown W dq osq));go_wp2;go_ret;exact ⟨ay (by rw [<- HK.out,bX.out,HS.out];rfl),aj HW.out cO.out⟩
   ·
    have HS:Hid (Vt.aK r q=false):=Lh (Vt.Ve (by
     by_cases e0:q.cat=r.cat
     ·
      by_cases e1:q.y=r.y
      ·
       by_cases e2:q.m=r.m
       · exact .inr (.inr (.inr fun e3=>e ⟨e0,e1,e2,e3⟩))
       · exact .inr (.inr (.inl e2))
      · exact .inr (.inl e1)
     · exact .inl e0))
    have hq:(q.cat.toList==r.cat.toList)=false\/((q.cat.toList==r.cat.toList)=true/\(q.y==r.y)=false)\/((q.cat.toList==r.cat.toList)=true/\(q.y==r.y)=true/\(q.m==r.m)=false)\/((q.cat.toList==r.cat.toList)=true/\(q.y==r.y)=true/\(q.m==r.m)=true/\(q.d==r.d)=false):=by
     by_cases e0:q.cat=r.cat
     ·
      have h0:(q.cat.toList==r.cat.toList)=true:=beq_iff_eq.2 (by rw [e0]);by_cases e1:q.y=r.y
      ·
       by_cases e2:q.m=r.m
       · exact .inr (.inr (.inr ⟨h0,beq_iff_eq.2 e1,beq_iff_eq.2 e2,beq_eq_false_iff_ne.2 fun e3=>e ⟨e0,e1,e2,e3⟩⟩))
       · exact .inr (.inr (.inl ⟨h0,beq_iff_eq.2 e1,beq_eq_false_iff_ne.2 e2⟩))
      · exact .inr (.inl ⟨h0,beq_eq_false_iff_ne.2 e1⟩)
     · exact .inl (beq_eq_false_iff_ne.2 fun k=>e0 (Vt.gM k))
    clear e;rcases hq with q0 | ⟨q0,q1⟩ | ⟨q0,q1,q2⟩ | ⟨q0,q1,q2,q3⟩
    all_goals
     go_wp2;refine wp_region_quiet_below (by kernel_rfl) (by kernel_rfl) ?_
     repeat (first | go_big_quiet_step (first | (go_at_call_of 179 (Value.string q.cat);exact c1 _ _ _)|(go_at_call_of 179 (Value.string r.cat);exact c2 _ _ _)) | quiet_step (first | (go_at_call_of 179 (Value.string q.cat);exact c1 _ _ _)|(go_at_call_of 179 (Value.string r.cat);exact c2 _ _ _)))
     refine wpQuiet_nil ?_;intro _ hw';obtain ⟨⟨dq,osq⟩,hw''⟩:=hw';subst hw'';have cO:=Lh (aj dz.out (below_regrown W dq osq));have Vg:=Lh (Q9.out.below (below_regrown W dq osq));go_wp2;go_roundw
     case rel=>exact ⟨k+1,by omega,by go_num,Lh (by rw [<- HK.out,bX.out,HS.out,Bool.false_or]),cO,Vg⟩
     case measure=>simp [intOf];omega
  ·
   obtain rfl:k=n:=by omega
   go_wp2;go_ret;exact ⟨ay (by rw [<- HK.out,List.drop_eq_nil_of_le (Nat.le_of_eq HN.out.symm)];rfl),aj HW.out HB.out⟩
theorem Xw (u:World):(sizeOf (Tryz.prog.elem 24)).run Tryz.prog u=.ok 5 u:=by
 have h:(Tryz.prog.info? (Tryz.prog.elem 24)).map (·.size)=some 5:=by kernel_rfl
 obtain ⟨i,hi,hs⟩:=Option.map_eq_some_iff.1 h;simp [sizeOf,typeInfo,hi,hs]
theorem undR:Tryz.prog.underlying 24=some (.slice (Tryz.prog.elem 24)):=by kernel_rfl
variable {rs:List Rt}
theorem Ra {w:World} {ao:Option Addr} {n cap:Nat} (h:om w ao n cap rs) (k:Nat) (hk:k<=n) :
  (∀ u,(Instr.slice 24 (.slice ao n cap) none (some (.int .i64 (k:Int))) none).run Tryz.prog u=.ok (.slice ao k cap) u)/\om w ao k cap (rs.take k):=by
 have hl:=h.len;have hf:=h.fits;refine ⟨fun u=>?_,⟨by rw [List.length_take];omega,by omega,h.reach,h.nil,?_,fun r hr=>h.short r (List.mem_of_mem_take hr)⟩⟩
 ·
  rw [run_slice_h u 24 ao n cap undR .i64 k (by omega) (by omega),Xw];have e:Option.map (fun x:Addr=>x.add 0) ao=ao:=by cases ao <;> simp [Addr.add]
  simp [Result.andThen,sliced,e]
 ·
  rcases h.seg with e | ⟨b,off,e,hc⟩
  · exact .inl (by rw [e];simp)
  ·
   refine .inr ⟨b,off,e,fun j hj=>?_⟩;rw [List.length_take] at hj;rw [List.getElem_take];exact hc j (by omega)
theorem FR {w:World} {ao:Option Addr} {n cap:Nat} (h:om w ao n cap rs) (k:Nat) (hk:k<=n) :
  ∃ mO cap2,(∀ u,(Instr.slice 24 (.slice ao n cap) (some (.int .i64 (k:Int))) none none).run Tryz.prog u=.ok (.slice mO (n - k) cap2) u)/\om w mO (n - k) cap2 (rs.drop k):=by
 have hl:=h.len;have hf:=h.fits;refine ⟨if cap=k then ao else ao.map (·.add (k*5)),cap - k,fun u=>?_,⟨by rw [List.length_drop];omega,by omega,by have:=h.reach;omega,?_,?_,fun r hr=>h.short r (List.mem_of_mem_drop hr)⟩⟩
 ·
  rw [run_slice_l u 24 ao n cap undR .i64 k (by omega) (by omega),Xw];simp [Result.andThen,sliced]
 ·
  by_cases e:cap=k
  · omega
  ·
   rw [if_neg e];cases ao with
   | none=>have:=h.nil rfl;omega
   | some a=>exact fun k=>by cases k
 ·
  by_cases hkn:k=n
  · exact .inl (List.drop_eq_nil_of_le (by omega))
  ·
   rcases h.seg with e | ⟨b,off,rfl,hc⟩
   · exact .inl (by rw [e];simp)
   ·
    refine .inr ⟨b,off+k*5,?_,fun j hj=>?_⟩
    ·
     rw [if_neg (by omega)];unfold Addr.add;simp only [Option.map_some,Option.some.injEq];split
     ·
      rename_i e;rw [e];rfl
     · rfl
    ·
     rw [List.length_drop] at hj;rw [List.getElem_drop,show off+k*5+j*5=off+(k+j)*5 by omega];exact hc (k+j) (by omega)
def YK (w:World) (rs:List Rt) (r:Rt) (e:Ending) (w':World):Prop:=∃ v,e=.returned (.tuple #[v,.int .i64 (Vt.iQ rs r)])/\nQ w' w.heap.size v (Vt.pX rs r)/\Below w.heap.size w w'
theorem aN (w:World) (B:Nat):nQ w B (.slice none 0 0) []:=⟨rfl,.inl ⟨rfl,rfl⟩⟩
variable {r:Rt}
theorem wo (h:Vt.bN rs=false):Vt.iQ rs r=1/\Vt.pX rs r=[]:=by
 have e:Vt.iQ rs r=1:=if_pos h;refine ⟨e,?_⟩;unfold Vt.pX;rw [e];rfl
theorem Vh (h:Vt.bN rs=true) (k:Vt.gT r≠0):Vt.iQ rs r=Vt.gT r/\Vt.pX rs r=[]:=by
 have e:Vt.iQ rs r=Vt.gT r:=by
  unfold Vt.iQ;rw [if_neg (by rw [h];simp),if_pos k]
 refine ⟨e,?_⟩;unfold Vt.pX;rw [e,if_neg k]
theorem Nf (h:Vt.bN rs=true) (k:Vt.gT r=0) (l:Vt.taken rs r=true):Vt.iQ rs r=12/\Vt.pX rs r=[]:=by
 have e:Vt.iQ rs r=12:=by
  unfold Vt.iQ;rw [if_neg (by rw [h];simp),if_neg (by simpa using k),if_pos l]
 refine ⟨e,?_⟩;unfold Vt.pX;rw [e];rfl
theorem Rb (h:Vt.bN rs=true) (k:Vt.gT r=0) (l:Vt.taken rs r=false) (m:24<=rs.length):Vt.iQ rs r=2/\Vt.pX rs r=[]:=by
 have e:Vt.iQ rs r=2:=by
  unfold Vt.iQ;rw [if_neg (by rw [h];simp),if_neg (by simpa using k),if_neg (by rw [l];simp),if_pos m]
 refine ⟨e,?_⟩;unfold Vt.pX;rw [e];rfl
theorem YL (h:Vt.bN rs=true) (k:Vt.gT r=0) (l:Vt.taken rs r=false) (m:rs.length < 24):Vt.iQ rs r=0/\Vt.pX rs r=Vt.qB rs r:=by
 have e:Vt.iQ rs r=0:=by
  unfold Vt.iQ;rw [if_neg (by rw [h];simp),if_neg (by simpa using k),if_neg (by rw [l];simp),if_neg (by omega)]
 refine ⟨e,?_⟩;unfold Vt.pX;rw [e];rfl
theorem mU (r:Rt) (rs:List Rt) (k:Nat) (h:k < rs.length):Vt.spot r (rs.drop k)=if Vt.lt rs[k] r=true then Vt.spot r (rs.drop (k+1))+1 else 0:=by
 rw [List.drop_eq_getElem_cons h];rfl
theorem rF (w:World) (r:Rt):Below w.heap.size w (w.alloc (.cells #[.string r.cat,.int .i64 r.y,.int .i64 r.m,.int .i64 r.d,.int .i64 r.bp] 52)):=(Below.refl _ _).alloc (Nat.le_refl _) _
theorem jh (n:Nat) (hn:n<=1000) (u:World):(Instr.makeSlice 24 (.int .i64 0) (.int .i64 ((n:Int)+1))).run Tryz.prog u =
  .ok (.slice (some ⟨u.heap.size,0,none⟩) 0 (n+1)) (u.alloc (.cells (jX (n+1)) 52)):=by
 obtain ⟨i0,hi,hz0,hz1,hz2⟩:=info_parts Xu;have h:=run_make (P:=Tryz.prog) u 24 52 i0 zeroV Tryz.underlying24 hi hz0 .i64 .i64 0 ((n:Int)+1) (by omega) (by omega) (by rw [hz2];omega) (by omega);rw [hz1,show ((n:Int)+1).toNat=n+1 from by omega,BG] at h;exact h
theorem eT (u:World) (B c:Nat) (hB:B<=u.heap.size) (hc:c<=1000):nQ (u.alloc (.cells (jX c) 52)) B (.slice (some ⟨u.heap.size,0,none⟩) 0 c) [] :=
 ⟨rfl,.inr ⟨u.heap.size,c,jX c,rfl,hB,heap_alloc_new u _,Nat.zero_le _,by have:maxLen=9223372036854775807:=rfl;omega,by unfold jX;rw [List.size_toArray,aB,List.length_replicate],rfl⟩⟩
theorem Rf (rs:List Rt) (ao:Option Addr) (n cap:Nat) (r:Rt) (w:World) (hR:om w ao n cap rs) (hs:Short r) (hn:n < 24) (hE:∀ a∈rs,Vt.gT a=0) (he:Vt.gT r=0) :
  Calls Tryz.prog 164 #[.slice ao n cap,oP r] w fun e w'=>∃ v,e=.returned v/\nQ w' w.heap.size v (Vt.qB rs r)/\Below w.heap.size w w':=by
 have HR:=Lh hR;have HS:=Lh hs;have HN:=Lh hR.len;have HE:=Lh hE;have Rh:=Lh he;have hcap:=hR.reach;have hfit:=hR.fits;clear hR hs hE he;unfold oP;go_enter Tryz.func164,Tryz.ntmps164;go_wp2
 go_loopw [5] (fun i wr=>∃ k:Nat,k<=n/\i=.int .i64 k/\Hid (k+Vt.spot r (rs.drop k)=Vt.spot r rs)/\Hid (Below w.heap.size w wr)/\Hid (lV wr w.heap.size r)) (fun i _=>n - (intOf i).toNat)
 case atStart=>exact ⟨0,by omega,rfl,Lh (Nat.zero_add _),Lh (jy w r),Lh (l9 w r)⟩
 case round =>
  rename World=>wz
  obtain ⟨k,hk,rfl,HK,HB,KZ⟩:=hrel;have hC:=KZ.out;unfold lV at hC;obtain ⟨a0,a1,a2,a3,a4⟩:=hC;have l0:=cell_regrown a0;have l1:=cell_regrown a1;have l2:=cell_regrown a2;have l3:=cell_regrown a3;have l4:=cell_regrown a4;by_cases hlt:k < n
  ·
   obtain ⟨b,off,rfl⟩:=HR.out.at (by omega);have hkr:k < rs.length:=HN.out▸hlt;obtain ⟨q,hq⟩:∃ q,rs[k]=q:=⟨_,rfl⟩;have hmem:q∈rs:=hq▸List.getElem_mem hkr;have hrow:=(HR.out.row k hkr).below HB.out;have bX:=Lh (mU r rs k hkr);rw [hq] at hrow bX;obtain ⟨g0,g1,g2,g3,g4⟩:=hrow;have k0:=cell_regrown g0;have k1:=cell_regrown g1;have k2:=cell_regrown g2;have k3:=cell_regrown g3;have k4:=cell_regrown g4;have c1:=vH q r (HR.out.short q hmem) HS.out (HE.out q hmem) Rh.out;clear hq hmem;cases hqr:Vt.lt q r
   ·
    rw [hqr] at c1;rw [hqr,if_neg (by simp)] at bX;have oW:Hid (Vt.spot r rs=k):=Lh (by rw [<- HK.out,bX.out];rfl);go_wp2;refine wp_region_quiet_below (by kernel_rfl) (by kernel_rfl) ?_
    repeat (first | go_big_quiet_step (first | (go_at_call 71;exact c1 _ _ _)) | quiet_step (first | (go_at_call 71;exact c1 _ _ _)))
    refine wpQuiet_nil ?_;intro _ hw';obtain ⟨⟨dq,osq⟩,hw''⟩:=hw';subst hw'';have oo:=Lh (aj HB.out (below_regrown wz dq osq));have fM:=Lh (KZ.out.below (below_regrown wz dq osq));clear k0 k1 k2 k3 k4 l0 l1 l2 l3 l4 g0 g1 g2 g3 g4 a0 a1 a2 a3 a4 c1;generalize grow (redrawn wz dq) osq=x at *;have HP:Hid (Vt.qB rs r=rs.take k++r::rs.drop k):=Lh (by unfold Vt.qB;rw [oW.out]);have BK:=Lh (HR.out.below oo.out);obtain ⟨hs1,lD⟩:=Ra BK.out k (by omega);obtain ⟨mO,cap2,hs2,hR2⟩:=FR BK.out k (by omega);obtain ⟨j,hj⟩:∃ j,n - k=j:=⟨_,rfl⟩;rw [hj] at hs2 hR2;have HR1:=Lh lD;have HR2:=Lh hR2;have hjb:j<=24:=by omega
    have hkb:k<=24:=by omega
    have hmk:=jh n (by omega);clear lD hR2 hj;have hB1:Below x.heap.size x (x.alloc (.cells (jX (n+1)) 52)):=(Below.refl _ _).alloc (Nat.le_refl _) _;have HB1:=Lh hB1;clear hB1;go_wp2_with (at_builtin;go_must (refine dD _ rfl (.tmp 25) (.tmp 28) rfl x.heap.size (.slice (some ⟨x.heap.size,0,none⟩) 0 (n+1)) [] rfl (eT x x.heap.size (n+1) (Nat.le_refl _) (by omega)) (some ⟨b,off,none⟩) k cap (rs.take k) rfl HR1.out.len HR1.out.nil (HR1.out.below HB1.out).seg (by simp only [List.length_nil];omega) (by simp) ?_));intro v1 y1 o1 vI _;have hb1:=HB1.out.grown vI HB1.out.size (bK (eT x x.heap.size (n+1) (Nat.le_refl _) (by omega)));have lY:Hid (∀ o,nQ (y1.alloc o) x.heap.size v1 ([]++rs.take k)):=fun o=>bA o1 o
    have oQ:=Lh hb1;have hC:=fM.out.below hb1;have iA:=Lh hC;unfold lV at hC;obtain ⟨a0,a1,a2,a3,a4⟩:=hC;have hsz1:x.heap.size<=y1.heap.size:=hb1.size;clear o1 vI hb1;go_wp2_with (at_builtin;go_must (refine dD _ rfl (.tmp 30) (.tmp 32) rfl x.heap.size v1 ([]++rs.take k) rfl (lY.out _) (some ⟨y1.heap.size,0,none⟩) 1 1 [r] rfl rfl (fun h=>by cases h) (bB (heap_alloc_new y1 _)) (by rw [List.nil_append,<- HR1.out.len];omega) (by simp;omega) ?_));intro v2 y2 o2 tu _;have hb2:=(oQ.out.alloc oQ.out.size (kX r)).grown tu (oQ.out.alloc oQ.out.size (kX r)).size (bK (lY.out (kX r)));have lX:=Lh o2;have mP:=Lh hb2;clear o2 tu hb2 a0 a1 a2 a3 a4;go_wp2_with (at_builtin;go_must (refine dD _ rfl (.tmp 34) (.tmp 37) rfl x.heap.size v2 ([]++rs.take k++[r]) rfl lX.out mO j cap2 (rs.drop k) rfl HR2.out.len HR2.out.nil (HR2.out.below mP.out).seg (by rw [List.nil_append,List.length_append,<- HR1.out.len,List.length_singleton];omega) mP.out.size ?_));intro v3 y3 o3 ou _;have hb3:=mP.out.grown ou mP.out.size (bK lX.out);have ow:=Lh o3;have xR:=Lh hb3;clear o3 ou hb3;go_wp2;go_ret;exact ⟨v3,rfl,by rw [HP.out];exact bD ow.out oo.out.size,aj oo.out xR.out⟩
   ·
    rw [hqr] at c1;rw [hqr,if_pos rfl] at bX;go_wp2;refine wp_region_quiet_below (by kernel_rfl) (by kernel_rfl) ?_
    repeat (first | go_big_quiet_step (first | (go_at_call 71;exact c1 _ _ _)) | quiet_step (first | (go_at_call 71;exact c1 _ _ _)))
    refine wpQuiet_nil ?_;intro _ hw';obtain ⟨⟨dq,osq⟩,hw''⟩:=hw';subst hw'';have cO:=Lh (aj HB.out (below_regrown wz dq osq));go_wp2;go_roundw
    case rel=>exact ⟨k+1,by omega,by go_num,Lh (by rw [<- HK.out,bX.out];omega),cO,Lh (KZ.out.below (below_regrown wz dq osq))⟩
    case measure=>simp [intOf];omega
  ·
   obtain rfl:k=n:=by omega
   have oW:Hid (Vt.spot r rs=k):=Lh (by rw [<- HK.out,List.drop_eq_nil_of_le (Nat.le_of_eq HN.out.symm)];rfl);go_wp2;refine wp_region_quiet_below (by kernel_rfl) (by kernel_rfl) ?_
   repeat (first | go_big_quiet_step (fail) | quiet_step (fail))
   refine wpQuiet_nil ?_;intro _ hw';obtain ⟨⟨dq,osq⟩,hw''⟩:=hw';subst hw'';have oo:=Lh (aj HB.out (below_regrown wz dq osq));have fM:=Lh (KZ.out.below (below_regrown wz dq osq));clear l0 l1 l2 l3 l4 a0 a1 a2 a3 a4;generalize grow (redrawn wz dq) osq=x at *;have HP:Hid (Vt.qB rs r=rs.take k++r::rs.drop k):=Lh (by unfold Vt.qB;rw [oW.out]);have BK:=Lh (HR.out.below oo.out);obtain ⟨hs1,lD⟩:=Ra BK.out k (by omega);obtain ⟨mO,cap2,hs2,hR2⟩:=FR BK.out k (by omega);obtain ⟨j,hj⟩:∃ j,k - k=j:=⟨_,rfl⟩;rw [hj] at hs2 hR2;have HR1:=Lh lD;have HR2:=Lh hR2;have hjb:j<=24:=by omega
   have hkb:k<=24:=by omega
   have hmk:=jh k (by omega);clear lD hR2 hj;have hB1:Below x.heap.size x (x.alloc (.cells (jX (k+1)) 52)):=(Below.refl _ _).alloc (Nat.le_refl _) _;have HB1:=Lh hB1;clear hB1;go_wp2_with (at_builtin;go_must (refine dD _ rfl (.tmp 25) (.tmp 28) rfl x.heap.size (.slice (some ⟨x.heap.size,0,none⟩) 0 (k+1)) [] rfl (eT x x.heap.size (k+1) (Nat.le_refl _) (by omega)) ao k cap (rs.take k) rfl HR1.out.len HR1.out.nil (HR1.out.below HB1.out).seg (by simp only [List.length_nil];omega) (by simp) ?_));intro v1 y1 o1 vI _;have hb1:=HB1.out.grown vI HB1.out.size (bK (eT x x.heap.size (k+1) (Nat.le_refl _) (by omega)));have lY:Hid (∀ o,nQ (y1.alloc o) x.heap.size v1 ([]++rs.take k)):=fun o=>bA o1 o
   have oQ:=Lh hb1;have hC:=fM.out.below hb1;have iA:=Lh hC;unfold lV at hC;obtain ⟨a0,a1,a2,a3,a4⟩:=hC;have hsz1:x.heap.size<=y1.heap.size:=hb1.size;clear o1 vI hb1;go_wp2_with (at_builtin;go_must (refine dD _ rfl (.tmp 30) (.tmp 32) rfl x.heap.size v1 ([]++rs.take k) rfl (lY.out _) (some ⟨y1.heap.size,0,none⟩) 1 1 [r] rfl rfl (fun h=>by cases h) (bB (heap_alloc_new y1 _)) (by rw [List.nil_append,<- HR1.out.len];omega) (by simp;omega) ?_));intro v2 y2 o2 tu _;have hb2:=(oQ.out.alloc oQ.out.size (kX r)).grown tu (oQ.out.alloc oQ.out.size (kX r)).size (bK (lY.out (kX r)));have lX:=Lh o2;have mP:=Lh hb2;clear o2 tu hb2 a0 a1 a2 a3 a4;go_wp2_with (at_builtin;go_must (refine dD _ rfl (.tmp 34) (.tmp 37) rfl x.heap.size v2 ([]++rs.take k++[r]) rfl lX.out mO j cap2 (rs.drop k) rfl HR2.out.len HR2.out.nil (HR2.out.below mP.out).seg (by rw [List.nil_append,List.length_append,<- HR1.out.len,List.length_singleton];omega) mP.out.size ?_));intro v3 y3 o3 ou _;have hb3:=mP.out.grown ou mP.out.size (bK lX.out);have ow:=Lh o3;have xR:=Lh hb3;clear o3 ou hb3;go_wp2;go_ret;exact ⟨v3,rfl,by rw [HP.out];exact bD ow.out oo.out.size,aj oo.out xR.out⟩
theorem Vi (rs:List Rt) (ao:Option Addr) (n cap:Nat) (r:Rt) (w:World) (hR:om w ao n cap rs) (hs:Short r) :
  Calls Tryz.prog 133 #[.slice ao n cap,oP r] w (YK w rs r):=by
 have HR:=Lh hR;have HS:=Lh hs;have HN:=Lh hR.len;have hcap:=hR.reach;have hfit:=hR.fits;clear hR hs;unfold oP;go_enter Tryz.func133,Tryz.ntmps133;go_wp2_with fail;refine (sj rs ao n cap _ _ (Below.refl _ _) (HR.out.below (rF w r))).mono ?_;rintro e w1 ⟨rfl,b1⟩;cases hT:Vt.bN rs
 ·
  have HP:=Lh (wo (r:=r) hT);have HB:=Lh (aj (rF w r) b1);clear b1;go_wp2_with fail;go_ret2;exact ⟨_,by rw [HP.out.1];rfl,by rw [HP.out.2];exact aN _ _,HB.out⟩
 ·
  have Hr:=Lh hT;have hC:=(l9 w r).below b1;have HC:=Lh hC;unfold lV at hC;obtain ⟨a0,a1,a2,a3,a4⟩:=hC;have HB1:=Lh (aj (rF w r) b1);clear b1 hT;go_wp2_with fail;refine (KY r _ _ (Below.refl _ _) HS.out).mono ?_;rintro e w2 ⟨rfl,b2⟩;clear a0 a1 a2 a3 a4;have hC:=HC.out.below b2;have iK:=Lh hC;unfold lV at hC;obtain ⟨a0,a1,a2,a3,a4⟩:=hC;have HB2:=Lh (aj HB1.out b2);clear b2;by_cases he:Vt.gT r=0
  ·
   have HE:=Lh he;have p9:=Lh (Vt.BJ r HE.out rs ((Vt.gW rs).1 Hr.out).2.2 ((Vt.gW rs).1 Hr.out).2.1);rw [he];clear he;go_wp2_with fail;refine (Nc rs ao n cap r _ _ (Below.refl _ _) (HR.out.below HB2.out)).mono ?_;rintro e w3 ⟨rfl,b3⟩;clear a0 a1 a2 a3 a4;have hC:=iK.out.below b3;unfold lV at hC;obtain ⟨a0,a1,a2,a3,a4⟩:=hC;have HB3:=Lh (aj HB2.out b3);clear b3;cases hk:rs.any (Vt.aK r)
   ·
    have HK:Hid (Vt.taken rs r=false):=Lh (p9.out.trans hk);clear hk;by_cases Z8:n=24
    ·
     have hq:((n:Int)==24)=true:=beq_iff_eq.2 (by omega);have HP:=Lh (Rb Hr.out HE.out HK.out (by have:=HN.out;omega));clear Z8;go_wp2_with fail;go_ret2;exact ⟨_,by rw [HP.out.1];rfl,by rw [HP.out.2];exact aN _ _,HB3.out⟩
    ·
     have hq:((n:Int)==24)=false:=beq_eq_false_iff_ne.2 (by omega);have HL:Hid (n < 24):=Lh (by have h1:=((Vt.gW rs).1 Hr.out).1;have:=HN.out;omega);have HP:=Lh (YL Hr.out HE.out HK.out (by have:=HL.out;have:=HN.out;omega));clear Z8;go_wp2_with fail;refine (Rf rs ao n cap r _ (HR.out.below HB3.out) HS.out HL.out ((Vt.gW rs).1 Hr.out).2.1 HE.out).mono ?_;rintro e w4 ⟨v,rfl,o4,b4⟩;have HO:=Lh (bD o4 HB3.out.size);have pR:=Lh (aj HB3.out b4);clear o4 b4;go_wp2_with fail;go_ret2;exact ⟨v,by rw [HP.out.1];rfl,by rw [HP.out.2];exact HO.out,pR.out⟩
   ·
    have HP:=Lh (Nf Hr.out HE.out (p9.out.trans hk));clear hk;go_wp2_with fail;go_ret2;exact ⟨_,by rw [HP.out.1];rfl,by rw [HP.out.2];exact aN _ _,HB3.out⟩
  ·
   have hne:(Vt.gT r != 0)=true:=bne_iff_ne.2 he;have HP:=Lh (Vh Hr.out he);go_wp2_with fail;go_ret2;exact ⟨_,by rw [HP.out.1];rfl,by rw [HP.out.2];exact aN _ _,HB2.out⟩
end Go.Proofs.YtpfdnemaaeolcaaGreat
set_option linter.unusedVariables false
namespace Go.Proofs.YtpfdnemaaeolcaaGreat
open Go.RowKit
def Sp.rep (r:Sn.T):Rp.T:=⟨r.why,r.num,r.au⟩
def JoinE (w:World) (l:List Sn.T) (i:Int) (e:Ending) (w':World):Prop:=∃ v,e=.returned (.tuple #[v,.int .i64 (Sp.kU l i)])/\Sn.Own w' w.heap.size v (Sp.mY l i)/\Below w.heap.size w w'
def YM (w:World) (l:List Sn.T) (i:Int) (e:Ending) (w':World):Prop:=∃ v,e=.returned (.tuple #[v,.int .i64 (Sp.dU l i)])/\Sn.Own w' w.heap.size v (Sp.iX l i)/\Below w.heap.size w w'
def Xx (w0:World) (l:List Sn.T) (i q:Int) (e:Ending) (w':World):Prop:=e=.returned (.tuple #[Rp.val (Sp.rep (Sp.qI l i q)),.bool (Sp.lookO l i q),.int .i64 (Sp.bQ l i q)])/\Below w0.heap.size w0 w'
def K8 (w:World) (l:List Sn.T) (i q:Int) (r:Rp.T) (e:Ending) (w':World):Prop:=∃ v,e=.returned (.tuple #[v,.int .i64 (Sp.lI l i q)])/\Sn.Own w' w.heap.size v (Sp.keepR l i q r.why r.num r.au)/\Below w.heap.size w w'
theorem Sn.Ng (h:Fit i):Sn.Short (Sp.new i):=⟨h,⟨by show (-9223372036854775808:Int)<=0;omega,by show (0:Int)<=9223372036854775807;omega⟩,⟨by show (-9223372036854775808:Int)<=0;omega,by show (0:Int)<=9223372036854775807;omega⟩,⟨by show (-9223372036854775808:Int)<=0;omega,by show (0:Int)<=9223372036854775807;omega⟩,⟨by show (-9223372036854775808:Int)<=0;omega,by show (0:Int)<=9223372036854775807;omega⟩⟩
theorem Sp.Jf {l:List Sn.T} (hs:∀ r∈l,Sn.Short r) (hi:Fit i):∀ r∈Sp.mY l i,Sn.Short r:=by
 intro r hr;unfold Sp.mY at hr;split at hr
 ·
  rcases Sp.fQ.1 hr with rfl | hr
  · exact Sn.Ng hi
  · exact hs r hr
 · cases hr
theorem Sp.FT {l:List Sn.T} (hs:∀ r∈l,Sn.Short r):∀ r∈Sp.iX l i,Sn.Short r:=by
 intro r hr;unfold Sp.iX at hr;split at hr
 · exact hs r (Sp.yj hr)
 · cases hr
theorem Sp.Nh {l:List Sn.T} {k:Nat} {r:Sn.T} (hs:∀ r∈l,Sn.Short r) (hr:Sn.Short r):∀ x∈l.set k r,Sn.Short x:=by
 intro x hx;rcases List.mem_or_eq_of_mem_set hx with hx | rfl
 · exact hs x hx
 · exact hr
theorem Sp.Jg {l:List Sn.T} {q:Int} {r:Rp.T} (hs:∀ r∈l,Sn.Short r) (hi:Fit i) (hq:Fit q) (hr:Rp.Short r):∀ x∈Sp.keepR l i q r.why r.num r.au,Sn.Short x:=by
 intro x hx;unfold Sp.keepR at hx;split at hx
 · exact Sp.Nh hs ⟨hi,hq,hr.1,hr.2.1,hr.2.2⟩ x hx
 · cases hx
open Mem
open Go.Sort (grow)
def AnsS (f:FuncId) (args:Array Value) (u:World) (i:Nat) (os:Array Obj) (v:Value):Prop :=
 Calls Tryz.prog f args (grow (redrawn u i) os) fun e w''=>e=.returned v/\∃ p:Regrown,w''=grow (redrawn u p.d) p.os
theorem xI (n:Int) (w:World):Calls Tryz.prog 85 #[.int .i64 n] w fun e w'=>e=.returned (.bool (Sp.qH n))/\w'=w:=by
 by_cases h1:1<=n
 ·
  by_cases h2:n<=1099511627776
  ·
   have HL:=Lh (Sp.mX.2 ⟨h1,h2⟩);go_enter Tryz.func85,Tryz.ntmps85;go_wp2;go_ret;exact ⟨ay HL.out.symm,rfl⟩
  ·
   have HL:Hid (Sp.qH n=false):=Lh (Bool.eq_false_iff.2 fun k=>h2 (Sp.mX.1 k).2);go_enter Tryz.func85,Tryz.ntmps85;go_wp2;go_ret;exact ⟨ay HL.out.symm,rfl⟩
 ·
  have HL:Hid (Sp.qH n=false):=Lh (Bool.eq_false_iff.2 fun k=>h1 (Sp.mX.1 k).1);go_enter Tryz.func85,Tryz.ntmps85;go_wp2;go_ret;exact ⟨ay HL.out.symm,rfl⟩
theorem FU (n:Int) (u:World) (i:Nat) (os:Array Obj):AnsS 85 #[.int .i64 n] u i os (.bool (Sp.qH n)) :=
 Calls.regrown_of ((xI n _).mono fun _ _ h=>⟨h.1,by rw [h.2];exact Below.refl _ _⟩)
theorem BM (i:Int) (w0 w:World) (hw:Below w0.heap.size w0 w) :
  Calls Tryz.prog 128 #[.int .i64 i] w fun e w'=>e=.returned (Sn.val (Sp.new i))/\Below w0.heap.size w0 w':=by
 have HW:=Lh hw;clear hw;go_enter Tryz.func128,Tryz.ntmps128;go_wp2;exact bodyPost_ret (v:=Sn.val (Sp.new i)) (by simp [results,Sn.val,Sp.new,Tryz.results128,go_sem]) rfl ⟨rfl,aL HW.out _⟩
theorem Ni (i:Int) (u:World) (k:Nat) (os:Array Obj):AnsS 128 #[.int .i64 i] u k os (.agg #[.int .i64 i,.int .i64 0,.int .i64 0,.int .i64 0,.int .i64 0]) :=
 Calls.regrown_of (BM i _ _ (Below.refl _ _))
def Sp.mid (r:Sn.T):Bool:=Sp.qH r.last||(decide (r.last=0)&&Sp.KD r)
theorem Sp.DT {r:Sn.T} (h:Sp.qH r.last=false) (k:r.last≠0\/r.why≠0\/r.num≠0\/r.au≠0):Sp.mid r=false:=by
 unfold Sp.mid;rw [h,Bool.false_or];rw [Bool.eq_false_iff];intro hh;rw [Bool.and_eq_true,decide_eq_true_iff,Sp.vv] at hh;omega
theorem Sp.mid_zero {r:Sn.T} (h0:r.last=0) (h1:r.why=0) (h2:r.num=0) (h3:r.au=0):Sp.mid r=true:=by
 unfold Sp.mid;rw [decide_eq_true h0,Sp.vv.2 ⟨h1,h2,h3⟩,Bool.and_self,Bool.or_true]
theorem Sp.Vj {r:Sn.T} (h:Sp.qH r.last=true):Sp.mid r=true:=by
 unfold Sp.mid;rw [h,Bool.true_or]
def Sp.aid:Option Sn.T->Int
 | none=>0
 | some q=>q.id
theorem Sp.YN (p:Option Sn.T) (r:Sn.T) (h:0<=Sp.aid p):Sp.ok p r=(decide (Sp.aid p < r.id)&&Sp.mid r):=by
 have hm:Sp.mid r=true↔0<=r.last/\r.last<=1099511627776/\(r.last=0->r.why=0/\r.num=0/\r.au=0):=by
  unfold Sp.mid;rw [Bool.or_eq_true,Bool.and_eq_true,decide_eq_true_iff,Sp.mX,Sp.vv];omega
 rw [Bool.eq_iff_iff];unfold Sp.ok;rw [Bool.and_eq_true,Bool.and_eq_true,Sp.bL,hm,decide_eq_true_iff];cases p with
 | none =>
  unfold Sp.aid;simp only [and_true];omega
 | some q =>
  unfold Sp.aid at h ⊢;simp only at h ⊢;rw [Sp.lt_iff];omega
theorem Nj (r:Sn.T) (w0 w:World) (hw:Below w0.heap.size w0 w) :
  Calls Tryz.prog 115 #[Sn.val r] w fun e w'=>e=.returned (.bool (Sp.mid r))/\Below w0.heap.size w0 w':=by
 have HW:=Lh hw;clear hw;obtain ⟨W,hW,hbW,hC⟩:=Sn.bZ w r;have dz:=Lh (aj HW.out hbW);clear hbW;unfold Sn.C at hC;obtain ⟨a0,a1,a2,a3,a4⟩:=hC;have k0:=cell_regrown a0;have k1:=cell_regrown a1;have k2:=cell_regrown a2;have k3:=cell_regrown a3;have k4:=cell_regrown a4;have c1:=FU r.last;have c2:=Ni r.id;unfold Sn.val;cases hn:Sp.qH r.last
 ·
  rw [hn] at c1;have HN:=Lh hn;clear hn;by_cases h1:r.last=0
  ·
   by_cases h2:r.why=0
   ·
    by_cases h3:r.num=0
    ·
     by_cases h4:r.au=0
     ·
      have HE:=Lh (Sp.mid_zero h1 h2 h3 h4);have q1:(r.last==0)=true:=beq_iff_eq.2 h1;have q2:(r.why==0)=true:=beq_iff_eq.2 h2;have q3:(r.num==0)=true:=beq_iff_eq.2 h3;have q4:(r.au==0)=true:=beq_iff_eq.2 h4;clear h1 h2 h3 h4;go_enter Tryz.func115,Tryz.ntmps115;go_wp2;refine wp_region_quiet_below (by kernel_rfl) (by kernel_rfl) ?_
      repeat (first | go_big_quiet_step (first | (go_at_call 85;exact c1 _ _ _)|(go_at_call 128;exact c2 _ _ _)) | quiet_step (first | (go_at_call 85;exact c1 _ _ _)|(go_at_call 128;exact c2 _ _ _)))
      refine wpQuiet_nil ?_;intro _ hw';obtain ⟨⟨dq,osq⟩,hw''⟩:=hw';subst hw'';have cO:=Lh (aj dz.out (below_regrown W dq osq));go_wp2;go_ret;exact ⟨ay HE.out.symm,cO.out⟩
     ·
      have HE:=Lh (Sp.DT HN.out (.inr (.inr (.inr h4))));have q1:(r.last==0)=true:=beq_iff_eq.2 h1;have q2:(r.why==0)=true:=beq_iff_eq.2 h2;have q3:(r.num==0)=true:=beq_iff_eq.2 h3;have q4:(r.au==0)=false:=beq_eq_false_iff_ne.2 h4;clear h1 h2 h3 h4;go_enter Tryz.func115,Tryz.ntmps115;go_wp2;refine wp_region_quiet_below (by kernel_rfl) (by kernel_rfl) ?_
      repeat (first | go_big_quiet_step (first | (go_at_call 85;exact c1 _ _ _)|(go_at_call 128;exact c2 _ _ _)) | quiet_step (first | (go_at_call 85;exact c1 _ _ _)|(go_at_call 128;exact c2 _ _ _)))
      refine wpQuiet_nil ?_;intro _ hw';obtain ⟨⟨dq,osq⟩,hw''⟩:=hw';subst hw'';have cO:=Lh (aj dz.out (below_regrown W dq osq));go_wp2;go_ret;exact ⟨ay HE.out.symm,cO.out⟩
    ·
     have HE:=Lh (Sp.DT HN.out (.inr (.inr (.inl h3))));have q1:(r.last==0)=true:=beq_iff_eq.2 h1;have q2:(r.why==0)=true:=beq_iff_eq.2 h2;have q3:(r.num==0)=false:=beq_eq_false_iff_ne.2 h3;clear h1 h2 h3;go_enter Tryz.func115,Tryz.ntmps115;go_wp2;refine wp_region_quiet_below (by kernel_rfl) (by kernel_rfl) ?_
     repeat (first | go_big_quiet_step (first | (go_at_call 85;exact c1 _ _ _)|(go_at_call 128;exact c2 _ _ _)) | quiet_step (first | (go_at_call 85;exact c1 _ _ _)|(go_at_call 128;exact c2 _ _ _)))
     refine wpQuiet_nil ?_;intro _ hw';obtain ⟨⟨dq,osq⟩,hw''⟩:=hw';subst hw'';have cO:=Lh (aj dz.out (below_regrown W dq osq));go_wp2;go_ret;exact ⟨ay HE.out.symm,cO.out⟩
   ·
    have HE:=Lh (Sp.DT HN.out (.inr (.inl h2)));have q1:(r.last==0)=true:=beq_iff_eq.2 h1;have q2:(r.why==0)=false:=beq_eq_false_iff_ne.2 h2;clear h1 h2;go_enter Tryz.func115,Tryz.ntmps115;go_wp2;refine wp_region_quiet_below (by kernel_rfl) (by kernel_rfl) ?_
    repeat (first | go_big_quiet_step (first | (go_at_call 85;exact c1 _ _ _)|(go_at_call 128;exact c2 _ _ _)) | quiet_step (first | (go_at_call 85;exact c1 _ _ _)|(go_at_call 128;exact c2 _ _ _)))
    refine wpQuiet_nil ?_;intro _ hw';obtain ⟨⟨dq,osq⟩,hw''⟩:=hw';subst hw'';have cO:=Lh (aj dz.out (below_regrown W dq osq));go_wp2;go_ret;exact ⟨ay HE.out.symm,cO.out⟩
  ·
   have HE:=Lh (Sp.DT HN.out (.inl h1));have q1:(r.last==0)=false:=beq_eq_false_iff_ne.2 h1;clear h1;go_enter Tryz.func115,Tryz.ntmps115;go_wp2;refine wp_region_quiet_below (by kernel_rfl) (by kernel_rfl) ?_
   repeat (first | go_big_quiet_step (first | (go_at_call 85;exact c1 _ _ _)|(go_at_call 128;exact c2 _ _ _)) | quiet_step (first | (go_at_call 85;exact c1 _ _ _)|(go_at_call 128;exact c2 _ _ _)))
   refine wpQuiet_nil ?_;intro _ hw';obtain ⟨⟨dq,osq⟩,hw''⟩:=hw';subst hw'';have cO:=Lh (aj dz.out (below_regrown W dq osq));go_wp2;go_ret;exact ⟨ay HE.out.symm,cO.out⟩
 ·
  rw [hn] at c1;have HE:=Lh (Sp.Vj hn);clear hn;go_enter Tryz.func115,Tryz.ntmps115;go_wp2;refine wp_region_quiet_below (by kernel_rfl) (by kernel_rfl) ?_
  repeat (first | go_big_quiet_step (first | (go_at_call 85;exact c1 _ _ _)|(go_at_call 128;exact c2 _ _ _)) | quiet_step (first | (go_at_call 85;exact c1 _ _ _)|(go_at_call 128;exact c2 _ _ _)))
  refine wpQuiet_nil ?_;intro _ hw';obtain ⟨⟨dq,osq⟩,hw''⟩:=hw';subst hw'';have cO:=Lh (aj dz.out (below_regrown W dq osq));go_wp2;go_ret;exact ⟨ay HE.out.symm,cO.out⟩
theorem su (ls:List Sn.T) (i:Int) (ao:Option Addr) (n cap:Nat) (w0 w:World) (hw:Below w0.heap.size w0 w) (hL:Sn.Ls w ao n cap ls) :
  Calls Tryz.prog 84 #[.slice ao n cap,.int .i64 i] w fun e w'=>e=.returned (.int .i64 (Sp.ix i ls:Nat))/\Below w0.heap.size w0 w':=by
 have HW:=Lh hw;have HL:=Lh hL;have HN:=Lh hL.len;have hcap:=hL.reach;have hfit:=hL.fits;clear hL hw;go_enter Tryz.func84,Tryz.ntmps84;go_wp2_with fail
 go_loopw [5,6,9] (fun _ _ j wr=>∃ k:Nat,k<=n/\j=.int .i64 k/\Hid (∀ r∈ls.take k,r.id≠i)/\Hid (Below w.heap.size w wr)) (fun _ _ j _=>n - (intOf j).toNat)
 case atStart=>exact ⟨0,by omega,rfl,Lh (fun _ h=>by cases h),Lh (Below.refl _ _)⟩
 case round =>
  obtain ⟨k,hk,rfl,HT,HB⟩:=hrel;by_cases hlt:k < n
  ·
   obtain ⟨b,off,rfl⟩:=HL.out.at (by omega);have hkl:k < ls.length:=HN.out▸hlt;obtain ⟨r,hr⟩:∃ r,ls[k]=r:=⟨_,rfl⟩;have hrow:=(HL.out.row k hkl).below HB.out;rw [hr] at hrow;obtain ⟨g0,g1,g2,g3,g4⟩:=hrow;obtain ⟨W,hW,hbW,hA⟩:=Sn.bZ wr r;have dz:=Lh (aj HB.out hbW);clear hbW;unfold Sn.C at hA;obtain ⟨a0,a1,a2,a3,a4⟩:=hA;have HS:=Lh (List.take_succ_eq_append_getElem hkl);by_cases he:r.id=i
   ·
    have HF:=Lh (Sp.EH hkl HT.out (hr▸he));have qe:(r.id==i)=true:=beq_iff_eq.2 he;clear he hr;go_wp2_with fail;go_ret;exact ⟨by rw [HF.out];rfl,aj HW.out dz.out⟩
   ·
    have HE:=Lh he;have qe:(r.id==i)=false:=beq_eq_false_iff_ne.2 he;have HR:=Lh hr;clear hr he;go_wp2_with fail;go_roundw
    case rel =>
     refine ⟨k+1,by omega,by go_num,Lh ?_,dz⟩;rw [HS.out];intro x hx;rcases List.mem_append.1 hx with h | h
     · exact HT.out x h
     ·
      obtain rfl:=List.mem_singleton.1 h;rw [HR.out];exact HE.out
    case measure=>simp [intOf];omega
  ·
   obtain rfl:k=n:=by omega
   have HF:Hid (Sp.ix i ls=k):=Lh (by
    have:=Sp.uW (s:=i) (l:=ls) (fun r hr=>HT.out r (by rw [List.take_of_length_le (by rw [<- HN.out];exact Nat.le_refl _)];exact hr));rw [this,HN.out])
   go_wp2_with fail;go_ret;exact ⟨by rw [HF.out];rfl,aj HW.out HB.out⟩
theorem sw (rs:List Sn.T) (ao:Option Addr) (n cap:Nat) (w0 w:World) (hw:Below w0.heap.size w0 w) (hR:Sn.Ls w ao n cap rs) :
  Calls Tryz.prog 73 #[.slice ao n cap] w fun e w'=>e=.returned (.bool (Sp.aA rs))/\Below w0.heap.size w0 w':=by
 have HW:=Lh hw;have HR:=Lh hR;have HN:=Lh hR.len;have hcap:=hR.reach;have hfit:=hR.fits;clear hw hR;by_cases h8:8 < n
 ·
  have HT:=Lh (Sp.tO (l:=rs) (HN.out▸h8));go_enter Tryz.func73,Tryz.ntmps73;go_wp2;go_ret;exact ⟨ay HT.out.symm,HW.out⟩
 ·
  have HT:=Lh (Sp.qC (l:=rs) (by have:=HN.out;omega));go_enter Tryz.func73,Tryz.ntmps73;go_wp2
  go_loopw [3,5,11] (fun a _ i wr=>∃ (k:Nat) (A:Int),k<=n/\a=.int .i64 A/\i=.int .i64 k/\Hid (A=Sp.aid (Sp.bO rs k)/\0<=A)/\Hid (Sp.dN (Sp.bO rs k) (rs.drop k)=Sp.dN none rs)/\Hid (Below w.heap.size w wr)) (fun _ _ i _=>n - (intOf i).toNat)
  case atStart=>exact ⟨0,0,by omega,rfl,rfl,Lh ⟨rfl,Int.le_refl _⟩,Lh rfl,Lh (Below.refl _ _)⟩
  case round =>
   obtain ⟨k,A,hk,rfl,rfl,HA,HK,HB⟩:=hrel;by_cases hlt:k < n
   ·
    obtain ⟨b,off,rfl⟩:=HR.out.at (by omega);have hkr:k < rs.length:=HN.out▸hlt;obtain ⟨r,hr⟩:∃ r,rs[k]=r:=⟨_,rfl⟩;have hrow:=(HR.out.row k hkr).below HB.out;have bX:=Lh (Sp.qA rs k hkr);have HPv:=Lh (Sp.CX hkr hr);rw [hr] at hrow bX;have HO:=Lh (Sp.YN (Sp.bO rs k) r (by rw [<- HA.out.1];exact HA.out.2));rw [<- HA.out.1] at HO;obtain ⟨g0,g1,g2,g3,g4⟩:=hrow;obtain ⟨W,hW,hbW,hA⟩:=Sn.bZ wr r;have dz:=Lh (aj HB.out hbW);have HC:=Lh hA;clear hbW hr;unfold Sn.C at hA;obtain ⟨a0,a1,a2,a3,a4⟩:=hA;by_cases hle:r.id<=A
    ·
     have hd:decide (r.id<=A)=true:=decide_eq_true hle;have HD:Hid (decide (A < r.id)=false):=Lh (decide_eq_false (by omega));clear hle;go_wp2_with fail;go_ret;exact ⟨ay (by rw [HT.out,<- HK.out,bX.out,HO.out,HD.out,Bool.false_and,Bool.false_and]),aj HW.out dz.out⟩
    ·
     have hd:decide (r.id<=A)=false:=decide_eq_false hle;have HD:Hid (decide (A < r.id)=true):=Lh (decide_eq_true (by omega));have HG:Hid (0<=r.id):=Lh (by have:=HA.out.2;omega);clear hle;go_wp2_with fail;refine (Nj r W _ (Below.refl _ _)).mono ?_;rintro e w1 ⟨rfl,b1⟩;have hA:=HC.out.below b1;have HB1:=Lh (aj dz.out b1);clear a0 a1 a2 a3 a4 b1 HC;unfold Sn.C at hA;obtain ⟨a0,a1,a2,a3,a4⟩:=hA;cases hm:Sp.mid r
     ·
      rw [hm] at HO;clear hm;go_wp2_with fail;go_ret;exact ⟨ay (by rw [HT.out,<- HK.out,bX.out,HO.out,Bool.and_false,Bool.false_and]),aj HW.out HB1.out⟩
     ·
      rw [hm] at HO;clear hm;go_wp2_with fail;go_roundw
      case rel=>exact ⟨k+1,r.id,by omega,rfl,by go_num,Lh ⟨by rw [HPv.out];rfl,HG.out⟩,Lh (by rw [<- HK.out,bX.out,HO.out,HD.out,Bool.true_and,Bool.true_and]),HB1⟩
      case measure=>simp [intOf];omega
   ·
    obtain rfl:k=n:=by omega
    go_wp2_with fail;go_ret;exact ⟨ay (by rw [HT.out,<- HK.out,List.drop_eq_nil_of_le (Nat.le_of_eq HN.out.symm)];rfl),aj HW.out HB.out⟩
theorem Rj (rs:List Sn.T) (ao:Option Addr) (n cap:Nat) (r:Sn.T) (w:World) (hR:Sn.Ls w ao n cap rs) (hn:n < 8) :
  Calls Tryz.prog 127 #[.slice ao n cap,Sn.val r] w fun e w'=>∃ v,e=.returned v/\Sn.Own w' w.heap.size v (Sp.dF rs r)/\Below w.heap.size w w':=by
 have HR:=Lh hR;have HN:=Lh hR.len;have hcap:=hR.reach;have hfit:=hR.fits;clear hR;unfold Sn.val;go_enter Tryz.func127,Tryz.ntmps127;go_wp2
 go_loopw [5] (fun i wr=>∃ k:Nat,k<=n/\i=.int .i64 k/\Hid (k+Sp.spot r.id (rs.drop k)=Sp.spot r.id rs)/\Hid (Below w.heap.size w wr)/\Hid (Sn.C wr w.heap.size r)) (fun i _=>n - (intOf i).toNat)
 case atStart=>exact ⟨0,by omega,rfl,Lh (Nat.zero_add _),Lh (Sn.aC w r),Lh (Sn.dO w r)⟩
 case round =>
  rename World=>wz
  obtain ⟨k,hk,rfl,HK,HB,KZ⟩:=hrel;have hC:=KZ.out;unfold Sn.C at hC;obtain ⟨a0,a1,a2,a3,a4⟩:=hC;have l0:=cell_regrown a0;have l1:=cell_regrown a1;have l2:=cell_regrown a2;have l3:=cell_regrown a3;have l4:=cell_regrown a4;by_cases hlt:k < n
  ·
   obtain ⟨b,off,rfl⟩:=HR.out.at (by omega);have hkr:k < rs.length:=HN.out▸hlt;obtain ⟨q,hq⟩:∃ q,rs[k]=q:=⟨_,rfl⟩;have hrow:=(HR.out.row k hkr).below HB.out;have bX:=Lh (Sp.mU r.id rs k hkr);rw [hq] at hrow bX;obtain ⟨g0,g1,g2,g3,g4⟩:=hrow;have k0:=cell_regrown g0;have k1:=cell_regrown g1;have k2:=cell_regrown g2;have k3:=cell_regrown g3;have k4:=cell_regrown g4;clear hq;unfold Sp.lt at bX;cases hqr:decide (q.id < r.id)
   ·
    rw [hqr,if_neg (by simp)] at bX;have oW:Hid (Sp.spot r.id rs=k):=Lh (by rw [<- HK.out,bX.out];rfl);go_wp2;refine wp_region_quiet_below (by kernel_rfl) (by kernel_rfl) ?_
    repeat (first | go_big_quiet_step (fail) | quiet_step (fail))
    refine wpQuiet_nil ?_;intro _ hw';obtain ⟨⟨dq,osq⟩,hw''⟩:=hw';subst hw'';have oo:=Lh (aj HB.out (below_regrown wz dq osq));have fM:=Lh (KZ.out.below (below_regrown wz dq osq));clear l0 l1 l2 l3 l4 a0 a1 a2 a3 a4 k0 k1 k2 k3 k4 g0 g1 g2 g3 g4 hqr;generalize grow (redrawn wz dq) osq=x at *;have HP:Hid (Sp.dF rs r=rs.take k++r::rs.drop k):=Lh (by unfold Sp.dF;rw [oW.out]);have BK:=Lh (HR.out.below oo.out);obtain ⟨hs1,lD⟩:=BK.out.to k (by omega);obtain ⟨mO,cap2,hs2,hR2⟩:=BK.out.from k (by omega)
    obtain ⟨j,hj⟩:∃ j,n - k=j:=⟨_,rfl⟩;rw [hj] at hs2 hR2;have HR1:=Lh lD;have HR2:=Lh hR2;have hjb:j<=8:=by omega
    have hkb:k<=8:=by omega
    have hmk:=Sn.jh n (by omega);clear lD hR2 hj;have hB1:Below x.heap.size x (x.alloc (.cells (Sn.zeros (n+1)) 84)):=(Below.refl _ _).alloc (Nat.le_refl _) _;have HB1:=Lh hB1;clear hB1;go_wp2_with (at_builtin;go_must (refine Sn.aG _ rfl (.tmp 27) (.tmp 30) rfl x.heap.size (.slice (some ⟨x.heap.size,0,none⟩) 0 (n+1)) [] rfl (Sn.eT x x.heap.size (n+1) (Nat.le_refl _) (by omega)) (some ⟨b,off,none⟩) k cap (rs.take k) rfl HR1.out.len HR1.out.nil (HR1.out.below HB1.out).seg (by simp only [List.length_nil];omega) (by simp) ?_));intro v1 y1 o1 vI _;have hb1:=HB1.out.grown vI HB1.out.size (Sn.bK (Sn.eT x x.heap.size (n+1) (Nat.le_refl _) (by omega)));have lY:Hid (∀ o,Sn.Own (y1.alloc o) x.heap.size v1 ([]++rs.take k)):=fun o=>Sn.bA o1 o
    have oQ:=Lh hb1;have hC:=fM.out.below hb1;unfold Sn.C at hC;obtain ⟨a0,a1,a2,a3,a4⟩:=hC;have hsz1:x.heap.size<=y1.heap.size:=hb1.size;clear o1 vI hb1;go_wp2_with (at_builtin;go_must (refine Sn.aG _ rfl (.tmp 32) (.tmp 34) rfl x.heap.size v1 ([]++rs.take k) rfl (lY.out _) (some ⟨y1.heap.size,0,none⟩) 1 1 [r] rfl rfl (fun h=>by cases h) (Sn.bB (heap_alloc_new y1 _)) (by rw [List.nil_append,<- HR1.out.len];omega) (by simp;omega) ?_));intro v2 y2 o2 tu _;have hb2:=(oQ.out.alloc oQ.out.size (Sn.block r)).grown tu (oQ.out.alloc oQ.out.size (Sn.block r)).size (Sn.bK (lY.out (Sn.block r)));have lX:=Lh o2;have mP:=Lh hb2;clear o2 tu hb2 a0 a1 a2 a3 a4;go_wp2_with (at_builtin;go_must (refine Sn.aG _ rfl (.tmp 36) (.tmp 39) rfl x.heap.size v2 ([]++rs.take k++[r]) rfl lX.out mO j cap2 (rs.drop k) rfl HR2.out.len HR2.out.nil (HR2.out.below mP.out).seg (by rw [List.nil_append,List.length_append,<- HR1.out.len,List.length_singleton];omega) mP.out.size ?_));intro v3 y3 o3 ou _;have hb3:=mP.out.grown ou mP.out.size (Sn.bK lX.out);have ow:=Lh o3;have xR:=Lh hb3;clear o3 ou hb3;go_wp2;go_ret;exact ⟨v3,rfl,by rw [HP.out];exact Sn.bD ow.out oo.out.size,aj oo.out xR.out⟩
   ·
    rw [hqr,if_pos rfl] at bX;go_wp2;refine wp_region_quiet_below (by kernel_rfl) (by kernel_rfl) ?_
    repeat (first | go_big_quiet_step (fail) | quiet_step (fail))
    refine wpQuiet_nil ?_;intro _ hw';obtain ⟨⟨dq,osq⟩,hw''⟩:=hw';subst hw'';have cO:=Lh (aj HB.out (below_regrown wz dq osq));go_wp2;go_roundw
    case rel=>exact ⟨k+1,by omega,by go_num,Lh (by rw [<- HK.out,bX.out];omega),cO,Lh (KZ.out.below (below_regrown wz dq osq))⟩
    case measure=>simp [intOf];omega
  ·
   obtain rfl:k=n:=by omega
   have oW:Hid (Sp.spot r.id rs=k):=Lh (by rw [<- HK.out,List.drop_eq_nil_of_le (Nat.le_of_eq HN.out.symm)];rfl);go_wp2;refine wp_region_quiet_below (by kernel_rfl) (by kernel_rfl) ?_
   repeat (first | go_big_quiet_step (fail) | quiet_step (fail))
   refine wpQuiet_nil ?_;intro _ hw';obtain ⟨⟨dq,osq⟩,hw''⟩:=hw';subst hw'';have oo:=Lh (aj HB.out (below_regrown wz dq osq));have fM:=Lh (KZ.out.below (below_regrown wz dq osq));clear l0 l1 l2 l3 l4 a0 a1 a2 a3 a4;generalize grow (redrawn wz dq) osq=x at *;have HP:Hid (Sp.dF rs r=rs.take k++r::rs.drop k):=Lh (by unfold Sp.dF;rw [oW.out]);have BK:=Lh (HR.out.below oo.out);obtain ⟨hs1,lD⟩:=BK.out.to k (by omega);obtain ⟨mO,cap2,hs2,hR2⟩:=BK.out.from k (by omega)
   obtain ⟨j,hj⟩:∃ j,k - k=j:=⟨_,rfl⟩;rw [hj] at hs2 hR2;have HR1:=Lh lD;have HR2:=Lh hR2;have hjb:j<=8:=by omega
   have hkb:k<=8:=by omega
   have hmk:=Sn.jh k (by omega);clear lD hR2 hj;have hB1:Below x.heap.size x (x.alloc (.cells (Sn.zeros (k+1)) 84)):=(Below.refl _ _).alloc (Nat.le_refl _) _;have HB1:=Lh hB1;clear hB1;go_wp2_with (at_builtin;go_must (refine Sn.aG _ rfl (.tmp 27) (.tmp 30) rfl x.heap.size (.slice (some ⟨x.heap.size,0,none⟩) 0 (k+1)) [] rfl (Sn.eT x x.heap.size (k+1) (Nat.le_refl _) (by omega)) ao k cap (rs.take k) rfl HR1.out.len HR1.out.nil (HR1.out.below HB1.out).seg (by simp only [List.length_nil];omega) (by simp) ?_));intro v1 y1 o1 vI _;have hb1:=HB1.out.grown vI HB1.out.size (Sn.bK (Sn.eT x x.heap.size (k+1) (Nat.le_refl _) (by omega)));have lY:Hid (∀ o,Sn.Own (y1.alloc o) x.heap.size v1 ([]++rs.take k)):=fun o=>Sn.bA o1 o
   have oQ:=Lh hb1;have hC:=fM.out.below hb1;unfold Sn.C at hC;obtain ⟨a0,a1,a2,a3,a4⟩:=hC;have hsz1:x.heap.size<=y1.heap.size:=hb1.size;clear o1 vI hb1;go_wp2_with (at_builtin;go_must (refine Sn.aG _ rfl (.tmp 32) (.tmp 34) rfl x.heap.size v1 ([]++rs.take k) rfl (lY.out _) (some ⟨y1.heap.size,0,none⟩) 1 1 [r] rfl rfl (fun h=>by cases h) (Sn.bB (heap_alloc_new y1 _)) (by rw [List.nil_append,<- HR1.out.len];omega) (by simp;omega) ?_));intro v2 y2 o2 tu _;have hb2:=(oQ.out.alloc oQ.out.size (Sn.block r)).grown tu (oQ.out.alloc oQ.out.size (Sn.block r)).size (Sn.bK (lY.out (Sn.block r)));have lX:=Lh o2;have mP:=Lh hb2;clear o2 tu hb2 a0 a1 a2 a3 a4;go_wp2_with (at_builtin;go_must (refine Sn.aG _ rfl (.tmp 36) (.tmp 39) rfl x.heap.size v2 ([]++rs.take k++[r]) rfl lX.out mO j cap2 (rs.drop k) rfl HR2.out.len HR2.out.nil (HR2.out.below mP.out).seg (by rw [List.nil_append,List.length_append,<- HR1.out.len,List.length_singleton];omega) mP.out.size ?_));intro v3 y3 o3 ou _;have hb3:=mP.out.grown ou mP.out.size (Sn.bK lX.out);have ow:=Lh o3;have xR:=Lh hb3;clear o3 ou hb3;go_wp2;go_ret;exact ⟨v3,rfl,by rw [HP.out];exact Sn.bD ow.out oo.out.size,aj oo.out xR.out⟩
theorem Rk (ls:List Sn.T) (i:Int) (ao:Option Addr) (n cap:Nat) (w:World) (hL:Sn.Ls w ao n cap ls) (hi:Fit i) :
  Calls Tryz.prog 83 #[.slice ao n cap,.int .i64 i] w (JoinE w ls i):=by
 have HR:=Lh hL;have HN:=Lh hL.len;have hcap:=hL.reach;have hfit:=hL.fits;clear hL hi;go_enter Tryz.func83,Tryz.ntmps83;go_wp2_with fail;refine (sw ls ao n cap _ _ (Below.refl _ _) HR.out).mono ?_;rintro e w1 ⟨rfl,b1⟩;have HB1:=Lh b1;clear b1;cases hT:Sp.aA ls
 ·
  have HP:=Lh (Sp.PL (i:=i) hT);clear hT;go_wp2_with fail;go_ret2;exact ⟨_,by rw [HP.out.1];rfl,by rw [HP.out.2];exact Sn.aN _ _,HB1.out⟩
 ·
  have HT:=Lh hT;clear hT;by_cases hi:i < 1
  ·
   have HP:=Lh (Sp.PN HT.out hi);have hd:decide (i < 1)=true:=decide_eq_true hi;clear hi;go_wp2_with fail;go_ret2;exact ⟨_,by rw [HP.out.1];rfl,by rw [HP.out.2];exact Sn.aN _ _,HB1.out⟩
  ·
   have HI1:=Lh hi;have hd:decide (i < 1)=false:=decide_eq_false hi;clear hi;go_wp2_with fail;refine (su ls i ao n cap _ _ HB1.out (HR.out.below HB1.out)).mono ?_;rintro e w4 ⟨rfl,b4⟩;have pR:=Lh b4;have HI:Hid (Sp.ix i ls<=n):=Lh (by have:=Sp.qD i ls;have:=HN.out;omega);clear b4;obtain ⟨j,hj⟩:∃ j,Sp.ix i ls=j:=⟨_,rfl⟩;have FV:=Lh hj;rw [hj] at HI;rw [hj];clear hj;have hin:=HI.out;by_cases hlt:j < n
   ·
    have HP:=Lh (Sp.IC (i:=i) HT.out (by have:=HI1.out;omega) (by rw [FV.out];exact HN.out▸hlt));go_wp2_with fail;go_ret2;exact ⟨_,by rw [HP.out.1];rfl,by rw [HP.out.2];exact Sn.aN _ _,pR.out⟩
   ·
    have cK:Hid (¬ Sp.ix i ls < ls.length):=Lh (by rw [FV.out];exact HN.out▸hlt);by_cases h8:n=8
    ·
     have hq:((n:Int)==8)=true:=beq_iff_eq.2 (by omega);have HP:=Lh (Sp.Ms (i:=i) HT.out (by have:=HI1.out;omega) cK.out (by have:=HN.out;omega));clear h8;go_wp2_with fail;go_ret2;exact ⟨_,by rw [HP.out.1];rfl,by rw [HP.out.2];exact Sn.aN _ _,pR.out⟩
    ·
     have hq:((n:Int)==8)=false:=beq_eq_false_iff_ne.2 (by omega);have Vk:Hid (n < 8):=Lh (by have h1:=((Sp.aJ ls).1 HT.out).1;have:=HN.out;omega);have HP:=Lh (Sp.KE (i:=i) HT.out (by have:=HI1.out;omega) cK.out (by have:=Vk.out;have:=HN.out;omega));clear h8;go_wp2_with fail;refine (BM i _ _ pR.out).mono ?_;rintro e w6 ⟨rfl,b6⟩;have DU:=Lh b6;clear b6;go_wp2_with fail;refine (Rj ls ao n cap (Sp.new i) _ (HR.out.below DU.out) Vk.out).mono ?_;rintro e w5 ⟨v,rfl,o5,b5⟩;have HO:=Lh (Sn.bD o5 DU.out.size);have tZ:=Lh (aj DU.out b5);clear o5 b5;go_wp2_with fail;go_ret2;exact ⟨v,by rw [HP.out.1];rfl,by rw [HP.out.2];exact HO.out,tZ.out⟩
theorem Sn.wK (c:Nat) (hn:c<=1000) (u:World):(Instr.makeSlice 28 (.int .i64 0) (.int .i64 (c:Int))).run Tryz.prog u =
  .ok (.slice (some ⟨u.heap.size,0,none⟩) 0 c) (u.alloc (.cells (Sn.zeros c) 84)):=by
 obtain ⟨i0,hi,hz0,hz1,hz2⟩:=info_parts Sn.info;have h:=run_make (P:=Tryz.prog) u 28 84 i0 Sn.zeroV Tryz.underlying28 hi hz0 .i64 .i64 0 (c:Int) (by omega) (by omega) (by rw [hz2];omega) (by omega);rw [hz1,Int.toNat_natCast,Sn.made] at h;exact h
theorem Nk (ls:List Sn.T) (i:Int) (ao:Option Addr) (n cap:Nat) (w:World) (hL:Sn.Ls w ao n cap ls) (hi:Fit i) :
  Calls Tryz.prog 138 #[.slice ao n cap,.int .i64 i] w (YM w ls i):=by
 have HR:=Lh hL;have HN:=Lh hL.len;have hcap:=hL.reach;have hfit:=hL.fits;clear hL hi;go_enter Tryz.func138,Tryz.ntmps138;go_wp2_with fail;refine (sw ls ao n cap _ _ (Below.refl _ _) HR.out).mono ?_;rintro e w1 ⟨rfl,b1⟩;have HB1:=Lh b1;clear b1;cases hT:Sp.aA ls
 ·
  have HP:=Lh (Sp.Mt (i:=i) hT);clear hT;go_wp2_with fail;go_ret2;exact ⟨_,by rw [HP.out.1];rfl,by rw [HP.out.2];exact Sn.aN _ _,HB1.out⟩
 ·
  have HT:=Lh hT;have Vk:Hid (n<=8):=Lh (by have h1:=((Sp.aJ ls).1 hT).1;have:=HN.out;omega);clear hT;go_wp2_with fail;refine (su ls i ao n cap _ _ HB1.out (HR.out.below HB1.out)).mono ?_;rintro e x ⟨rfl,b4⟩;have pR:=Lh b4;have HI:Hid (Sp.ix i ls<=n):=Lh (by have:=Sp.qD i ls;have:=HN.out;omega);clear b4;obtain ⟨k,hj⟩:∃ j,Sp.ix i ls=j:=⟨_,rfl⟩;have FV:=Lh hj;rw [hj] at HI;rw [hj];clear hj;have hin:=HI.out;by_cases hlt:k < n
  ·
   have hq:((k:Int)==(n:Int))=false:=beq_eq_false_iff_ne.2 (by omega);have HP:=Lh (Sp.yY HT.out (by rw [FV.out];exact HN.out▸hlt));rw [FV.out] at HP;have BK:=Lh (HR.out.below pR.out);obtain ⟨m,hm⟩:∃ m,n=m+1:=⟨n - 1,by omega⟩;have hnm:(n:Int) - 1=(m:Int):=by omega
   obtain ⟨p,hp⟩:∃ p,k+1=p:=⟨_,rfl⟩;have hkp:(k:Int)+1=(p:Int):=by omega
   rw [show Sp.cut ls k=[]++ls.take k++ls.drop p by unfold Sp.cut;rw [hp];rfl] at HP;obtain ⟨hs1,lD⟩:=BK.out.to k (by omega);obtain ⟨mO,cap2,hs2,hR2⟩:=BK.out.from p (by omega)
   obtain ⟨j,hj⟩:∃ j,n - p=j:=⟨_,rfl⟩;rw [hj] at hs2 hR2;have HR1:=Lh lD;have HR2:=Lh hR2;have hmb:m<=8:=by have:=Vk.out;omega
   have hjb:j<=8:=by have:=Vk.out;omega
   have hkb:k<=8:=by have:=Vk.out;omega
   have hmk:=Sn.wK m (by omega);clear lD hR2 hj hm hp;have hB1:Below x.heap.size x (x.alloc (.cells (Sn.zeros m) 84)):=(Below.refl _ _).alloc (Nat.le_refl _) _;have HB2:=Lh hB1;clear hB1;go_wp2_with (at_builtin;go_must (refine Sn.aG _ rfl (.tmp 22) (.tmp 25) rfl x.heap.size (.slice (some ⟨x.heap.size,0,none⟩) 0 m) [] rfl (Sn.eT x x.heap.size m (Nat.le_refl _) (by omega)) ao k cap (ls.take k) rfl HR1.out.len HR1.out.nil (HR1.out.below HB2.out).seg (by simp only [List.length_nil];omega) (by simp) ?_));intro v1 y1 o1 vI _;have hb1:=HB2.out.grown vI HB2.out.size (Sn.bK (Sn.eT x x.heap.size m (Nat.le_refl _) (by omega)));have lY:=Lh o1;have oQ:=Lh hb1;have hsz1:x.heap.size<=y1.heap.size:=hb1.size;clear o1 vI hb1;go_wp2_with (at_builtin;go_must (refine Sn.aG _ rfl (.tmp 27) (.tmp 31) rfl x.heap.size v1 ([]++ls.take k) rfl lY.out mO j cap2 (ls.drop p) rfl HR2.out.len HR2.out.nil (HR2.out.below oQ.out).seg (by rw [List.nil_append,<- HR1.out.len];omega) hsz1 ?_));intro v2 y2 o2 tu _;have hb2:=oQ.out.grown tu oQ.out.size (Sn.bK lY.out);have lX:=Lh o2;have mP:=Lh hb2;clear o2 tu hb2;go_wp2;go_ret2;exact ⟨v2,by rw [HP.out.1];rfl,by rw [HP.out.2];exact Sn.bD lX.out pR.out.size,aj pR.out mP.out⟩
  ·
   obtain rfl:k=n:=by omega
   have hq:((k:Int)==(k:Int))=true:=beq_self_eq_true _;have HP:=Lh (Sp.yX HT.out (by rw [FV.out];exact HN.out▸hlt));go_wp2_with fail;go_ret2;exact ⟨_,by rw [HP.out.1];rfl,by rw [HP.out.2];exact Sn.aN _ _,pR.out⟩
def Rp.none0:Rp.T:=⟨0,0,0⟩
theorem Rp.Nl (w:World) (r:Rp.T) (o:Nat):(Rp.box w r).frozen? ⟨w.heap.size,o,none⟩=false:=frozen_of_row (Rp.box w r) w.heap.size o _ _ (heap_alloc_new w _)
theorem wL {w0 u:World} {p:Nat} (h:Below w0.heap.size w0 u) (hp:w0.heap.size<=p) (x0 x1 x2:Value):Below w0.heap.size w0 (((u.setCell ⟨p,0,none⟩ x0).setCell ⟨p,1,none⟩ x1).setCell ⟨p,2,none⟩ x2):=bU (bU (bU h hp _ _) hp _ _) hp _ _
theorem FW (ls:List Sn.T) (i q:Int) (ao:Option Addr) (n cap:Nat) (w0 w:World) (hw:Below w0.heap.size w0 w) (hL:Sn.Ls w ao n cap ls) (hi:Fit i) (hq:Fit q) :
  Calls Tryz.prog 37 #[.slice ao n cap,.int .i64 i,.int .i64 q] w (Xx w0 ls i q):=by
 have HW:=Lh hw;have HR:=Lh hL;have HN:=Lh hL.len;have hcap:=hL.reach;have hfit:=hL.fits;clear hL hi hw hq;go_enter Tryz.func37,Tryz.ntmps37;go_wp2_with fail;refine (sw ls ao n cap (Rp.box w Rp.none0) _ (Below.refl _ _) (HR.out.below (Rp.aC w Rp.none0))).mono ?_;rintro e w1 ⟨rfl,b1⟩;cases hT:Sp.aA ls
 ·
  have HP:=Lh (Sp.PO (i:=i) (q:=q) hT);have HO:=Lh (Sp.vw (l:=ls) (i:=i) (q:=q) (by rw [HP.out];omega));have hx:=b1;have hC:=(Rp.dO w Rp.none0).below hx;unfold Rp.C at hC;obtain ⟨a0,a1,a2⟩:=hC;have hsz:w.heap.size < (Rp.box w Rp.none0).heap.size:=by rw [Rp.dh];omega
  have f0:=((aD hx).2 w.heap.size 0 hsz).trans (Rp.Nl w Rp.none0 0);have f1:=((aD hx).2 w.heap.size 1 hsz).trans (Rp.Nl w Rp.none0 1);have f2:=((aD hx).2 w.heap.size 2 hsz).trans (Rp.Nl w Rp.none0 2);have hB1:=aj (Rp.aC w Rp.none0) hx;have HB1:=Lh (And.intro (aj HW.out hB1) HW.out.size);have YO:=Lh hB1;clear b1 hx hsz hB1;clear hT;go_wp2_with fail;exact bodyPost_ret (v:=.tuple #[Rp.val Rp.none0,.bool false,.int .i64 1]) (by simp [results,Rp.val,Rp.none0,Tryz.results37,go_sem,a0,a1,a2];try rfl) rfl ⟨by rw [HP.out,HO.out.1,HO.out.2];rfl,wL HB1.out.1 HB1.out.2 _ _ _⟩
 ·
  have HT:=Lh hT;have HB0:=Lh b1;clear hT b1;go_wp2_with fail;refine (su ls i ao n cap (Rp.box w Rp.none0) _ HB0.out (HR.out.below (aj (Rp.aC w Rp.none0) HB0.out))).mono ?_;rintro e w1 ⟨rfl,hx⟩;have hC:=(Rp.dO w Rp.none0).below hx;unfold Rp.C at hC;obtain ⟨a0,a1,a2⟩:=hC;have hsz:w.heap.size < (Rp.box w Rp.none0).heap.size:=by rw [Rp.dh];omega
  have f0:=((aD hx).2 w.heap.size 0 hsz).trans (Rp.Nl w Rp.none0 0);have f1:=((aD hx).2 w.heap.size 1 hsz).trans (Rp.Nl w Rp.none0 1);have f2:=((aD hx).2 w.heap.size 2 hsz).trans (Rp.Nl w Rp.none0 2);have hB1:=aj (Rp.aC w Rp.none0) hx;have HB1:=Lh (And.intro (aj HW.out hB1) HW.out.size);have YO:=Lh hB1;clear hx hsz hB1;have HI:Hid (Sp.ix i ls<=n):=Lh (by have:=Sp.qD i ls;have:=HN.out;omega);by_cases hlt:Sp.ix i ls < ls.length
  ·
   have hO:=Sp.dH hlt;have FX:=Lh hlt;have hin:Sp.ix i ls < n:=by have:=HN.out;omega
   obtain ⟨b,off,rfl⟩:=HR.out.at (by omega);have hrow:=(HR.out.row (Sp.ix i ls) hlt).below YO.out;rw [<- hO] at hrow;obtain ⟨r,hr⟩:∃ r,Sp.own ls i=r:=⟨_,rfl⟩;have sD:=Lh hr;rw [hr] at hrow;clear hO hr hlt;obtain ⟨j,hj⟩:∃ j,Sp.ix i ls=j:=⟨_,rfl⟩;rw [hj] at hrow hin;rw [hj];clear hj HI;obtain ⟨g0,g1,g2,g3,g4⟩:=hrow;have hq:((j:Int)==(n:Int))=false:=beq_eq_false_iff_ne.2 (by omega);go_wp2_with fail;refine (xI q _).mono ?_;rintro e w2 ⟨rfl,hw2⟩;have hw3:=hw2.symm;clear hw2;subst hw3;cases hn:Sp.qH q
   ·
    have HP:=Lh (Sp.PS HT.out FX.out hn);have HO:=Lh (Sp.vw (l:=ls) (i:=i) (q:=q) (by rw [HP.out];omega));clear hn;go_wp2_with fail;exact bodyPost_ret (v:=.tuple #[Rp.val Rp.none0,.bool false,.int .i64 1]) (by simp [results,Rp.val,Rp.none0,Tryz.results37,go_sem,a0,a1,a2];try rfl) rfl ⟨by rw [HP.out,HO.out.1,HO.out.2];rfl,wL HB1.out.1 HB1.out.2 _ _ _⟩
   ·
    have Rl:=Lh hn;clear hn;by_cases he:q=r.last
    ·
     have HP:=Lh (Sp.look_ok HT.out FX.out Rl.out (by rw [sD.out];omega));have HO:=Lh (Sp.PU HP.out (by rw [sD.out];exact he));have hqe:(q==r.last)=true:=beq_iff_eq.2 he;clear he;go_wp2_with fail;exact bodyPost_ret (v:=.tuple #[Rp.val (Sp.rep r),.bool true,.int .i64 0]) (by simp [results,Rp.val,Sp.rep,Tryz.results37,go_sem,a0,a1,a2];try rfl) rfl ⟨by rw [HP.out,HO.out.1,HO.out.2,sD.out],wL HB1.out.1 HB1.out.2 _ _ _⟩
    ·
     have hqe:(q==r.last)=false:=beq_eq_false_iff_ne.2 he;by_cases hs:q < r.last
     ·
      have HP:=Lh (Sp.IG HT.out FX.out Rl.out (by rw [sD.out];exact hs));have HO:=Lh (Sp.vw (l:=ls) (i:=i) (q:=q) (by rw [HP.out];omega));have Xv:decide (q < r.last)=true:=decide_eq_true hs;clear he hs;go_wp2_with fail;exact bodyPost_ret (v:=.tuple #[Rp.val Rp.none0,.bool false,.int .i64 16]) (by simp [results,Rp.val,Rp.none0,Tryz.results37,go_sem,a0,a1,a2];try rfl) rfl ⟨by rw [HP.out,HO.out.1,HO.out.2];rfl,wL HB1.out.1 HB1.out.2 _ _ _⟩
     ·
      have HP:=Lh (Sp.look_ok HT.out FX.out Rl.out (by rw [sD.out];exact hs));have HO:=Lh (Sp.PV HP.out (by rw [sD.out];exact he));have Xv:decide (q < r.last)=false:=decide_eq_false hs;clear he hs;go_wp2_with fail;exact bodyPost_ret (v:=.tuple #[Rp.val Rp.none0,.bool false,.int .i64 0]) (by simp [results,Rp.val,Rp.none0,Tryz.results37,go_sem,a0,a1,a2];try rfl) rfl ⟨by rw [HP.out,HO.out.1,HO.out.2];rfl,wL HB1.out.1 HB1.out.2 _ _ _⟩
  ·
   have HP:=Lh (Sp.Bq (q:=q) HT.out hlt);have HO:=Lh (Sp.vw (l:=ls) (i:=i) (q:=q) (by rw [HP.out];omega));have hix:Sp.ix i ls=n:=by have:=Sp.qD i ls;have:=HN.out;omega
   rw [hix];have hq:((n:Int)==(n:Int))=true:=beq_self_eq_true _;clear hlt hix;go_wp2_with fail;exact bodyPost_ret (v:=.tuple #[Rp.val Rp.none0,.bool false,.int .i64 15]) (by simp [results,Rp.val,Rp.none0,Tryz.results37,go_sem,a0,a1,a2];try rfl) rfl ⟨by rw [HP.out,HO.out.1,HO.out.2];rfl,wL HB1.out.1 HB1.out.2 _ _ _⟩
theorem Rm (ls:List Sn.T) (i q:Int) (r:Rp.T) (ao:Option Addr) (n cap:Nat) (w:World) (hL:Sn.Ls w ao n cap ls) (hi:Fit i) (hq:Fit q) (hr:Rp.Short r) :
  Calls Tryz.prog 94 #[.slice ao n cap,.int .i64 i,.int .i64 q,Rp.val r] w (K8 w ls i q r):=by
 obtain ⟨U,hU,K9,hCU⟩:=Rp.bZ w r;have HL:=Lh (hL.below K9);have HN:=Lh hL.len;have La:=Lh K9;have HCU:=Lh hCU;have HF:=Lh (And.intro hi hq);have hcap:=hL.reach;have hfit:=hL.fits;clear hL K9 hCU hi hq hr;unfold Rp.val;go_enter Tryz.func94,Tryz.ntmps94;go_wp2_with fail;refine (FW ls i q ao n cap U _ (Below.refl _ _) HL.out HF.out.1 HF.out.2).mono ?_;rintro e w1 ⟨rfl,b1⟩;have HB1:=Lh b1;clear b1 hU;obtain ⟨rp,hrp⟩:∃ rp,Sp.rep (Sp.qI ls i q)=rp:=⟨_,rfl⟩;rw [hrp];clear hrp;unfold Rp.val;by_cases hE:Sp.bQ ls i q=0
 ·
  cases hO:Sp.lookO ls i q
  ·
   have HP:=Lh (Sp.vB (y:=r.why) (n:=r.num) (g:=r.au) hE hO);obtain ⟨hT,hlt,_⟩:=Sp.Db hE;have hn8:n<=8:=by have:=((Sp.aJ ls).1 hT).1;have:=HN.out;omega
   have hin:Sp.ix i ls < n:=by have:=HN.out;omega
   rw [hE];obtain ⟨k,hk⟩:∃ k,Sp.ix i ls=k:=⟨_,rfl⟩;have HK:=Lh hk;rw [hk] at hin hlt HP;have HX:=Lh hlt;have hbx:=aj HB1.out (Rp.aC w1 rp);have hmk:=Sn.make n (by omega);have eD:=Sn.aZ (Rp.box w1 rp) n;have hbel0:Below (Rp.box w1 rp).heap.size (Rp.box w1 rp) ((Rp.box w1 rp).alloc (.cells (Sn.zeros n) 84)):=(Below.refl _ _).alloc (Nat.le_refl _) _;have hbx2:=aj hbx hbel0;obtain ⟨W3,hcp,hblk,hbel,hsz⟩:=Sn.copy ((Rp.box w1 rp).alloc (.cells (Sn.zeros n) 84)) (Rp.box w1 rp).heap.size [] n ao n cap ls (by rw [List.append_nil];exact eD) HN.out ((HL.out.below hbx2).seg);rw [List.length_nil,Nat.add_zero] at hcp;rw [List.append_nil] at hblk;have hb3:=aj hbx (hbel _ _ hbel0 (Nat.le_refl _));have hUs:U.heap.size<=(Rp.box w1 rp).heap.size:=hbx.size;have HB3:=Lh hb3;have gV:=Lh hblk;have hC:=HCU.out.below hb3;have hUs2:w.heap.size < U.heap.size:=aH HCU.out.1;rw [Rp.dh] at hcp gV hUs;unfold Rp.box at hcp;clear hbx eD hbel0 hbx2 hblk hbel hb3 hE hO hT hlt hk hsz;unfold Rp.C at hC;obtain ⟨a0,a1,a2⟩:=hC;have HGt:=Lh (show U.heap.size<=w1.heap.size+1 from hUs);have hne: ¬ w.heap.size=w1.heap.size+1:=by omega
   clear hUs;go_wp2_with fail;go_region_with (go_at_call 84;refine (su ls i ao n cap W3 _ (by first | exact Below.refl _ _ | exact (Below.refl _ _).drew) (by first | exact HL.out.below HB3.out | exact (HL.out.below HB3.out).below (Below.refl _ _).drew)).mono ?_;rintro e w4 ⟨rfl,b4⟩;rw [HK.out];have pR:=Lh b4;have Lb:=Lh (Sn.fG (B:=w1.heap.size+1) (gV.out.below b4) (Nat.le_refl _) HN.out (by omega));obtain ⟨hAt,hfz,hge⟩:=Sn.dH Lb.out k HX.out;have d0:=((aD b4).1 w.heap.size 0 (aH a0)).trans a0;have d1:=((aD b4).1 w.heap.size 1 (aH a0)).trans a1;have d2:=((aD b4).1 w.heap.size 2 (aH a0)).trans a2;obtain ⟨c0,c1,c2,c3,c4⟩:=hAt;have f0:=hfz (k*5);have f1:=hfz (k*5+1);have f2:=hfz (k*5+2);have f3:=hfz (k*5+3);have f4:=hfz (k*5+4);clear b4 hfz hge)
   all_goals
    have oZ:=Lh (Sn.bD (Sn.rZ Lb.out k HX.out ⟨i,q,r.why,r.num,r.au⟩) (show w.heap.size<=w1.heap.size+1 by have:=HGt.out;omega));have oh:=Lh (Sn.gL (aj (aj La.out HB3.out) pR.out) (show w.heap.size<=w1.heap.size+1 by have:=HGt.out;omega) k (.int .i64 i) (.int .i64 q) (.int .i64 r.why) (.int .i64 r.num) (.int .i64 r.au));clear c0 c1 c2 c3 c4 d0 d1 d2 f0 f1 f2 f3 f4 a0 a1 a2;go_wp2_with fail;go_ret2;exact ⟨_,by rw [HP.out.1];rfl,by rw [HP.out.2];exact oZ.out,oh.out⟩
  ·
   have HP:=Lh (Sp.PW (y:=r.why) (n:=r.num) (g:=r.au) hE hO);rw [hE];clear hE hO;go_wp2_with fail;go_ret2;exact ⟨_,by rw [HP.out.1];rfl,by rw [HP.out.2];exact Sn.aN _ _,aL (aj La.out HB1.out) _⟩
 ·
  have HP:=Lh (Sp.EN (y:=r.why) (n:=r.num) (g:=r.au) hE);obtain ⟨e,he⟩:∃ e,Sp.bQ ls i q=e:=⟨_,rfl⟩;have HE:=Lh he;have hne:(e != 0)=true:=bne_iff_ne.2 (he▸hE);rw [he];clear he hE;go_wp2_with fail;go_ret2;exact ⟨_,by rw [HP.out.1,HE.out];rfl,by rw [HP.out.2];exact Sn.aN _ _,aL (aj La.out HB1.out) _⟩
def AnsSe (f:FuncId) (args:Array Value) (u:World) (i:Nat) (os:Array Obj) (v:Value):Prop :=
 Calls Tryz.prog f args (grow (redrawn u i) os) fun e w''=>e=.returned v/\∃ p:Regrown,w''=grow (redrawn u p.d) p.os
theorem zN (n:Int) (w:World):Calls Tryz.prog 114 #[.int .i64 n] w fun e w'=>e=.returned (.bool (Se.lim n))/\w'=w:=by
 by_cases h1:1<=n
 ·
  by_cases h2:n<=1099511627776
  ·
   have HL:=Lh (Se.lQ.2 ⟨h1,h2⟩);go_enter Tryz.func114,Tryz.ntmps114;go_wp2;go_ret;exact ⟨ay HL.out.symm,rfl⟩
  ·
   have HL:=Lh ((Se.Pw (n:=n)).2 (.inr (by omega)));go_enter Tryz.func114,Tryz.ntmps114;go_wp2;go_ret;exact ⟨ay HL.out.symm,rfl⟩
 ·
  have HL:=Lh ((Se.Pw (n:=n)).2 (.inl (by omega)));go_enter Tryz.func114,Tryz.ntmps114;go_wp2;go_ret;exact ⟨ay HL.out.symm,rfl⟩
theorem Nn (r:Sr.T) (w0 w:World) (hw:Below w0.heap.size w0 w) (hs:Sr.Short r) :
  Calls Tryz.prog 72 #[Sr.val r] w fun e w'=>e=.returned (.bool (Se.sound r))/\Below w0.heap.size w0 w':=by
 have HW:=Lh hw;have HS:=Lh hs;clear hw hs;obtain ⟨W,hW,hbW,hC⟩:=Sr.bZ w r;have dz:=Lh (aj HW.out hbW);have HC:=Lh hC;clear hbW;unfold Sr.C at hC;obtain ⟨a0,a1,a2,a3⟩:=hC;unfold Sr.val;go_enter Tryz.func72,Tryz.ntmps72;go_wp2_with fail;refine (vG r.name _ HS.out.1).mono ?_;rintro e w1 ⟨rfl,b1⟩;have hC:=HC.out.below b1;have iA:=Lh hC;have HB1:=Lh (aj dz.out b1);unfold Sr.C at hC;clear a0 a1 a2 a3 b1 hW HC dz;obtain ⟨a0,a1,a2,a3⟩:=hC;cases hn:Rn.name (txt r.name)
 ·
  have HE:=Lh (Se.uV (r:=r) (.inl hn));clear hn;go_wp2_with fail;go_ret;exact ⟨ay HE.out.symm,HB1.out⟩
 ·
  have HN:=Lh hn;clear hn;go_wp2_with fail;refine (zN r.limit _).mono ?_;rintro e w2 ⟨rfl,rfl⟩;cases hl:Se.lim r.limit
  ·
   have HE:=Lh (Se.uV (r:=r) (.inr (.inl hl)));clear hl;go_wp2_with fail;go_ret;exact ⟨ay HE.out.symm,HB1.out⟩
  ·
   have HL:=Lh hl;obtain ⟨hl1,hl2⟩:=Se.lQ.1 hl;clear hl;by_cases h1:1<=r.next
   ·
    by_cases h2:r.next<=r.limit+1
    ·
     have HE:=Lh (Se.bL.2 ⟨HN.out,HL.out,h1,h2⟩);go_wp2_with fail;go_ret;exact ⟨ay HE.out.symm,HB1.out⟩
    ·
     have HE:=Lh (Se.uV (r:=r) (.inr (.inr (.inr (by omega)))));go_wp2_with fail;go_ret;exact ⟨ay (by rw [HE.out];exact decide_eq_false (Int.not_le.2 h2)),HB1.out⟩
   ·
    have HE:=Lh (Se.uV (r:=r) (.inr (.inr (.inl (by omega)))));go_wp2_with fail;go_ret;exact ⟨ay HE.out.symm,HB1.out⟩
theorem Np (r:Sr.T) (hs:Sr.Short r) (u:World) (i:Nat) (os:Array Obj):AnsSe 72 #[.agg #[.string r.name,.int .i64 r.next,.int .i64 r.limit,.bool r.shut]] u i os (.bool (Se.sound r)) :=
 Calls.regrown_of (Nn r _ _ (Below.refl _ _) hs)
theorem wM (ls:List Sr.T) (s:ByteArray) (ao:Option Addr) (n cap:Nat) (w0 w:World) (hw:Below w0.heap.size w0 w) (hL:Sr.Ls w ao n cap ls) :
  Calls Tryz.prog 129 #[.slice ao n cap,.string s] w fun e w'=>e=.returned (.int .i64 (Se.ix s ls:Nat))/\Below w0.heap.size w0 w':=by
 have HW:=Lh hw;have HL:=Lh hL;have HN:=Lh hL.len;have hcap:=hL.reach;have hfit:=hL.fits;clear hL hw;go_enter Tryz.func129,Tryz.ntmps129;go_wp2_with fail
 go_loopw [5,6,9] (fun _ _ i wr=>∃ k:Nat,k<=n/\i=.int .i64 k/\Hid (∀ r∈ls.take k,r.name≠s)/\Hid (Below w.heap.size w wr)) (fun _ _ i _=>n - (intOf i).toNat)
 case atStart=>exact ⟨0,by omega,rfl,Lh (fun _ h=>by cases h),Lh (Below.refl _ _)⟩
 case round =>
  obtain ⟨k,hk,rfl,HT,HB⟩:=hrel;by_cases hlt:k < n
  ·
   obtain ⟨b,off,rfl⟩:=HL.out.at (by omega);have hkl:k < ls.length:=HN.out▸hlt;obtain ⟨r,hr⟩:∃ r,ls[k]=r:=⟨_,rfl⟩;have hrow:=(HL.out.row k hkl).below HB.out;rw [hr] at hrow;obtain ⟨g0,g1,g2,g3⟩:=hrow;obtain ⟨W,hW,hbW,hA⟩:=Sr.bZ wr r;have dz:=Lh (aj HB.out hbW);clear hbW;unfold Sr.C at hA;obtain ⟨a0,a1,a2,a3⟩:=hA;have HS:=Lh (List.take_succ_eq_append_getElem hkl);by_cases he:r.name=s
   ·
    have HF:=Lh (Se.EH hkl HT.out (hr▸he));have qe:(r.name.toList==s.toList)=true:=beq_iff_eq.2 (by rw [he]);clear he hr;go_wp2_with fail;go_ret;exact ⟨by rw [HF.out];rfl,aj HW.out dz.out⟩
   ·
    have HE:=Lh he;have qe:(r.name.toList==s.toList)=false:=beq_eq_false_iff_ne.2 fun e=>he (Vt.gM e)
    have HR:=Lh hr;clear hr he;go_wp2_with fail;go_roundw
    case rel =>
     refine ⟨k+1,by omega,by go_num,Lh ?_,dz⟩;rw [HS.out];intro x hx;rcases List.mem_append.1 hx with h | h
     · exact HT.out x h
     ·
      obtain rfl:=List.mem_singleton.1 h;rw [HR.out];exact HE.out
    case measure=>simp [intOf];omega
  ·
   obtain rfl:k=n:=by omega
   have HF:Hid (Se.ix s ls=k):=Lh (by
    have:=Se.uW (s:=s) (l:=ls) (fun r hr=>HT.out r (by rw [List.take_of_length_le (by rw [<- HN.out];exact Nat.le_refl _)];exact hr));rw [this,HN.out])
   go_wp2_with fail;go_ret;exact ⟨by rw [HF.out];rfl,aj HW.out HB.out⟩
end Go.Proofs.YtpfdnemaaeolcaaGreat
