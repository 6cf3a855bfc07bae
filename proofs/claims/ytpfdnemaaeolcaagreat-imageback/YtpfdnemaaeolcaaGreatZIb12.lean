import Derived.Lib.QuietBelow
import Derived.Deep.RegionLaw
import Derived.Deep.DeepCutAuto
import Derived.Deep.CutBlock
import Derived.Deep.RegionHeld
import Derived.Laws.Externs
import Derived.Test.YtpfdnemaaeolcaaGreatZIb1
import Derived.Test.YtpfdnemaaeolcaaGreatZIb2
import Derived.Test.YtpfdnemaaeolcaaGreatZIb3
import Derived.Test.YtpfdnemaaeolcaaGreatZIb4
import Derived.Test.YtpfdnemaaeolcaaGreatZIb6
import Derived.Test.YtpfdnemaaeolcaaGreatZIb7
import Derived.Test.YtpfdnemaaeolcaaGreatZIb8
import Derived.Test.YtpfdnemaaeolcaaGreatZIb11
variable {w u:Go.World} {s:Int} {i g j x:Nat} {a:Go.Act} {Q:Go.Exit->Go.Act->Go.World->Prop} {S:Go.World->Prop} {oi:Go.Oper} {ops:Array Go.Oper}
set_option maxHeartbeats 8000000
set_option maxRecDepth 100000
set_option linter.unusedVariables false
namespace Go.Proofs.YtpfdnemaaeolcaaGreat
open Go.RowKit
open Vt (Rt)
open Go.Sort (grow)
structure AL (w wr:World) (g h n c:Nat) (N T:Int) (ps Z:List Pt.T):Prop where
 hs:w.heap.size=h
 gh:g < h
 dx:Below g w wr
 res:Tt.At wr h 0 0 0 (.slice none 0 0)
 tot:Tt.At wr (h+1) N T 0 (.slice (some ⟨g,0,none⟩) n c)
 blk:Pt.Block wr g (ps++Z)
 sh:∀ r∈ps,Pt.Short r
section
variable {w wr v:World} {g h n c:Nat} {N T:Int} {ps Z:List Pt.T}
theorem AL.below (H:AL w wr g h n c N T ps Z) (b:Below wr.heap.size wr v):AL w v g h n c N T ps Z :=
 ⟨H.hs,H.gh,H.dx.trans (b.mono (Nat.le_of_lt H.blk.lt)),H.res.below b,H.tot.below b,H.blk.below b,H.sh⟩
theorem AL.row (H:AL w wr g h n c N T ps Z) (k:Nat) (hk:k < ps.length):Pt.At wr g (k*4) ps[k]/\(∀ o,wr.frozen? ⟨g,o,none⟩=false):=by
 have hr:=H.blk.row k (by rw [List.length_append];omega);rw [List.getElem_append_left hk] at hr;exact ⟨hr,fun o=>H.blk.frozen o⟩
theorem AL.put (H:AL w wr g h n c N T ps Z) (k p:Nat) (hk:k < ps.length) (hp:p < 4) (x:Value) (r:Pt.T) (hr:Pt.rv r=(Pt.rv ps[k]).set p x) (hs:Pt.Short r):AL w (wr.setCell ⟨g,k*4+p,none⟩ x) g h n c N T (ps.set k r) Z:=by
 have e:=H.gh;refine ⟨H.hs,e,aW H.dx (Nat.le_refl _) _ _,H.res.far (by omega) _ _,H.tot.far (by omega) _ _,?_,?_⟩
 ·
  rw [<- List.set_append_left _ _ hk];exact H.blk.put k p (by rw [List.length_append];omega) hp x r (by rw [List.getElem_append_left hk];exact hr)
 ·
  intro a ha;obtain ⟨j,hj,e'⟩:=List.getElem_of_mem ha;rw [List.getElem_set] at e';split at e'
  · exact e'▸hs
  · exact H.sh a (e'▸List.getElem_mem _)
theorem AL.setN (H:AL w wr g h n c N T ps Z) (x:Int):AL w (wr.setCell ⟨h+1,0,none⟩ (.int .i64 x)) g h n c x T ps Z:=by
 have e:=H.gh;exact ⟨H.hs,e,aW H.dx (by omega) _ _,H.res.far (by omega) _ _,H.tot.set0 _,H.blk.far (by omega) _ _,H.sh⟩
theorem AL.setT (H:AL w wr g h n c N T ps Z) (x:Int):AL w (wr.setCell ⟨h+1,1,none⟩ (.int .i64 x)) g h n c N x ps Z:=by
 have e:=H.gh;exact ⟨H.hs,e,aW H.dx (by omega) _ _,H.res.far (by omega) _ _,H.tot.set1 _,H.blk.far (by omega) _ _,H.sh⟩
end
def WAns (w:World) (g:Nat) (E:Int) (T:Iv.iD) (e:Ending) (w':World):Prop:=∃ v,e=.returned (.tuple #[Tt.val T.net T.aP T.au v,.int .i64 E])/\Pt.Own w' g v T.parts/\Below g w w'
def Iv.Gz (ps:List Pt.T):Iv.iD:=if Iv.lS ps=0 then Iv.Da ps else Iv.iD.zero
theorem wR {ps:List Pt.T} {E:Int} (k:Iv.C9 ps 0 0=E) (hE:E≠0):Iv.lS ps=E/\Iv.Gz ps=Iv.iD.zero:=by
 have e:Iv.lS ps=E:=by
  unfold Iv.lS;rw [k,if_pos hE]
 unfold Iv.Gz;rw [e,if_neg hE];exact ⟨rfl,rfl⟩
theorem NV (ps Z:List Pt.T) (g n c:Nat) (w:World) (hB:Pt.Block w g (ps++Z)) (hn:n=ps.length) (hc:c=(ps++Z).length) (hc1:c<=1000) (hs:∀ r∈ps,Pt.Short r) :
  Calls Tryz.prog 168 #[.slice (some ⟨g,0,none⟩) n c] w (WAns w g (Iv.lS ps) (Iv.Gz ps)):=by
 obtain ⟨U,hU⟩:∃ U,Tt.box (Tt.box w 0 0 0 (.slice none 0 0)) 0 0 0 (.slice (some ⟨g,0,none⟩) n c)=U:=⟨_,rfl⟩
 have HW:Hid (AL w U g w.heap.size n c 0 0 ps Z):=by
  have b1:=Tt.aC w 0 0 0 (.slice none 0 0);have b2:=Tt.aC (Tt.box w 0 0 0 (.slice none 0 0)) 0 0 0 (.slice (some ⟨g,0,none⟩) n c);have hA:=Tt.dY (Tt.box w 0 0 0 (.slice none 0 0)) 0 0 0 (.slice (some ⟨g,0,none⟩) n c);rw [Tt.dh] at hA;have hl:=hB.lt;rw [hU] at b2 hA;exact ⟨rfl,hl,(aj b1 b2).mono (Nat.le_of_lt hl),(Tt.dY w 0 0 0 (.slice none 0 0)).below b2,hA,hB.below (aj b1 b2),hs⟩
 have HN:=Lh hn;have Zc:=Lh hc;have iB:Hid (U=(w.alloc (.cells #[.int .i64 0,.int .i64 0,.int .i64 0,.slice none 0 0] 102)).alloc (.cells #[.int .i64 0,.int .i64 0,.int .i64 0,.slice (some ⟨g,0,none⟩) n c] 102)):=Lh hU.symm;have hnc:n<=c:=by rw [hc,hn,List.length_append];omega
 obtain ⟨h,hh⟩:∃ h,w.heap.size=h:=⟨_,rfl⟩;rw [hh] at HW;clear hB hn hc hs hU;go_enter Tryz.func168,Tryz.ntmps168;go_wp2_with fail;rw [<- iB.out];clear iB
 try rw [hh]
 clear hh
 go_loopw [5,6,7,13] (fun _ _ _ i wr=>∃ (j:Nat) (N T:Int),j<=n/\i=.int .i64 j/\Hid (AL w wr g h n c N T (Iv.mix ps j) Z)/\Hid (Iv.C9 (ps.drop j) N T=Iv.C9 ps 0 0/\N+Iv.nE (ps.drop j)=Iv.nE ps/\T+Iv.iZ (ps.drop j)=Iv.iZ ps/\Fit N/\Fit T)) (fun _ _ _ i _=>n - (intOf i).toNat)
 case atStart=>exact ⟨0,0,0,by omega,rfl,HW,Lh ⟨rfl,Int.zero_add _,Int.zero_add _,⟨by omega,by omega⟩,⟨by omega,by omega⟩⟩⟩
 case round =>
  clear HW;rename World=>wy
  obtain ⟨j,N,T,hj,rfl,H,HU⟩:=hrel;by_cases hjq:j < n
  ·
   have hjp:j < ps.length:=HN.out▸hjq;have hjm:j < (Iv.mix ps j).length:=by rw [Iv.dB];exact hjp
   obtain ⟨hAt,hfz⟩:=H.out.row j hjm;have hpm:(Iv.mix ps j)[j]=ps[j]:=Option.some.inj ((List.getElem?_eq_getElem hjm).symm.trans (Iv.qF ps j hjp));have HMs:=Lh (Iv.oN ps j hjp);have mQ:=Lh (Iv.Yq ps N T j hjp);have uM:=Lh (Iv.UA ps j hjp);have FH:=Lh (Iv.PI ps j hjp);have oW:Hid (Pt.Short ps[j]):=Lh (hpm▸H.out.sh _ (List.getElem_mem hjm));rw [hpm] at hAt;obtain ⟨p,hp⟩:∃ p,ps[j]=p:=⟨_,rfl⟩;rw [hp] at hAt HMs mQ uM FH oW hpm;have HPm:=Lh hpm;obtain ⟨E,hE⟩:∃ E,Sh.iC p.net p.bp=E:=⟨_,rfl⟩;obtain ⟨X,hX⟩:∃ X,Sh.fK p.net p.bp=X:=⟨_,rfl⟩;have c1:∀ u,Below wy.heap.size wy u->Calls Tryz.prog 104 #[.int .i64 p.net,.int .i64 p.bp] u fun e w''=>e=.returned (.tuple #[.int .i64 X,.int .i64 E])/\Below wy.heap.size wy w'':=fun u hu=>(yD p.net p.bp wy u hu oW.out.2.2.1 oW.out.2.1).mono fun e w'' ⟨h1,h2⟩=>⟨by rw [h1,hE,hX];rfl,h2⟩
   have iA:=Lh c1
   have lM:Hid (∀ u,Below wy.heap.size wy u->u.cell? ⟨g,j*4+3,none⟩=some (.int .i64 p.aP)/\u.frozen? ⟨g,j*4+3,none⟩=false):=Lh fun u hu=>by
    have h2:=(H.out.below hu).row j hjm;rw [hpm] at h2;exact ⟨h2.1.4,h2.2 _⟩
   rw [hE,hX] at mQ;rw [hX] at FH;have HFX:Hid (Fit X):=Lh (hX▸yE p.net p.bp);have HTx:Hid (Iv.l8 p=⟨p.cat,p.bp,p.net,X⟩):=Lh (by unfold Iv.l8;rw [hX])
   have oZ:Hid (∀ u,Below wy.heap.size wy u->AL w (u.setCell ⟨g,j*4+3,none⟩ (.int .i64 X)) g h n c N T (Iv.mix ps (j+1)) Z):=Lh fun u hu=>by
    rw [<- HMs.out,HTx.out];exact (H.out.below hu).put j 3 hjm (by omega) _ _ (by rw [HPm.out];rfl) ⟨oW.out.1,oW.out.2.1,oW.out.2.2.1,HFX.out⟩
   obtain ⟨r0,r1,r2,r3⟩:=hAt;have hf3:=hfz (j*4+3);clear hE hX hp hpm c1 hfz;go_wp2_with fail
   go_cut [7] (fun e wx=>e=.int .i64 E/\Hid (AL w wx g h n c N T (Iv.mix ps (j+1)) Z))
   case first =>
    go_region_with (go_at_call 104;refine (iA.out _ (by first | exact Below.refl _ _ | exact (Below.refl _ _).drew)).mono ?_;rintro e u ⟨rfl,hu⟩;have q3:=(lM.out u hu).1;have q4:=(lM.out u hu).2;have Ht:=Lh hu;clear hu)
    all_goals (try go_wp2_with fail)
    all_goals go_meet
    all_goals exact ⟨rfl,Lh (by first | exact oZ.out _ Ht.out | exact (oZ.out _ Ht.out).below (Below.refl _ _).drew)⟩
   case rest =>
    obtain ⟨rfl,H1⟩:=hcut;clear r0 r1 r2 r3 hf3 oZ iA lM H;by_cases hE0:E=0
    ·
     subst hE0;rw [if_neg (by simp)] at mQ;have Zd:j < (Iv.mix ps (j+1)).length:=by rw [Iv.dB];exact hjp
     have hpm2:(Iv.mix ps (j+1))[j]=Iv.l8 p:=by
      have h1:(Iv.mix ps (j+1))[j]? =some (Iv.l8 p):=by rw [<- HMs.out,List.getElem?_set_self hjm]
      exact Option.some.inj ((List.getElem?_eq_getElem Zd).symm.trans h1)
     obtain ⟨hAt2,hfz2⟩:=H1.out.row j Zd;rw [hpm2,HTx.out] at hAt2;obtain ⟨r0,r1,r2,r3⟩:=hAt2;obtain ⟨t0,t1,t2,t3⟩:=H1.out.tot.cells;have hf0:=H1.out.tot.frozen 0;have HSN:Hid (∀ x,AL w (wc.setCell ⟨h+1,0,none⟩ (.int .i64 x)) g h n c x T (Iv.mix ps (j+1)) Z):=Lh fun x=>H1.out.setN x
     clear hfz2 r0 r1 r3 t1 t2 t3;go_wp2_with fail
     go_cut [7] (fun e wv=>e=.int .i64 (Mn.err (N+p.net))/\Hid (AL w wv g h n c (Mn.dG (N+p.net)) T (Iv.mix ps (j+1)) Z))
     case first =>
      go_region_with (go_at_call 126;refine (pq N p.net _ HU.out.2.2.2.1 oW.out.2.2.1).mono ?_;rintro e u ⟨rfl,hu⟩;subst hu;unfold both)
      all_goals (try go_wp2_with fail)
      all_goals go_meet
      all_goals exact ⟨rfl,Lh (by first | exact HSN.out _ | exact (HSN.out _).below (Below.refl _ _).drew)⟩
     case rest =>
      obtain ⟨rfl,H2⟩:=hcut;clear r2 t0 hf0 HSN H1;rcases Mn.jl (N+p.net) with e1 | e1
      ·
       rw [e1];rw [Mn.jk (Iv.kT e1)] at H2;rw [e1,if_neg (by simp)] at mQ;have HFN:=Lh (Iv.kT e1);clear e1;obtain ⟨hAt3,_⟩:=H2.out.row j Zd;rw [hpm2,HTx.out] at hAt3;obtain ⟨r0,r1,r2,r3⟩:=hAt3;obtain ⟨t0,t1,t2,t3⟩:=H2.out.tot.cells;have hf1:=H2.out.tot.frozen 1;rename World=>wd
       have HST:Hid (∀ x,AL w (wd.setCell ⟨h+1,1,none⟩ (.int .i64 x)) g h n c (N+p.net) x (Iv.mix ps (j+1)) Z):=Lh fun x=>H2.out.setT x
       clear r0 r1 r2 t0 t2 t3;go_wp2_with fail
       go_cut [7] (fun e wv=>e=.int .i64 (Mn.err (T+X))/\Hid (AL w wv g h n c (N+p.net) (Mn.dG (T+X)) (Iv.mix ps (j+1)) Z))
       case first =>
        go_region_with (go_at_call 126;refine (pq T X _ HU.out.2.2.2.2 HFX.out).mono ?_;rintro e u ⟨rfl,hu⟩;subst hu;unfold both)
        all_goals (try go_wp2_with fail)
        all_goals go_meet
        all_goals exact ⟨rfl,Lh (by first | exact HST.out _ | exact (HST.out _).below (Below.refl _ _).drew)⟩
       case rest =>
        obtain ⟨rfl,H3⟩:=hcut;clear r3 t1 hf1 HST H2;rcases Mn.jl (T+X) with e2 | e2
        ·
         rw [Mn.jk (Iv.kT e2)] at H3;rw [e2];rw [e2,if_neg (by simp)] at mQ;have HFT:=Lh (Iv.kT e2);clear e2;go_wp2_with fail;go_roundw
         case rel=>exact ⟨j+1,N+p.net,T+X,by omega,by go_num,H3,Lh ⟨by rw [<- mQ.out];exact HU.out.1,by have h1:=HU.out.2.1;have h2:=uM.out;omega,by have h1:=HU.out.2.2.1;have h2:=FH.out;omega,HFN.out,HFT.out⟩⟩
         case measure=>simp [intOf];omega
        ·
         have HP:=Lh (wR (ps:=ps) (E:=7) (by rw [<- HU.out.1,mQ.out,e2];rfl) (by omega));rw [e2];clear e2;obtain ⟨z0,z1,z2,z3⟩:=H3.out.res.cells;have f0:=H3.out.res.frozen 0;have f1:=H3.out.res.frozen 1;have f2:=H3.out.res.frozen 2;have f3:=H3.out.res.frozen 3;have ji:=Lh (And.intro H3.out.dx (And.intro H3.out.hs H3.out.gh));go_wp2_with fail;exact bodyPost_ret (v:=.tuple #[Tt.val 0 0 0 (.slice none 0 0),.int .i64 7]) (by simp [results,Tt.val,Tryz.results168,go_sem,z0,z1,z2,z3]) rfl ⟨_,by rw [HP.out.1,HP.out.2];rfl,by rw [HP.out.2];exact Pt.aN _ _,aW (aW (aW (aW ji.out.1 (by have:=ji.out.2;omega) _ _) (by have:=ji.out.2;omega) _ _) (by have:=ji.out.2;omega) _ _) (by have:=ji.out.2;omega) _ _⟩
      ·
       have HP:=Lh (wR (ps:=ps) (E:=7) (by rw [<- HU.out.1,mQ.out,e1];rfl) (by omega));rw [e1];clear e1;obtain ⟨z0,z1,z2,z3⟩:=H2.out.res.cells;have f0:=H2.out.res.frozen 0;have f1:=H2.out.res.frozen 1;have f2:=H2.out.res.frozen 2;have f3:=H2.out.res.frozen 3;have ji:=Lh (And.intro H2.out.dx (And.intro H2.out.hs H2.out.gh));go_wp2_with fail;exact bodyPost_ret (v:=.tuple #[Tt.val 0 0 0 (.slice none 0 0),.int .i64 7]) (by simp [results,Tt.val,Tryz.results168,go_sem,z0,z1,z2,z3]) rfl ⟨_,by rw [HP.out.1,HP.out.2];rfl,by rw [HP.out.2];exact Pt.aN _ _,aW (aW (aW (aW ji.out.1 (by have:=ji.out.2;omega) _ _) (by have:=ji.out.2;omega) _ _) (by have:=ji.out.2;omega) _ _) (by have:=ji.out.2;omega) _ _⟩
    ·
     have HP:=Lh (wR (ps:=ps) (E:=E) (by rw [<- HU.out.1,mQ.out,if_pos hE0]) hE0);have hne:(E != 0)=true:=bne_iff_ne.2 hE0;clear hE0;obtain ⟨z0,z1,z2,z3⟩:=H1.out.res.cells;have f0:=H1.out.res.frozen 0;have f1:=H1.out.res.frozen 1;have f2:=H1.out.res.frozen 2;have f3:=H1.out.res.frozen 3;have ji:=Lh (And.intro H1.out.dx (And.intro H1.out.hs H1.out.gh));go_wp2_with fail;exact bodyPost_ret (v:=.tuple #[Tt.val 0 0 0 (.slice none 0 0),.int .i64 E]) (by simp [results,Tt.val,Tryz.results168,go_sem,z0,z1,z2,z3]) rfl ⟨_,by rw [HP.out.1,HP.out.2];rfl,by rw [HP.out.2];exact Pt.aN _ _,aW (aW (aW (aW ji.out.1 (by have:=ji.out.2;omega) _ _) (by have:=ji.out.2;omega) _ _) (by have:=ji.out.2;omega) _ _) (by have:=ji.out.2;omega) _ _⟩
  ·
   obtain rfl:j=n:=by omega
   have HD:Hid (ps.drop j=[]):=Lh (List.drop_eq_nil_of_le (Nat.le_of_eq HN.out.symm))
   have XP:Hid (Iv.C9 ps 0 0=0/\N=Iv.nE ps/\T=Iv.iZ ps):=Lh (by
    have h:=HU.out;rw [HD.out] at h;have h1:N+0=Iv.nE ps:=h.2.1;have h2:T+0=Iv.iZ ps:=h.2.2.1;exact ⟨h.1.symm,by omega,by omega⟩)
   have AY:Hid (Iv.mix ps j=ps.map Iv.l8):=Lh (by rw [HN.out];exact Iv.yc ps);rw [AY.out] at H;obtain ⟨t0,t1,t2,t3⟩:=H.out.tot.cells;have hf2:=H.out.tot.frozen 2;go_wp2_with fail;refine (pq N T _ HU.out.2.2.2.1 HU.out.2.2.2.2).mono ?_;rintro e wu ⟨rfl,hwu⟩;subst hwu;unfold both;rcases Mn.jl (N+T) with e1 | e1
   ·
    rw [e1,Mn.jk (Iv.kT e1)]
    have HP:Hid (Iv.lS ps=0/\Iv.Gz ps=Iv.Da ps):=Lh (by
     have h0:Iv.lS ps=0:=by
      unfold Iv.lS;rw [if_neg (by rw [XP.out.1];simp),<- XP.out.2.1,<- XP.out.2.2];exact e1
     exact ⟨h0,if_pos h0⟩)
    clear e1;obtain ⟨z0,z1,z2,z3⟩:=H.out.res.cells;have f0:=H.out.res.frozen 0;have f1:=H.out.res.frozen 1;have f2:=H.out.res.frozen 2;have f3:=H.out.res.frozen 3;have ji:=Lh (And.intro H.out.dx (And.intro H.out.hs H.out.gh));go_wp2_with fail;refine bodyPost_ret (v:=.tuple #[Tt.val N T (N+T) (.slice (some ⟨g,0,none⟩) j c),.int .i64 0]) (by simp [results,Tt.val,Tryz.results168,go_sem,z0,z1,z2,z3]) rfl ⟨.slice (some ⟨g,0,none⟩) j c,?_,?_,?_⟩
    ·
     rw [HP.out.1,HP.out.2];unfold Iv.Da;rw [<- XP.out.2.1,<- XP.out.2.2]
    ·
     rw [HP.out.2];have hgh:=ji.out.2.2;have hb:Pt.Block _ g (ps.map Iv.l8++Z):=(((((H.out.blk.far (b:=h+1) (by omega) 2 (.int .i64 (N+T))).far (b:=h) (by omega) 0 (.int .i64 N)).far (b:=h) (by omega) 1 (.int .i64 T)).far (b:=h) (by omega) 2 (.int .i64 (N+T))).far (b:=h) (by omega) 3 (.slice (some ⟨g,0,none⟩) j c));have ho:Pt.Own _ g (.slice (some ⟨g,0,none⟩) j c) (ps.map Iv.l8):=Pt.NC hb (Nat.le_refl _) (by rw [List.length_map];exact HN.out) (by rw [List.length_append,List.length_map,<- List.length_append];exact Zc.out) hc1;exact ho
    · exact aW (aW (aW (aW (aW ji.out.1 (by have:=ji.out.2;omega) _ _) (by have:=ji.out.2;omega) _ _) (by have:=ji.out.2;omega) _ _) (by have:=ji.out.2;omega) _ _) (by have:=ji.out.2;omega) _ _
   ·
    have HP:Hid (Iv.lS ps=7/\Iv.Gz ps=Iv.iD.zero):=Lh (by
     have h0:Iv.lS ps=7:=by
      unfold Iv.lS;rw [if_neg (by rw [XP.out.1];simp),<- XP.out.2.1,<- XP.out.2.2];exact e1
     unfold Iv.Gz;rw [h0];exact ⟨rfl,rfl⟩)
    rw [e1];clear e1;obtain ⟨z0,z1,z2,z3⟩:=H.out.res.cells;have f0:=H.out.res.frozen 0;have f1:=H.out.res.frozen 1;have f2:=H.out.res.frozen 2;have f3:=H.out.res.frozen 3;have ji:=Lh (And.intro H.out.dx (And.intro H.out.hs H.out.gh));go_wp2_with fail;exact bodyPost_ret (v:=.tuple #[Tt.val 0 0 0 (.slice none 0 0),.int .i64 7]) (by simp [results,Tt.val,Tryz.results168,go_sem,z0,z1,z2,z3]) rfl ⟨_,by rw [HP.out.1,HP.out.2];rfl,by rw [HP.out.2];exact Pt.aN _ _,aW (aW (aW (aW (aW ji.out.1 (by have:=ji.out.2;omega) _ _) (by have:=ji.out.2;omega) _ _) (by have:=ji.out.2;omega) _ _) (by have:=ji.out.2;omega) _ _) (by have:=ji.out.2;omega) _ _⟩
open Mem Pk Cm
theorem Im.Co:∀ (l:List Pt.T) (a:Int) (p:Pt.T),Im.mF a (l++[p])=Im.wr (Im.mF a l+p.net)
 | [],a,p=>rfl
 | q::l,a,p=>by rw [List.cons_append,Im.mF,Im.Co l,Im.mF]
theorem Im.Cq:∀ (l:List Pt.T) (a:Int) (p:Pt.T),Im.mG a (l++[p])=Im.wr (Im.mG a l+p.aP)
 | [],a,p=>rfl
 | q::l,a,p=>by rw [List.cons_append,Im.mG,Im.Cq l,Im.mG]
def Im.pF (_:Nat) (p:Pt.T):Pt.T:=Im.fH p
theorem Im.Ze (ts:List Pt.T):ts.mapIdx Im.pF=ts.map Im.fH:=by
 refine List.ext_getElem (by rw [List.length_mapIdx,List.length_map]) fun i h1 h2=>?_
 rw [List.getElem_mapIdx,List.getElem_map];rfl
def Im.mI (r:Pd.T) (N T G:Int):Pd.T:=⟨r.av,r.num,r.y,r.m,r.d,N,T,G,r.parts,r.bf,r.aY,r.back⟩
theorem Im.Ec (x:Int):Fit (Im.wr x):=by
 unfold Im.wr;rw [IntKind.wrap_i64];exact ⟨by omega,by omega⟩
theorem Im.VR (x:Int):wrap64 x=Im.wr x:=by
 unfold wrap64 Im.wr;rw [IntKind.wrap_i64]
structure Im.pU (w wr:World) (g pg k A B n cap pn pc:Nat) (rs:List Pd.T) (ts:List Pt.T) (hk:k < rs.length) (j:Nat) (N T:Int):Prop where
 rows:Pd.Own wr A (.slice (some ⟨g,0,none⟩) n cap) (rs.set k (Im.mI rs[k] N T rs[k].au))
 parts:Pt.Own wr B (.slice (some ⟨pg,0,none⟩) pn pc) (Im.mix Im.pF j ts)
 upd:bI (fun b=>b=g\/b=pg) w wr
section
variable {w wr:World} {g pg k A B n cap pn pc:Nat} {rs:List Pd.T} {ts:List Pt.T} {hk:k < rs.length} {j:Nat} {N T:Int}
theorem Im.pU.below (h:Im.pU w wr g pg k A B n cap pn pc rs ts hk j N T) {u:World} (b:Below wr.heap.size wr u):Im.pU w u g pg k A B n cap pn pc rs ts hk j N T :=
 ⟨Pd.own_below h.rows b,Pt.own_below h.parts b,h.upd.ru b⟩
theorem Im.pU.row (h:Im.pU w wr g pg k A B n cap pn pc rs ts hk j N T):Pd.At wr g (k*12) (Im.mI rs[k] N T rs[k].au)/\∀ o,wr.frozen? ⟨g,o,none⟩=false:=by
 have h1:=Pd.dH h.rows k (by rw [List.length_set];exact hk);rw [List.getElem_set_self] at h1;exact ⟨h1.1,h1.2.1⟩
theorem Im.pU.part (h : Im.pU w wr g pg k A B n cap pn pc rs ts hk j N T) (i : Nat) (hi : i < ts.length) : Pt.At wr pg (i * 4) ((Im.mix Im.pF j ts)[i]'(by rw [Im.dB]; exact hi)) /\ ∀ o,wr.frozen? ⟨pg,o,none⟩ = false := by
 have h1:=Pt.dH h.parts i (by rw [Im.dB];exact hi);exact ⟨h1.1,h1.2.1⟩
theorem Im.pU.aP (h:Im.pU w wr g pg k A B n cap pn pc rs ts hk j N T) (hne:g≠pg) (hj:j < ts.length):Im.pU w (wr.setCell ⟨pg,j*4+3,none⟩ (.int .i64 (Sh.fK ts[j].net ts[j].bp))) g pg k A B n cap pn pc rs ts hk (j+1) N T:=by
 refine ⟨(bI.set (Q:=(· =pg)) wr rfl _ _).rows h.rows fun b e q=>hne ?_,?_,h.upd.trans (bI.set wr (.inr rfl) _ _)⟩
 ·
  cases e
  exact q
 ·
  have h1:=Im.oN (f:=Im.pF) hj;rw [<- h1];refine Pt.jo h.parts j 3 (by rw [Im.dB];exact hj) (by omega) _ _ ?_;rw [Im.qF hj];rfl
theorem Im.pU.net (h:Im.pU w wr g pg k A B n cap pn pc rs ts hk j N T) (hne:g≠pg) (x:Int):Im.pU w (wr.setCell ⟨g,k*12+5,none⟩ (.int .i64 x)) g pg k A B n cap pn pc rs ts hk j x T:=by
 refine ⟨?_,(bI.set (Q:=(· =g)) wr rfl _ _).rows h.parts fun b e q=>hne ?_,h.upd.trans (bI.set wr (.inl rfl) _ _)⟩
 ·
  have h1:=Pd.jo h.rows k 5 (by rw [List.length_set];exact hk) (by omega) (.int .i64 x) (Im.mI rs[k] x T rs[k].au) (by rw [List.getElem_set_self];rfl);rw [List.set_set] at h1;exact h1
 ·
  cases e
  exact q.symm
theorem Im.pU.txs (h:Im.pU w wr g pg k A B n cap pn pc rs ts hk j N T) (hne:g≠pg) (x:Int):Im.pU w (wr.setCell ⟨g,k*12+6,none⟩ (.int .i64 x)) g pg k A B n cap pn pc rs ts hk j N x:=by
 refine ⟨?_,(bI.set (Q:=(· =g)) wr rfl _ _).rows h.parts fun b e q=>hne ?_,h.upd.trans (bI.set wr (.inl rfl) _ _)⟩
 ·
  have h1:=Pd.jo h.rows k 6 (by rw [List.length_set];exact hk) (by omega) (.int .i64 x) (Im.mI rs[k] N x rs[k].au) (by rw [List.getElem_set_self];rfl);rw [List.set_set] at h1;exact h1
 ·
  cases e
  exact q.symm
theorem Im.pU.au (h:Im.pU w wr g pg k A B n cap pn pc rs ts hk j N T) (hne:g≠pg) (x:Int):Pd.Own (wr.setCell ⟨g,k*12+7,none⟩ (.int .i64 x)) A (.slice (some ⟨g,0,none⟩) n cap) (rs.set k (Im.mI rs[k] N T x))/\Pt.Own (wr.setCell ⟨g,k*12+7,none⟩ (.int .i64 x)) B (.slice (some ⟨pg,0,none⟩) pn pc) (Im.mix Im.pF j ts)/\bI (fun b=>b=g\/b=pg) w (wr.setCell ⟨g,k*12+7,none⟩ (.int .i64 x)):=by
 refine ⟨?_,(bI.set (Q:=(· =g)) wr rfl _ _).rows h.parts fun b e q=>hne ?_,h.upd.trans (bI.set wr (.inl rfl) _ _)⟩
 ·
  have h1:=Pd.jo h.rows k 7 (by rw [List.length_set];exact hk) (by omega) (.int .i64 x) (Im.mI rs[k] N T x) (by rw [List.getElem_set_self];rfl);rw [List.set_set] at h1;exact h1
 ·
  cases e
  exact q.symm
end
theorem Im.NW (r:Pd.T):Im.mI r r.net r.aP r.au=r:=rfl
theorem Im.set_self (rs:List Pd.T) (k:Nat) (hk:k < rs.length):rs.set k (Im.mI rs[k] rs[k].net rs[k].aP rs[k].au)=rs:=by
 rw [Im.NW,List.set_getElem_self]
theorem NY (rs:List Pd.T) (ts:List Pt.T) (k g pg n cap pn pc A B:Nat) (hk:k < rs.length) (w:World) (hO:Pd.Own w A (.slice (some ⟨g,0,none⟩) n cap) rs) (hP:Pt.Own w B (.slice (some ⟨pg,0,none⟩) pn pc) ts) (hne:g≠pg) (hr:rs[k].parts=⟨some ⟨pg,0,none⟩,pn,pc⟩) (hpn:pn=ts.length) (hm:pn<=1000) (hs:∀ x∈ts,Pt.Short x) :
  Calls Tryz.prog 58 #[.pointer (some ⟨g,k*12+5,none⟩)] w fun e w'=>((e=.returned (.bool true)/\(∀ x∈ts,Sh.iC x.net x.bp=0)/\Pd.Own w' A (.slice (some ⟨g,0,none⟩) n cap) (rs.set k (Im.mI rs[k] (Im.mF rs[k].net ts) (Im.mG rs[k].aP (ts.map Im.fH)) (Im.wr (Im.mF rs[k].net ts+Im.mG rs[k].aP (ts.map Im.fH)))))/\Pt.Own w' B (.slice (some ⟨pg,0,none⟩) pn pc) (ts.map Im.fH))\/e=.returned (.bool false)/\∃ x∈ts,Sh.iC x.net x.bp≠0)/\bI (fun b=>b=g\/b=pg) w w':=by
 have HT0:Hid (Im.pU w w g pg k A B n cap pn pc rs ts hk 0 rs[k].net rs[k].aP):=Lh ⟨by rw [Im.set_self];exact hO,by rw [Im.rJ];exact hP,bI.refl _ _⟩;have HN:=Lh hpn;have HS:=Lh hs
 have hcl:pn<=pc/\pc<=9223372036854775807:=by
  obtain ⟨a,c,e,l,_⟩:=Pt.aX hP hs;simp only [Value.slice.injEq] at e;obtain ⟨rfl,rfl,rfl⟩:=e;exact ⟨l.fits,l.reach⟩
 obtain ⟨hnc,hcm⟩:=hcl;obtain ⟨R,hR⟩:∃ R,rs[k]=R:=⟨_,rfl⟩;have HR:=Lh hR;rw [hR] at HT0 hr;have HRp:=Lh hr;have h8:=HT0.out.row.1.c8;rw [hR] at h8;unfold Im.mI at h8;simp only [hr] at h8;clear hO hP hpn hs hR hr;go_enter Tryz.func58,Tryz.ntmps58;go_wp2_with fail;clear h8
 go_loopw [3,4,5,6,12] (fun _ _ _ _ i wr=>∃ (j:Nat) (N T:Int),j<=pn/\i=.int .i64 j/\Hid (Im.pU w wr g pg k A B n cap pn pc rs ts hk j N T)/\Hid (N=Im.mF R.net (ts.take j)/\T=Im.mG R.aP ((ts.take j).map Im.fH)/\∀ x∈ts.take j,Sh.iC x.net x.bp=0)) (fun _ _ _ _ i _=>pn - (intOf i).toNat)
 case atStart=>exact ⟨0,R.net,R.aP,by omega,rfl,HT0,Lh ⟨rfl,rfl,fun _ h=>by cases h⟩⟩
 case round =>
  clear HT0;rename World=>wz
  obtain ⟨j,N,T,hj,rfl,H,HI⟩:=hrel;have hrow:=H.out.row;rw [HR.out] at hrow;unfold Im.mI at hrow;obtain ⟨hAt,hfz⟩:=hrow;have r5:=hAt.c5;have r6:=hAt.c6;have r7:=hAt.c7;have r8:=hAt.c8;simp only [HRp.out] at r5 r6 r7 r8;clear hAt;by_cases hlt:j < pn
  ·
   have hjt:j < ts.length:=HN.out▸hlt;obtain ⟨DX,hpz⟩:=H.out.part j hjt;rw [Im.qF hjt] at DX;have p9:=Lh (List.take_succ_eq_append_getElem hjt);have oW:=Lh (HS.out _ (List.getElem_mem hjt));have HMem:=Lh (List.getElem_mem hjt);have Zf:Hid (∀ u,Im.pU w u g pg k A B n cap pn pc rs ts hk j N T->Im.pU w (u.setCell ⟨pg,j*4+3,none⟩ (.int .i64 (Sh.fK ts[j].net ts[j].bp))) g pg k A B n cap pn pc rs ts hk (j+1) N T):=Lh fun u h=>h.aP hne hjt
   have XQ:Hid (∀ u,Im.pU w u g pg k A B n cap pn pc rs ts hk (j+1) N T->Pt.At u pg (j*4) (Im.fH ts[j])):=Lh fun u h=>by
    have h1:=(h.part j hjt).1;rw [Im.lW,if_pos (Nat.lt_succ_self j)] at h1;exact h1
   obtain ⟨p,hp⟩:∃ p,ts[j]=p:=⟨_,rfl⟩;rw [hp] at DX p9 oW HMem Zf XQ;obtain ⟨E,hE⟩:∃ E,Sh.iC p.net p.bp=E:=⟨_,rfl⟩;obtain ⟨X,hX⟩:∃ X,Sh.fK p.net p.bp=X:=⟨_,rfl⟩;have HEx:=Lh hE;have HXx:=Lh hX;have HFX:Hid (Fit X):=Lh (hX▸yE p.net p.bp);have c1:∀ (u:World) (i:Nat) (os:Array Obj),Calls Tryz.prog 104 #[.int .i64 p.net,.int .i64 p.bp] (grow (redrawn u i) os) fun e w''=>e=.returned (.tuple #[.int .i64 X,.int .i64 E])/\∃ q:Regrown,w''=grow (redrawn u q.d) q.os:=fun u i os=>Calls.regrown_of ((yD p.net p.bp _ _ (Below.refl _ _) oW.out.2.2.1 oW.out.2.1).mono fun e w'' ⟨h1,h2⟩=>⟨by rw [h1,hE,hX];rfl,h2⟩)
   have HPp:=Lh hp;rw [hX] at Zf;obtain ⟨p0,p1,p2,p3⟩:=DX;have k1:=cell_regrown p1;have k2:=cell_regrown p2;clear hp hE hX;go_wp2_with fail;refine wp_region_quiet_below (by kernel_rfl) (by kernel_rfl) ?_
   repeat (first | go_big_quiet_step (first | (go_at_call 104;exact c1 _ _ _)) | quiet_step (first | (go_at_call 104;exact c1 _ _ _)))
   refine wpQuiet_nil ?_;intro _ hw';obtain ⟨⟨dq,osq⟩,hw''⟩:=hw';subst hw'';have H1:=Lh (H.out.below (below_regrown wz dq osq));clear H r5 r6 r7 r8 p0 p1 p2 p3 k1 k2 hfz hpz c1;generalize grow (redrawn wz dq) osq=w1 at *;by_cases hE0:E=0
   ·
    subst hE0;obtain ⟨DX,hpz⟩:=H1.out.part j hjt;have p3:=DX.c3;have z3:=hpz (j*4+3);have H2:=Lh (Zf.out w1 H1.out);clear DX hpz;obtain ⟨W2,hW2⟩:∃ W2,w1.setCell ⟨pg,j*4+3,none⟩ (.int .i64 X)=W2:=⟨_,rfl⟩;rw [hW2] at H2;have hrow:=H2.out.row;rw [HR.out] at hrow;unfold Im.mI at hrow;have r5:=hrow.1.c5;have z5:=hrow.2 (k*12+5);have hpt:=XQ.out _ H2.out;unfold Im.fH at hpt;have p2:=hpt.c2;simp only at r5 p2;clear hrow hpt;have H3:Hid (∀ u,Im.pU w u g pg k A B n cap pn pc rs ts hk (j+1) N T->Im.pU w (u.setCell ⟨g,k*12+5,none⟩ (.int .i64 (Im.wr (N+p.net)))) g pg k A B n cap pn pc rs ts hk (j+1) (Im.wr (N+p.net)) T):=Lh fun u h=>h.net hne _
    go_wp2_with fail
    go_cut [] (fun wx=>Hid (Im.pU w wx g pg k A B n cap pn pc rs ts hk (j+1) (Im.wr (N+p.net)) T))
    case first =>
     go_region
     all_goals (try go_wp2_with fail)
     all_goals go_meet
     all_goals exact Lh (by rw [Im.VR];exact (H3.out _ H2.out).below (Below.refl _ _).drew)
    case rest =>
     have H4:=hcut;clear hcut H3 H2 hW2 p3 z3 r5 z5 p2;have hrow:=H4.out.row;rw [HR.out] at hrow;unfold Im.mI at hrow;have r6:=hrow.1.c6;have z6:=hrow.2 (k*12+6);have hpt:=(H4.out.part j hjt).1;rw [Im.lW,if_pos (Nat.lt_succ_self j)] at hpt;have p3:=hpt.c3;have e3:(Im.pF j ts[j]).aP=X:=by rw [HPp.out];exact HXx.out
     rw [e3] at p3;simp only at r6;clear hrow hpt e3;have H5:Hid (∀ u,Im.pU w u g pg k A B n cap pn pc rs ts hk (j+1) (Im.wr (N+p.net)) T->Im.pU w (u.setCell ⟨g,k*12+6,none⟩ (.int .i64 (Im.wr (T+X)))) g pg k A B n cap pn pc rs ts hk (j+1) (Im.wr (N+p.net)) (Im.wr (T+X))):=Lh fun u h=>h.txs hne _
     go_wp2_with fail;go_region
     all_goals (try go_wp2_with fail)
     all_goals
      have H6:=Lh ((H5.out _ H4.out).below (Below.refl _ _).drew);rw [Im.VR];go_roundw
      case rel =>
       refine ⟨j+1,Im.wr (N+p.net),Im.wr (T+X),by omega,by go_num,H6,Lh ⟨?_,?_,?_⟩⟩
       · rw [p9.out,Im.Co,HI.out.1]
       ·
        rw [p9.out,List.map_append,List.map_cons,List.map_nil,Im.Cq,HI.out.2.1,<- HXx.out];rfl
       ·
        rw [p9.out];intro x hx;rcases List.mem_append.1 hx with h | h
        · exact HI.out.2.2 x h
        ·
         rw [List.mem_singleton.1 h];exact HEx.out
      case measure=>simp [intOf];omega
   ·
    have qe:(E != 0)=true:=bne_iff_ne.2 hE0;have Jq:=Lh hE0;clear hE0;go_wp2_with fail;go_ret;exact ⟨.inr ⟨rfl,p,HMem.out,by rw [HEx.out];exact Jq.out⟩,H1.out.upd⟩
  ·
   obtain rfl:j=pn:=by omega
   have VT:Hid (ts.take j=ts):=Lh (List.take_of_length_le (Nat.le_of_eq HN.out.symm));have z7:=hfz (k*12+7);have HG:Hid (∀ u,Im.pU w u g pg k A B n cap j pc rs ts hk j N T->_):=Lh fun u h=>h.au hne (Im.wr (N+T))
   go_wp2_with fail
   go_cut [] (fun wx=>Hid (Pd.Own wx A (.slice (some ⟨g,0,none⟩) n cap) (rs.set k (Im.mI rs[k] N T (Im.wr (N+T))))/\Pt.Own wx B (.slice (some ⟨pg,0,none⟩) j pc) (Im.mix Im.pF j ts)/\bI (fun b=>b=g\/b=pg) w wx))
   case first =>
    go_region
    all_goals (try go_wp2_with fail)
    all_goals go_meet
    all_goals exact Lh (by
     rw [Im.VR];have hh:=HG.out _ H.out;exact ⟨Pd.own_below hh.1 (Below.refl _ _).drew,Pt.own_below hh.2.1 (Below.refl _ _).drew,hh.2.2.ru (Below.refl _ _).drew⟩)
   case rest =>
    have H6:=hcut;clear hcut;go_wp2_with fail;go_ret;have h1:=HI.out;rw [VT.out] at h1;refine ⟨.inl ⟨rfl,h1.2.2,?_,?_⟩,H6.out.2.2⟩
    ·
     rw [HR.out,<- h1.1,<- h1.2.1,<- HR.out];exact H6.out.1
    ·
     rw [<- Im.Ze,<- Im.mH (k:=j) (Nat.le_of_eq HN.out.symm)];exact H6.out.2.1
theorem A9 (rs:List Pd.T) (k g n cap A:Nat) (hk:k < rs.length) (w:World) (hO:Pd.Own w A (.slice (some ⟨g,0,none⟩) n cap) rs) (hr:rs[k].parts=⟨none,0,0⟩) :
  Calls Tryz.prog 58 #[.pointer (some ⟨g,k*12+5,none⟩)] w fun e w'=>e=.returned (.bool true)/\Pd.Own w' A (.slice (some ⟨g,0,none⟩) n cap) (rs.set k (Im.mI rs[k] rs[k].net rs[k].aP (Im.wr (rs[k].net+rs[k].aP))))/\bI (· =g) w w':=by
 obtain ⟨hAt,hf,_⟩:=Pd.dH hO k hk;have oZ:Hid (∀ u,Below w.heap.size w u->Pd.Own (u.setCell ⟨g,k*12+7,none⟩ (.int .i64 (Im.wr (rs[k].net+rs[k].aP)))) A (.slice (some ⟨g,0,none⟩) n cap) (rs.set k (Im.mI rs[k] rs[k].net rs[k].aP (Im.wr (rs[k].net+rs[k].aP))))/\bI (· =g) w (u.setCell ⟨g,k*12+7,none⟩ (.int .i64 (Im.wr (rs[k].net+rs[k].aP))))):=Lh fun u hu=>⟨Pd.jo (Pd.own_below hO hu) k 7 hk (by omega) _ _ rfl,(bI.of hu).trans (bI.set (Q:=(· =g)) u rfl _ _)⟩
 obtain ⟨R,hR⟩:∃ R,rs[k]=R:=⟨_,rfl⟩;rw [hR] at hAt oZ hr;have r5:=hAt.c5;have r6:=hAt.c6;have r7:=hAt.c7;have r8:=hAt.c8;rw [hr] at r8;simp only at r8;have z7:=hf (k*12+7);have HR:=Lh hR;clear hO hr hAt hf hR;go_enter Tryz.func58,Tryz.ntmps58;go_wp2_with fail
 go_loopw [3,4,5,6,12] (fun _ _ _ _ i wr=>i=.int .i64 0/\wr=w) (fun _ _ _ _ i _=>0)
 case atStart=>exact ⟨rfl,rfl⟩
 case round =>
  rename World=>wz
  obtain ⟨rfl,hwz⟩:=hrel;subst hwz;go_wp2_with fail
  go_cut [] (fun wx=>Hid (Pd.Own wx A (.slice (some ⟨g,0,none⟩) n cap) (rs.set k (Im.mI R R.net R.aP (Im.wr (R.net+R.aP))))/\bI (· =g) wz wx))
  case first =>
   go_region
   all_goals (try go_wp2_with fail)
   all_goals go_meet
   all_goals exact Lh (by
    rw [Im.VR];have hh:=oZ.out _ (Below.refl _ _);exact ⟨Pd.own_below hh.1 (Below.refl _ _).drew,hh.2.ru (Below.refl _ _).drew⟩)
  case rest =>
   have H6:=hcut;clear hcut;go_wp2_with fail;go_ret;refine ⟨rfl,?_,H6.out.2⟩;rw [HR.out];exact H6.out.1
section
variable {P:Program} {ops:Array Oper} {Q:Exit->Act->World->Prop} {md:Region.Mode} {S:World->Prop} {x:Nat}
def waits (md:Region.Mode) (ops:Array Oper) (x i:Nat):Bool:=match ops[x]? with
 | some o=>o.after.any fun e=>Region.binds md e&&e.on==i
 | none=>true
end
section
variable {P:Program} {ops:Array Oper} {Q:Exit->Act->World->Prop} {md:Region.Mode} {S:World->Prop} {x:Nat}
def jD (P:Program) (md:Region.Mode) (ops:Array Oper) (Q:Exit->Act->World->Prop) (S:World->Prop) (x:Nat):Nat->Array Bool->Act->World->Prop
 | 0,listed,a,w=>Region.ready md ops listed=[]/\Q .normal a w
 | n+1,listed,a,w=>(Region.ready md ops listed=[]->Q .normal a w) /\
  ∀ i∈Region.ready md ops listed,wpOp P ops Q i (fun a' w'=>(x<=i\/S w')/\jD P md ops Q S x n (listed.setIfInBounds i true) a' w') a w
theorem GA:∀ (n:Nat) (listed:Array Bool) (a:Act) (w:World),jD P md ops Q S x n listed a w->wpAny P md ops Q n listed a w
 | 0,_,_,_,h=>h
 | n+1,_,_,_,h=>⟨h.1,fun i hi=>wpOp_mono (fun a' w' k=>GA n _ a' w' k.2) (h.2 i hi)⟩
def kK (md:Region.Mode) (ops:Array Oper) (x i:Nat) (D:List Nat):Bool:=(D.all fun k=>waits md ops k i||D.any fun m=>waits md ops k m)&&((List.range ops.size).all fun j=>decide (j < x)||D.contains j)
def lN (listed:Array Bool) (D:List Nat):Bool:=D.all fun k=>listed.getD k true==false
variable {listed:Array Bool}
theorem vR (hw:waits md ops j i=true) (hu:listed.getD i true=false):j ∉ Region.ready md ops listed:=by
 intro hx;obtain ⟨_,ox,hox,hall⟩:=mem_ready.1 hx;unfold waits at hw;rw [hox] at hw;simp only [Array.any_eq_true] at hw;obtain ⟨k,hk,hb⟩:=hw;rw [Bool.and_eq_true,beq_iff_eq] at hb;have h1:=hall _ (Array.getElem_mem hk) hb.1;rw [hb.2] at h1;rcases Nat.lt_or_ge i listed.size with h' | h'
 ·
  simp [h'] at hu h1;rw [hu] at h1;cases h1
 · simp [Array.getElem?_eq_none h'] at h1
theorem JI {D:List Nat} (hw:kK md ops x i D=true) (ho:lN listed D=true) (hr:i∈Region.ready md ops listed) (hj:j∈Region.ready md ops listed):j ∉ D/\ ¬ x<=j:=by
 unfold kK at hw;rw [Bool.and_eq_true] at hw
 have hD:j ∉ D:=by
  intro hd;have h1:=List.all_eq_true.1 hw.1 j hd;rw [Bool.or_eq_true] at h1;rcases h1 with h1 | h1
  · exact vR h1 (mem_ready.1 hr).1 hj
  ·
   obtain ⟨m,hm,h2⟩:=List.any_eq_true.1 h1;unfold lN at ho;have h3:=List.all_eq_true.1 ho m hm;exact vR h2 (beq_iff_eq.1 h3) hj
 refine ⟨hD,fun hx=>?_⟩;obtain ⟨_,oj,hoj,_⟩:=mem_ready.1 hj;obtain ⟨hlt,_⟩:=Array.getElem?_eq_some_iff.1 hoj;have h1:=List.all_eq_true.1 hw.2 j (List.mem_range.2 hlt);rw [Bool.or_eq_true,decide_eq_true_iff] at h1;rcases h1 with h1 | h1
 · omega
 · exact hD (by simpa using h1)
theorem NZ {D:List Nat} (h:lN listed D=true) (hj:j ∉ D):lN (listed.setIfInBounds j true) D=true:=by
 unfold lN at h ⊢;refine List.all_eq_true.2 fun k hk=>?_
 have h1:=List.all_eq_true.1 h k hk;have hne:j≠k:=fun e=>hj (e▸hk)
 rw [getD_set_ne true hne];exact h1
theorem JJ {v:Value} (hi:ops[i]? =some oi) (hsel:∀ (j:Nat) (o:Oper) cs b,ops[j]? =some o->o.op≠.select cs b)
  (hQ:∀ c a w,Q (.panic c) (a.put oi.dst v) w->Q (.panic c) a w) {D:List Nat} (hwt:kK md ops x i D=true) :
  ∀ (n:Nat) (listed:Array Bool) (a:Act) (w:World),lN listed D=true ->
   (∀ j oj,ops[j]? =some oj->j≠i->listed.getD j true=false->(∀ e∈oj.after,Region.binds md e=true->e.on≠i)->oi.apart ops oj=true) ->
   i∈Region.ready md ops listed->YieldsIf P ops S oi v a->S w ->
   jD P md ops Q S x n (listed.setIfInBounds i true) (a.put oi.dst v) w->jD P md ops Q S x (n+1) listed a w:=by
 intro n
 induction n with
 | zero =>
  intro listed a w _ _ hr hy hS H;refine ⟨fun h=>(by rw [h] at hr;cases hr),fun j hj=>?_⟩;by_cases e:j=i
  ·
   subst e;exact hy.wpOp hi hS ⟨.inr hS,H⟩
  ·
   have k:=ready_mono hj e;rw [H.1] at k;cases k
 | succ n ih =>
  intro listed a w ho hfree hr hy hS H;refine ⟨fun h=>(by rw [h] at hr;cases hr),fun j hj=>?_⟩;by_cases e:j=i
  ·
   subst e;exact hy.wpOp hi hS ⟨.inr hS,H⟩
  ·
   obtain ⟨hjD,hjx⟩:=JI hwt ho hr hj;have h1:=H.2 j (ready_mono hj e);obtain ⟨hjun,oj,hoj,hall⟩:=mem_ready.1 hj
   have hnot:∀ e∈oj.after,Region.binds md e=true->e.on≠i:=fun e he hb heq=>by
    have h1:=hall e he hb;have h0:=(mem_ready.1 hr).1;rw [heq] at h1;rcases Nat.lt_or_ge i listed.size with h' | h'
    ·
     simp [h'] at h0 h1;rw [h0] at h1;cases h1
    · simp [Array.getElem?_eq_none h'] at h1
   have h2:=wpOp_putIf hoj (hfree j oj hoj e hjun hnot) (fun cs b=>hsel i oi cs b hi) (fun cs b=>hsel j oj cs b hoj) hQ hy h1;refine wpOp_mono (fun a' w' h3=>?_) h2;have hS':S w':=h3.2.1.resolve_left hjx;refine ⟨.inr hS',ih (listed.setIfInBounds j true) a' w' (NZ ho hjD) ?_ (ready_mono hr (Ne.symm e)) h3.1 hS' ?_⟩
   ·
    intro k ok hk hki hun hno;refine hfree k ok hk hki ?_ hno;by_cases hjk:j=k
    ·
     subst hjk;exact hjun
    ·
     rw [getD_set_ne true hjk] at hun;exact hun
   ·
    rw [Array.setIfInBounds_comm _ _ e];exact h3.2.2
theorem Ct (hr:Region.ready md ops listed=[]) (h:Q .normal a w):∀ n,jD P md ops Q S x n listed a w
 | 0=>⟨hr,h⟩
 | _+1=>⟨fun _=>h,by rw [hr];simp⟩
end
theorem Bl.LB {v:Value} {fuel:Nat} {l:List Bool} (hi:ops[i]? =some oi) (hs:Region.noSelect ops=true) (ht:Bl.tk ops l i=true) {D:List Nat} (hwt:(kK .any ops x i D&&lN l.toArray D)=true)
  (hQ:∀ c a w,Q (.panic c) (Act.put a oi.dst v) w->Q (.panic c) a w) (hy:YieldsIf Tryz.prog ops S oi v a) (hS:S w)
  (h:jD Tryz.prog .any ops Q S x fuel (l.set i true).toArray (a.put oi.dst v) w):jD Tryz.prog .any ops Q S x (fuel+1) l.toArray a w:=by
 unfold Bl.tk at ht;rw [Bool.and_eq_true] at ht;rw [Bool.and_eq_true] at hwt;refine JJ hi (Region.noSelect_spec hs) hQ hwt.1 fuel _ a w hwt.2 (Region.free_spec hi ht.1) (by simpa using ht.2) hy hS ?_;simpa using h
theorem Bl.oneG {fuel:Nat} {l:List Bool} (hi:ops[i]? =some oi) (hr:Region.ready .any ops l.toArray=[i])
  (h:∀ K':Act->World->Prop,Shut (∀ a w,(x<=i\/S w)->jD Tryz.prog .any ops Q S x fuel (l.set i true).toArray a w->K' a w)->if Region.wanted oi (yielded ops a.tmps)=true then Oper.wp Tryz.prog oi a w K' Q else K' (a.put oi.dst undef) w) :
  jD Tryz.prog .any ops Q S x (fuel+1) l.toArray a w:=by
 refine ⟨fun k=>(by rw [hr] at k;cases k),fun j hj=>?_⟩;rw [hr] at hj;obtain rfl:=List.mem_singleton.1 hj;refine wpOp_step hi (fun K' hK=>h K' fun a w hS hW=>hK a w ⟨hS,?_⟩);simpa using hW
theorem Bl.Sw {id:Nat} (h:jD Tryz.prog .any ops Q S x ops.size (Array.replicate ops.size false) a w.drew):(Code.region id ops true).wp Tryz.prog Q a w :=
 wp_region_any (by kernel_rfl) (GA _ _ _ _ h)
open Mem
def Bl.Bb (w0:World) (P:Prop) (e:Ending) (w':World):Prop:=(P/\e=.returned (.bool true)\/ ¬ P/\e=.returned (.bool false))/\Below w0.heap.size w0 w'
def Bl.N7 (l:List Sn.T) (x:Int):Prop:=(1<=x/\x<=1099511627776)/\Sp.aA l=true/\∀ s∈l,s.id < x
theorem Ed (ls:List Sn.T) (x:Int) (ao:Option Addr) (n cap:Nat) (w0 w:World) (hw:Below w0.heap.size w0 w) (hL:Sn.Ls w ao n cap ls) :
  Calls Tryz.prog 30 #[.slice ao n cap,.int .i64 x] w (Bl.Bb w0 (Bl.N7 ls x)):=by
 have HW:=Lh hw;have HL:=Lh hL;have HN:=Lh hL.len;have hcap:=hL.reach;have hfit:=hL.fits;clear hL hw;by_cases h1:x < 1
 ·
  have d1:decide (x < 1)=true:=decide_eq_true h1;have cK:Hid (¬ Bl.N7 ls x):=Lh fun z=>by have:=z.1;omega
  clear h1;go_enter Tryz.func30,Tryz.ntmps30;go_wp2_with fail;go_ret;exact ⟨.inr ⟨cK.out,rfl⟩,HW.out⟩
 ·
  have d1:decide (x < 1)=false:=decide_eq_false h1;by_cases h2:1099511627776 < x
  ·
   have d2:decide (1099511627776 < x)=true:=decide_eq_true h2;have cK:Hid (¬ Bl.N7 ls x):=Lh fun z=>by have:=z.1;omega
   clear h1 h2;go_enter Tryz.func30,Tryz.ntmps30;go_wp2_with fail;go_ret;exact ⟨.inr ⟨cK.out,rfl⟩,HW.out⟩
  ·
   have d2:decide (1099511627776 < x)=false:=decide_eq_false h2;have HX:Hid (1<=x/\x<=1099511627776):=Lh ⟨by omega,by omega⟩;clear h1 h2;go_enter Tryz.func30,Tryz.ntmps30;go_wp2_with fail;refine (sw ls ao n cap w w (Below.refl _ _) HL.out).mono ?_;rintro e w1 ⟨rfl,b1⟩;have HB1:=Lh b1;clear b1 d1 d2;cases hr:Sp.aA ls
   ·
    have cK:Hid (¬ Bl.N7 ls x):=Lh fun z=>by have:=z.2.1;rw [hr] at this;cases this
    clear hr;go_wp2_with fail;go_ret;exact ⟨.inr ⟨cK.out,rfl⟩,aj HW.out HB1.out⟩
   ·
    have Ab:=Lh hr;clear hr;go_wp2_with fail
    go_loopw [6,20] (fun _ j wr=>∃ k:Nat,k<=n/\j=.int .i64 k/\Hid (∀ s∈ls.take k,s.id < x)/\Hid (Below w.heap.size w wr)) (fun _ j _=>n - (intOf j).toNat)
    case atStart=>exact ⟨0,by omega,rfl,Lh (fun _ h=>by cases h),HB1⟩
    case round =>
     obtain ⟨k,hk,rfl,HT,HB⟩:=hrel;by_cases hlt:k < n
     ·
      obtain ⟨b,off,rfl⟩:=HL.out.at (by omega);have hkl:k < ls.length:=HN.out▸hlt;have HM:=Lh (List.getElem_mem hkl);have HS:=Lh (List.take_succ_eq_append_getElem hkl);have hrow:=(HL.out.row k hkl).below HB.out;obtain ⟨r,hr⟩:∃ r,ls[k]=r:=⟨_,rfl⟩;rw [hr] at hrow HM HS;clear hr;obtain ⟨g0,g1,g2,g3,g4⟩:=hrow;obtain ⟨W,hW,hbW,hA⟩:=Sn.bZ wr r;have dz:=Lh (aj HB.out hbW);clear hbW;unfold Sn.C at hA;obtain ⟨a0,a1,a2,a3,a4⟩:=hA;by_cases he:x<=r.id
      ·
       have q:decide (x<=r.id)=true:=decide_eq_true he;have cK:Hid (¬ Bl.N7 ls x):=Lh fun z=>by have:=z.2.2 r HM.out;omega
       clear he;go_wp2_with fail;go_ret;exact ⟨.inr ⟨cK.out,rfl⟩,aj HW.out dz.out⟩
      ·
       have q:decide (x<=r.id)=false:=decide_eq_false he;have HId:Hid (r.id < x):=Lh (by omega);clear he;go_wp2_with fail;go_roundw
       case rel =>
        refine ⟨k+1,by omega,by go_num,Lh ?_,dz⟩;rw [HS.out];intro y hy;rcases List.mem_append.1 hy with h | h
        · exact HT.out y h
        ·
         rw [List.mem_singleton.1 h];exact HId.out
       case measure=>simp [intOf];omega
     ·
      obtain rfl:k=n:=by omega
      have iM:Hid (Bl.N7 ls x):=Lh ⟨HX.out,Ab.out,by
       have h:=HT.out;rw [List.take_of_length_le (by rw [HN.out];exact Nat.le_refl _)] at h;exact h⟩
      go_wp2_with fail;go_ret;exact ⟨.inl ⟨iM.out,rfl⟩,aj HW.out HB.out⟩
theorem Ee (ps:List Bl.Ps) (rs:List Pd.T) (os:List Sr.T) (ao bo:Option Addr) (n ca m cb:Nat) (w0 w:World) (hw:Below w0.heap.size w0 w) (hL:Pd.Ls w ao n ca rs) (hE:Bl.Each w rs ps) (hO:Sr.Ls w bo m cb os) (hR:Se.aA os=true) (hn:n<=1000) :
  Calls Tryz.prog 31 #[.slice ao n ca,.slice bo m cb] w (Bl.Bb w0 (Bl.IU ps os)):=by
 have HW:=Lh hw;have HL:=Lh hL;have HN:Hid (n=ps.length):=Lh (by rw [hL.len,hE.len]);have HE:=Lh hE;have HO:=Lh hO;have HM:=Lh hO.len;have VU:=Lh ((Se.aJ _).1 hR);have hcap:=hO.reach;have hfit:=hO.fits;have hm8:m<=8:=by have:=hO.len;have:=((Se.aJ _).1 hR).1;omega
 clear hL hw hE hO hR;go_enter Tryz.func31,Tryz.ntmps31;go_wp2_with fail
 go_loopw [5,7,8,9,12] (fun a _ _ _ j wr=>∃ k t:Nat,k<=m/\t<=k*1000/\j=.int .i64 k/\a=.int .i64 t/\Hid ((∀ r∈os.take k,Bl.sW r.name ps/\(Bl.cnt r.name ps:Int)=r.next - 1)/\Bl.fu ps (os.take k)=t)/\Hid (Below w.heap.size w wr)) (fun _ _ _ _ j _=>m - (intOf j).toNat)
 case atStart=>exact ⟨0,0,by omega,by omega,rfl,rfl,Lh ⟨fun _ h=>(by cases h),rfl⟩,Lh (Below.refl _ _)⟩
 case round =>
  obtain ⟨k,t,hk,htk,rfl,rfl,HT,HB⟩:=hrel;by_cases hlt:k < m
  ·
   obtain ⟨b,off,rfl⟩:=HO.out.at (by omega);have hkl:k < os.length:=HM.out▸hlt;have vK:=Lh (List.getElem_mem hkl);have HS:=Lh (List.take_succ_eq_append_getElem hkl);have HCt:=Lh (Bl.EU ps os k hkl);have hrow:=(HO.out.row k hkl).below HB.out;obtain ⟨r,hr⟩:∃ r,os[k]=r:=⟨_,rfl⟩;rw [hr] at hrow vK HS HCt;clear hr;obtain ⟨g0,g1,g2,g3⟩:=hrow;obtain ⟨W,hW,hbW,hA⟩:=Sr.bZ wr r;have dz:=Lh (aj HB.out hbW);have Q9:=Lh hA;clear hbW;unfold Sr.C at hA;obtain ⟨a0,a1,a2,a3⟩:=hA;have hso:=Se.bL.1 (VU.out.2.1 r vK.out);have hli:=Se.lQ.1 hso.2.1;have hb1: -9223372036854775808<=r.next - 1:=by have:=hso.2.2.1;omega
   have hb2:r.next - 1<=9223372036854775807:=by have:=hso.2.2.2;omega
   clear hso hli;go_wp2_with fail;clear hW;refine (MX ps rs r.name ao n ca W W (Below.refl _ _) (HL.out.below dz.out) (HE.out.below dz.out)).mono ?_;rintro e w2 ⟨hcase,b2⟩;have HB2:=Lh (aj dz.out b2);have hA2:=Q9.out.below b2;unfold Sr.C at hA2;clear a0 a1 a2 a3 g0 g1 g2 g3;obtain ⟨a0,a1,a2,a3⟩:=hA2;have hcl:=Bl.Df r.name ps;have HCl:Hid (Bl.cnt r.name ps<=n):=Lh (by rw [HN.out];exact hcl);clear b2 hcl;rcases hcase with ⟨hok,rfl⟩ | ⟨hno,rfl⟩
   ·
    have Zg:=Lh hok;clear hok;obtain ⟨q,hq⟩:∃ q,Bl.cnt r.name ps=q:=⟨_,rfl⟩;have HQ:=Lh hq;rw [hq] at HCl HCt ⊢;clear hq;have hql:=HCl.out;have hb3:k*1000<=7000:=by omega
    by_cases he:(q:Int)=r.next - 1
    ·
     have qe:((q:Int)==r.next - 1)=true:=beq_iff_eq.2 he;have HEq:=Lh he;clear he;go_wp2_with fail;go_roundw
     case rel =>
      refine ⟨k+1,t+q,by omega,by omega,by go_num,by go_num,Lh ⟨?_,by rw [HCt.out,HT.out.2]⟩,HB2⟩;rw [HS.out];intro y hy;rcases List.mem_append.1 hy with h | h
      · exact HT.out.1 y h
      ·
       rw [List.mem_singleton.1 h];exact ⟨Zg.out,by rw [HQ.out];exact HEq.out⟩
     case measure=>simp [intOf];omega
    ·
     have qe:((q:Int)==r.next - 1)=false:=beq_eq_false_iff_ne.2 he;have cK:Hid (¬ Bl.IU ps os):=Lh fun z=>he (by rw [<- HQ.out];exact (z.each r vK.out).2)
     clear he;go_wp2_with fail;go_ret;exact ⟨.inr ⟨cK.out,rfl⟩,aj HW.out HB2.out⟩
   ·
    have cK:Hid (¬ Bl.IU ps os):=Lh fun z=>hno (z.each r vK.out).1
    clear hno;go_wp2_with fail;go_ret;exact ⟨.inr ⟨cK.out,rfl⟩,aj HW.out HB2.out⟩
  ·
   obtain rfl:k=m:=by omega
   have HA:Hid ((∀ r∈os,Bl.sW r.name ps/\(Bl.cnt r.name ps:Int)=r.next - 1)/\Bl.fu ps os=t):=Lh (by
    have h:=HT.out;rw [List.take_of_length_le (by rw [HM.out];exact Nat.le_refl _)] at h;exact h)
   by_cases he:t=n
   ·
    have qe:((t:Int)==(n:Int))=true:=beq_iff_eq.2 (by omega);have iM:Hid (Bl.IU ps os):=Lh ⟨HA.out.1,by rw [HA.out.2,he,HN.out]⟩;clear he;go_wp2_with fail;go_ret;exact ⟨.inl ⟨iM.out,rfl⟩,aj HW.out HB.out⟩
   ·
    have qe:((t:Int)==(n:Int))=false:=beq_eq_false_iff_ne.2 (by omega);have cK:Hid (¬ Bl.IU ps os):=Lh fun z=>he (by rw [<- HA.out.2,z.all,HN.out])
    clear he;go_wp2_with fail;go_ret;exact ⟨.inr ⟨cK.out,rfl⟩,aj HW.out HB.out⟩
theorem yG (x y c:Int) (hx:0<=x) (hy:0<=y) (hc0:0<=c) (hc:c<=1) (w:World):(callFunc 155 #[.int .u64 x,.int .u64 y,.int .u64 c]).run Tryz.prog w=.ok (.value (.tuple #[.int .u64 ((x+y+c) % 18446744073709551616),.int .u64 ((x+y+c) / 18446744073709551616)])) w:=by
 rw [run_callFunc_extern Tryz.func155 (by kernel_rfl) (by kernel_rfl) (by kernel_rfl) (e:=add64Entry) (by kernel_rfl),run_add64 x y c hx hy hc0 hc];rfl
def Bl.dW (s:Int):Int:=(s / 18446744073709551616) % 18446744073709551616
def Bl.eZ (s:Int):Int:=s % 18446744073709551616
theorem Bl.w_bd (s:Int):0<=Bl.dW s/\Bl.dW s < 18446744073709551616/\0<=Bl.eZ s/\Bl.eZ s < 18446744073709551616:=by
 unfold Bl.dW Bl.eZ;omega
theorem Bl.w_neg (s n:Int):(Bl.eZ s+(n+18446744073709551616)) % 18446744073709551616=Bl.eZ (s+n)/\(Bl.dW s+18446744073709551615+(Bl.eZ s+(n+18446744073709551616)) / 18446744073709551616) % 18446744073709551616=Bl.dW (s+n):=by
 unfold Bl.dW Bl.eZ;omega
theorem Bl.w_pos (s n:Int):(Bl.eZ s+n) % 18446744073709551616=Bl.eZ (s+n)/\(Bl.dW s+0+(Bl.eZ s+n) / 18446744073709551616) % 18446744073709551616=Bl.dW (s+n):=by
 unfold Bl.dW Bl.eZ;omega
theorem Bl.w_inj {a b:Int} (ha: -170141183460469231731687303715884105728<=a/\a < 170141183460469231731687303715884105728) (hb: -170141183460469231731687303715884105728<=b/\b < 170141183460469231731687303715884105728):(Bl.dW a=Bl.dW b/\Bl.eZ a=Bl.eZ b)↔a=b:=by
 constructor
 ·
  rintro ⟨h1,h2⟩;unfold Bl.dW at h1;unfold Bl.eZ at h2;omega
 ·
  rintro rfl;exact ⟨rfl,rfl⟩
theorem Ag (s n:Int) (w0 w:World) (hw:Below w0.heap.size w0 w) (hn:Fit n) :
  Calls Tryz.prog 118 #[.agg #[.int .u64 (Bl.dW s),.int .u64 (Bl.eZ s)],.int .i64 n] w fun e w'=>e=.returned (.agg #[.int .u64 (Bl.dW (s+n)),.int .u64 (Bl.eZ (s+n))])/\Below w0.heap.size w0 w':=by
 have HW:=Lh hw;have HF:=Lh hn;obtain ⟨b0,b1,b2,b3⟩:=Bl.w_bd s;obtain ⟨U,hU,hB,k0,k1,hs⟩:=Bl.U7 w (.cells #[.int .u64 (Bl.dW s),.int .u64 (Bl.eZ s)] 188) (.cells #[.int .u64 0,.int .u64 0] 188);have c0:U.cell? ⟨w.heap.size,0,none⟩=some (.int .u64 (Bl.dW s)):=by rw [cell_of_row U _ 0 _ _ _ k0];rfl
 have c1:U.cell? ⟨w.heap.size,1,none⟩=some (.int .u64 (Bl.eZ s)):=by rw [cell_of_row U _ 1 _ _ _ k0];rfl
 have d0:U.cell? ⟨w.heap.size+1,0,none⟩=some (.int .u64 0):=by rw [cell_of_row U _ 0 _ _ _ k1];rfl
 have d1:U.cell? ⟨w.heap.size+1,1,none⟩=some (.int .u64 0):=by rw [cell_of_row U _ 1 _ _ _ k1];rfl
 have z0:U.frozen? ⟨w.heap.size+1,0,none⟩=false:=frozen_of_row U _ 0 _ _ k1;have z1:U.frozen? ⟨w.heap.size+1,1,none⟩=false:=frozen_of_row U _ 1 _ _ k1;have HB:=Lh hB;have BZ:=Lh (Bl.w_neg s n);have HE2:=Lh (Bl.w_pos s n);obtain ⟨hi,hhi⟩:∃ hi,Bl.dW s=hi:=⟨_,rfl⟩;obtain ⟨lo,hlo⟩:∃ lo,Bl.eZ s=lo:=⟨_,rfl⟩;obtain ⟨hi',Zh⟩:∃ x,Bl.dW (s+n)=x:=⟨_,rfl⟩;obtain ⟨lo',Zi⟩:∃ x,Bl.eZ (s+n)=x:=⟨_,rfl⟩;rw [hhi,hlo,Zh,Zi] at BZ HE2;rw [hhi] at b0 b1 hU c0 ⊢;rw [hlo] at b2 b3 hU c1 ⊢;rw [Zh,Zi];clear hw hn k0 k1 hs hB hhi hlo Zh Zi;by_cases hneg:n < 0
 ·
  have e1:IntKind.u64.wrap n=n+18446744073709551616:=by
   rw [IntKind.wrap_u64];have:=HF.out.1;omega
  have e2:n / 9223372036854775808= -1:=by
   have:=HF.out.1;omega
  have e3:IntKind.u64.wrap (-1)=18446744073709551615:=by rw [IntKind.wrap_u64];rfl
  have add1:=yG lo (n+18446744073709551616) 0 b2 (by have:=HF.out.1;omega) (by omega) (by omega);have add2:=yG hi 18446744073709551615 ((lo+(n+18446744073709551616)) / 18446744073709551616) b0 (by omega) (by have:=HF.out.1;omega) (by omega);rw [Int.add_zero] at add1;rw [BZ.out.1] at add1;rw [BZ.out.2] at add2;obtain ⟨c,hc⟩:∃ c,(lo+(n+18446744073709551616)) / 18446744073709551616=c:=⟨_,rfl⟩;rw [hc] at add1 add2;clear hc BZ HE2 hneg;go_enter Tryz.func118,Tryz.ntmps118;go_wp2_with (simp only [e3,add1,add2]);exact bodyPost_ret (v:=.agg #[.int .u64 hi',.int .u64 lo']) (by simp [results,Tryz.results118,go_sem,d0,d1]) rfl ⟨rfl,bU (bU (aj HW.out HB.out) (by have:=HW.out.size;omega) _ _) (by have:=HW.out.size;omega) _ _⟩
 ·
  have e1:IntKind.u64.wrap n=n:=by
   rw [IntKind.wrap_u64];have:=HF.out.2;omega
  have e2:n / 9223372036854775808=0:=by
   have:=HF.out.2;omega
  have add1:=yG lo n 0 b2 (by omega) (by omega) (by omega);have add2:=yG hi 0 ((lo+n) / 18446744073709551616) b0 (by omega) (by omega) (by have:=HF.out.2;omega);rw [Int.add_zero] at add1;rw [HE2.out.1] at add1;rw [HE2.out.2] at add2;obtain ⟨c,hc⟩:∃ c,(lo+n) / 18446744073709551616=c:=⟨_,rfl⟩;rw [hc] at add1 add2;clear hc BZ HE2 hneg;go_enter Tryz.func118,Tryz.ntmps118;go_wp2_with (simp only [add1,add2]);exact bodyPost_ret (v:=.agg #[.int .u64 hi',.int .u64 lo']) (by simp [results,Tryz.results118,go_sem,d0,d1]) rfl ⟨rfl,bU (bU (aj HW.out HB.out) (by have:=HW.out.size;omega) _ _) (by have:=HW.out.size;omega) _ _⟩
structure Bl.PartOk (l:List Pt.T) (i:Nat) (h:i < l.length):Prop where
 a:Rn.name (txt l[i].cat)=true
 b : ∀ q : 0 < i,Iv.lt (l[i - 1]'(by omega)).cat l[i].cat = true
 c:Sh.iC l[i].net l[i].bp=0
 d:Sh.fK l[i].net l[i].bp=l[i].aP
def Bl.rM (l : List Pt.T) : Prop := l ≠ [] /\ l.length <= 12 /\ ∀ i (h : i < l.length),Rn.name (txt l[i].cat) = true /\ (∀ q : 0 < i,Iv.lt (l[i - 1]'(by omega)).cat l[i].cat = true) /\ Sh.iC l[i].net l[i].bp = 0 /\ Sh.fK l[i].net l[i].bp = l[i].aP
def Bl.Sy (l : List Pt.T) (k : Nat) : Prop := ∀ i (h : i < l.length),i < k -> Rn.name (txt l[i].cat) = true /\ (∀ q : 0 < i,Iv.lt (l[i - 1]'(by omega)).cat l[i].cat = true) /\ Sh.iC l[i].net l[i].bp = 0 /\ Sh.fK l[i].net l[i].bp = l[i].aP
theorem Bl.Cu {l : List Pt.T} {k: Nat} (h : Bl.Sy l k) (hk : k < l.length) (p : Rn.name (txt l[k].cat) = true /\ (∀ q : 0 < k,Iv.lt (l[k - 1]'(by omega)).cat l[k].cat = true)) (t : Sh.iC l[k].net l[k].bp = 0 /\ Sh.fK l[k].net l[k].bp = l[k].aP) : Bl.Sy l (k + 1) := by
 intro i hi hik;by_cases e:i=k
 ·
  subst e;exact ⟨p.1,p.2,t.1,t.2⟩
 · exact h i hi (by omega)
theorem Bl.Ah {l : List Pt.T} : (∀ i (h : i < l.length),∀ q : 0 < i,Iv.lt (l[i - 1]'(by omega)).cat l[i].cat = true) ↔ Iv.Sorted l := by
 constructor
 ·
  intro h
  have key : ∀ d i (hi : i + d + 1 < l.length),Iv.lt (l[i]'(by omega)).cat l[i + d + 1].cat = true := by
   intro d
   induction d with
   | zero =>
    intro i hi;exact h (i+0+1) hi (by omega)
   | succ d ih =>
    intro i hi;exact Iv.lt_trans (ih i (by omega)) (h (i+(d+1)+1) hi (by omega))
  refine List.pairwise_iff_getElem.2 fun i j hi hj hij=>?_
  have:=key (j - i - 1) i (by omega);have e:i+(j - i - 1)+1=j:=by omega
  simp only [e] at this;exact this
 ·
  intro h i hi q;exact List.pairwise_iff_getElem.1 h (i - 1) i (by omega) hi (by omega)
theorem Bl.Ai {t:Iv.iD}:Bl.sI t↔Bl.rM t.parts/\t.net=Bl.dV t.parts/\t.aP=Bl.dI t.parts/\t.au=t.net+t.aP/\Mn.Fit t.net/\Mn.Fit t.aP/\Mn.Fit t.au:=by
 constructor
 ·
  intro h;refine ⟨⟨h.some,h.few,fun i hi=>?_⟩,h.net,h.aP,h.au,h.fit.1,h.fit.2.1,h.fit.2.2⟩;have he:=h.each _ (List.getElem_mem hi);exact ⟨he.1,Bl.Ah.2 h.so i hi,he.2.2.2.1,he.2.2.2.2⟩
 ·
  rintro ⟨⟨h1,h2,h3⟩,h4,h5,h6,h7⟩;refine ⟨h1,h2,fun p hp=>?_,Bl.Ah.1 fun i hi=>(h3 i hi).2.1,h4,h5,h6,h7⟩;obtain ⟨i,hi,rfl⟩:=List.getElem_of_mem hp;have he:=h3 i hi
  have hr:Sh.Right t.parts[i].bp:=by
   have:=he.2.2.1;unfold Sh.iC at this;split at this
   · assumption
   · omega
  exact ⟨he.1,hr.1,hr.2,he.2.2.1,he.2.2.2⟩
def JK (f:FuncId) (args:Array Value) (u:World) (i:Nat) (os:Array Obj) (v:Value):Prop :=
 Calls Tryz.prog f args (grow (redrawn u i) os) fun e w''=>e=.returned v/\∃ p:Regrown,w''=grow (redrawn u p.d) p.os
theorem Sz (s:ByteArray) (hs:s.size<=140737488355328) (u:World) (i:Nat) (os:Array Obj):JK 112 #[.string s] u i os (.bool (Rn.name (txt s))) :=
 Calls.regrown_of (FN s _ _ (Below.refl _ _) hs)
theorem JL (ls:List Pt.T) (ao:Option Addr) (n cap:Nat) (w0 w:World) (hw:Below w0.heap.size w0 w) (hL:Pt.Ls w ao n cap ls) :
  Calls Tryz.prog 76 #[.slice ao n cap] w (Bl.Bb w0 (Bl.rM ls)):=by
 have HW:=Lh hw;have HL:=Lh hL;have HN:=Lh hL.len;have hcap:=hL.reach;have hfit:=hL.fits;clear hL hw;by_cases hn1:n < 1
 ·
  have d1:decide ((n:Int) < 1)=true:=decide_eq_true (by omega);have cK:Hid (¬ Bl.rM ls):=Lh fun z=>z.1 (List.length_eq_zero_iff.1 (by have:=HN.out;omega))
  clear hn1;go_enter Tryz.func76,Tryz.ntmps76;go_wp2;go_ret;exact ⟨.inr ⟨cK.out,rfl⟩,HW.out⟩
 ·
  have d1:decide ((n:Int) < 1)=false:=decide_eq_false (by omega);by_cases hn2:12 < n
  ·
   have d2:decide ((12:Int) < n)=true:=decide_eq_true (by omega);have cK:Hid (¬ Bl.rM ls):=Lh fun z=>by have:=z.2.1;have:=HN.out;omega
   go_enter Tryz.func76,Tryz.ntmps76;go_wp2;go_ret;exact ⟨.inr ⟨cK.out,rfl⟩,HW.out⟩
  ·
   have d2:decide ((12:Int) < n)=false:=decide_eq_false (by omega);have xK:Hid (0 < n/\n<=12):=Lh ⟨by omega,by omega⟩;go_enter Tryz.func76,Tryz.ntmps76;go_wp2
   go_loopw [3,4,5,6,17] (fun _ _ _ _ j wr=>∃ k:Nat,k<=n/\j=.int .i64 k/\Hid (Bl.Sy ls k)/\Hid (Below w.heap.size w wr)) (fun _ _ _ _ j _=>n - (intOf j).toNat)
   case atStart=>exact ⟨0,by omega,rfl,Lh (fun i _ h=>absurd h (Nat.not_lt_zero _)),Lh (Below.refl _ _)⟩
   case round =>
    obtain ⟨k,hk,rfl,HT,HB⟩:=hrel;by_cases hlt:k < n
    ·
     obtain ⟨b,off,rfl⟩:=HL.out.at (by omega);have hkl:k < ls.length:=HN.out▸hlt;obtain ⟨r,hr⟩:∃ r,ls[k]=r:=⟨_,rfl⟩;have sD:=Lh hr;have hrow:=(HL.out.row k hkl).below HB.out;have bT:=Lh (HL.out.short _ (List.getElem_mem hkl));rw [hr] at hrow bT;clear hr;obtain ⟨g0,g1,g2,g3⟩:=hrow;obtain ⟨W,hW,hbW,hA⟩:=Pt.bZ wr r;have dz:=Lh (aj HB.out hbW);have Q9:=Lh hA;clear hbW;unfold Pt.C at hA;obtain ⟨a0,a1,a2,a3⟩:=hA;have k0:=cell_regrown a0;have k1:=cell_regrown a1;have k2:=cell_regrown a2;have k3:=cell_regrown a3;have c1:=fun i os=>Sz r.cat bT.out.1 W i os
     cases he:Rn.name (txt r.cat)
     ·
      rw [he] at c1;have cK:Hid (¬ Bl.rM ls):=Lh fun z=>by have:=(z.2.2 _ hkl).1;rw [sD.out,he] at this;cases this
      clear he;go_wp2;refine wp_region_quiet_below (by kernel_rfl) (by kernel_rfl) ?_
      repeat (first | go_big_quiet_step (first | (go_at_call 112;exact c1 _ _)) | quiet_step (first | (go_at_call 112;exact c1 _ _)))
      refine wpQuiet_nil ?_;intro _ hw';obtain ⟨⟨dq,osq⟩,hw''⟩:=hw';subst hw'';have cO:=Lh (aj dz.out (below_regrown W dq osq));have Vg:=Lh (Q9.out.below (below_regrown W dq osq));go_wp2;go_ret;exact ⟨.inr ⟨cK.out,rfl⟩,aj HW.out cO.out⟩
     ·
      rw [he] at c1;have Rl:=Lh he;clear he;by_cases hk0:k=0
      ·
       subst hk0;simp only [Nat.zero_mul,Nat.add_zero] at g0 g1 g2 g3;have HP : Hid (Rn.name (txt ls[0].cat) = true /\ (∀ q : 0 < 0,Iv.lt (ls[0 - 1]'(by omega)).cat ls[0].cat = true)) := Lh ⟨by rw [sD.out]; exact Rl.out,fun q => absurd q (Nat.lt_irrefl _)⟩;go_wp2;refine wp_region_quiet_below (by kernel_rfl) (by kernel_rfl) ?_
       repeat (first | go_big_quiet_step (first | (go_at_call 112;exact c1 _ _)) | quiet_step (first | (go_at_call 112;exact c1 _ _)))
       refine wpQuiet_nil ?_;intro _ hw';obtain ⟨⟨dq,osq⟩,hw''⟩:=hw';subst hw'';have cO:=Lh (aj dz.out (below_regrown W dq osq));have Vg:=Lh (Q9.out.below (below_regrown W dq osq));clear a0 a1 a2 a3 k0 k1 k2 k3 g0 g1 g2 g3 c1;have hCv:=Vg.out;unfold Pt.C at hCv;obtain ⟨e0,e1,e2,e3⟩:=hCv;generalize grow (redrawn W dq) osq=V at *;go_wp2_with fail;refine (yD r.net r.bp V V (Below.refl _ _) bT.out.2.2.1 bT.out.2.1).mono ?_;rintro e w2 ⟨rfl,b2⟩;have HB2:=Lh (aj cO.out b2);have hC2:=Vg.out.below b2;unfold Pt.C at hC2;clear e0 e1 e2 e3 b2;obtain ⟨e0,e1,e2,e3⟩:=hC2;unfold both;by_cases t0:Sh.iC r.net r.bp=0
       ·
        rw [t0];by_cases t1:Sh.fK r.net r.bp=r.aP
        ·
         have q1:(Sh.fK r.net r.bp==r.aP)=true:=beq_iff_eq.2 t1;have iM:=Lh (Bl.Cu HT.out hkl HP.out (by rw [sD.out];exact ⟨t0,t1⟩));obtain ⟨tv,GD⟩:∃ tv,Sh.fK r.net r.bp=tv:=⟨_,rfl⟩;rw [GD] at q1 ⊢;clear GD t0 t1;go_wp2;go_roundw
         case rel=>exact ⟨1,by omega,by go_num,iM,HB2⟩
         case measure=>simp [intOf];omega
        ·
         have q1:(Sh.fK r.net r.bp==r.aP)=false:=beq_eq_false_iff_ne.2 t1;have cK:Hid (¬ Bl.rM ls):=Lh fun z=>t1 (by have:=(z.2.2 _ hkl).2.2.2;rw [sD.out] at this;exact this)
         obtain ⟨tv,GD⟩:∃ tv,Sh.fK r.net r.bp=tv:=⟨_,rfl⟩;rw [GD] at q1 ⊢;clear GD t0 t1;go_wp2;go_ret;exact ⟨.inr ⟨cK.out,rfl⟩,aj HW.out HB2.out⟩
       ·
        have q1:(Sh.iC r.net r.bp==0)=false:=beq_eq_false_iff_ne.2 t0;have cK:Hid (¬ Bl.rM ls):=Lh fun z=>t0 (by have:=(z.2.2 _ hkl).2.2.1;rw [sD.out] at this;exact this)
        obtain ⟨te,hte⟩:∃ te,Sh.iC r.net r.bp=te:=⟨_,rfl⟩;rw [hte] at q1 ⊢;obtain ⟨tv,GD⟩:∃ tv,Sh.fK r.net r.bp=tv:=⟨_,rfl⟩;rw [GD];clear GD hte t0;go_wp2;go_ret;exact ⟨.inr ⟨cK.out,rfl⟩,aj HW.out HB2.out⟩
      ·
       obtain ⟨j,rfl⟩:∃ j,k=j+1:=⟨k - 1,by omega⟩;have hjr:j < ls.length:=by omega
       obtain ⟨q,hq⟩:∃ q,ls[j]=q:=⟨_,rfl⟩;have hrow2:=(HL.out.row j hjr).below dz.out;rw [hq] at hrow2;have HQ:=Lh hq;obtain ⟨f0,f1,f2,f3⟩:=hrow2;have m0:=cell_regrown f0;have m1:=cell_regrown f1;have m2:=cell_regrown f2;have m3:=cell_regrown f3;have hjs:((j+1:Nat):Int) - 1=(j:Int):=by omega
       clear hq hk0;cases hlt2:Op.bytesLess q.cat.toList r.cat.toList
       ·
        have cK:Hid (¬ Bl.rM ls):=Lh fun z=>by
         have h:=(z.2.2 _ hkl).2.1 (by omega);simp only [Nat.add_sub_cancel,HQ.out,sD.out] at h;unfold Iv.lt at h;rw [hlt2] at h;cases h
        go_wp2;refine wp_region_quiet_below (by kernel_rfl) (by kernel_rfl) ?_
        repeat (first | go_big_quiet_step (first | (go_at_call 112;exact c1 _ _)) | quiet_step (first | (go_at_call 112;exact c1 _ _)))
        refine wpQuiet_nil ?_;intro _ hw';obtain ⟨⟨dq,osq⟩,hw''⟩:=hw';subst hw'';have cO:=Lh (aj dz.out (below_regrown W dq osq));have Vg:=Lh (Q9.out.below (below_regrown W dq osq));go_wp2;go_ret;exact ⟨.inr ⟨cK.out,rfl⟩,aj HW.out cO.out⟩
       ·
        have HP : Hid (Rn.name (txt ls[j + 1].cat) = true /\ (∀ q : 0 < j + 1,Iv.lt (ls[j + 1 - 1]'(by omega)).cat ls[j + 1].cat = true)) := Lh ⟨by rw [sD.out]; exact Rl.out,fun _ => by
         simp only [Nat.add_sub_cancel,HQ.out,sD.out];exact hlt2⟩
        go_wp2;refine wp_region_quiet_below (by kernel_rfl) (by kernel_rfl) ?_
        repeat (first | go_big_quiet_step (first | (go_at_call 112;exact c1 _ _)) | quiet_step (first | (go_at_call 112;exact c1 _ _)))
        refine wpQuiet_nil ?_;intro _ hw';obtain ⟨⟨dq,osq⟩,hw''⟩:=hw';subst hw'';have cO:=Lh (aj dz.out (below_regrown W dq osq));have Vg:=Lh (Q9.out.below (below_regrown W dq osq));clear a0 a1 a2 a3 k0 k1 k2 k3 g0 g1 g2 g3 c1;have hCv:=Vg.out;unfold Pt.C at hCv;obtain ⟨e0,e1,e2,e3⟩:=hCv;generalize grow (redrawn W dq) osq=V at *;go_wp2_with fail;refine (yD r.net r.bp V V (Below.refl _ _) bT.out.2.2.1 bT.out.2.1).mono ?_;rintro e w2 ⟨rfl,b2⟩;have HB2:=Lh (aj cO.out b2);have hC2:=Vg.out.below b2;unfold Pt.C at hC2;clear e0 e1 e2 e3 b2;obtain ⟨e0,e1,e2,e3⟩:=hC2;unfold both;by_cases t0:Sh.iC r.net r.bp=0
        ·
         rw [t0];by_cases t1:Sh.fK r.net r.bp=r.aP
         ·
          have q1:(Sh.fK r.net r.bp==r.aP)=true:=beq_iff_eq.2 t1;have iM:=Lh (Bl.Cu HT.out hkl HP.out (by rw [sD.out];exact ⟨t0,t1⟩));obtain ⟨tv,GD⟩:∃ tv,Sh.fK r.net r.bp=tv:=⟨_,rfl⟩;rw [GD] at q1 ⊢;clear GD t0 t1;go_wp2;go_roundw
          case rel=>exact ⟨j+1+1,by omega,by go_num,iM,HB2⟩
          case measure=>simp [intOf];omega
         ·
          have q1:(Sh.fK r.net r.bp==r.aP)=false:=beq_eq_false_iff_ne.2 t1;have cK:Hid (¬ Bl.rM ls):=Lh fun z=>t1 (by have:=(z.2.2 _ hkl).2.2.2;rw [sD.out] at this;exact this)
          obtain ⟨tv,GD⟩:∃ tv,Sh.fK r.net r.bp=tv:=⟨_,rfl⟩;rw [GD] at q1 ⊢;clear GD t0 t1;go_wp2;go_ret;exact ⟨.inr ⟨cK.out,rfl⟩,aj HW.out HB2.out⟩
        ·
         have q1:(Sh.iC r.net r.bp==0)=false:=beq_eq_false_iff_ne.2 t0;have cK:Hid (¬ Bl.rM ls):=Lh fun z=>t0 (by have:=(z.2.2 _ hkl).2.2.1;rw [sD.out] at this;exact this)
         obtain ⟨te,hte⟩:∃ te,Sh.iC r.net r.bp=te:=⟨_,rfl⟩;rw [hte] at q1 ⊢;obtain ⟨tv,GD⟩:∃ tv,Sh.fK r.net r.bp=tv:=⟨_,rfl⟩;rw [GD];clear GD hte t0;go_wp2;go_ret;exact ⟨.inr ⟨cK.out,rfl⟩,aj HW.out HB2.out⟩
    ·
     obtain rfl:k=n:=by omega
     have iM:Hid (Bl.rM ls):=Lh ⟨fun z=>(by have h:=HN.out;have h2:=xK.out.1;rw [z] at h;have h3:k=0:=h;omega),by have:=HN.out;have:=xK.out;omega,fun i hi=>HT.out i hi (by have:=HN.out;omega)⟩;go_wp2;go_ret;exact ⟨.inl ⟨iM.out,rfl⟩,aj HW.out HB.out⟩
def Bl.Wk (u:World) (g:Nat) (s:Int):Prop:=u.heap[g]? =some (.cells #[.int .u64 (Bl.dW s),.int .u64 (Bl.eZ s)] 188 (0,0))
theorem Bl.Wk.lt (h:Bl.Wk u g s):g < u.heap.size:=by
 obtain ⟨hl,_⟩:=Array.getElem?_eq_some_iff.1 h;exact hl
theorem Bl.Wk.below {v:World} (h:Bl.Wk u g s) (b:Below u.heap.size u v):Bl.Wk v g s:=(b.block g h.lt).trans h
theorem Bl.ng:(Tryz.prog.info? 188).map (·.size)=some 2:=by kernel_rfl
theorem Bl.Wk.cells (h:Bl.Wk u g s):u.cell? ⟨g,0,none⟩=some (.int .u64 (Bl.dW s))/\u.cell? ⟨g,1,none⟩=some (.int .u64 (Bl.eZ s)):=by
 refine ⟨?_,?_⟩
 all_goals
  rw [cell_of_row u g _ _ _ _ h];rfl
def Bl.GH (w:World) (g:Nat) (s:Int):World:=w.setRow g #[.int .u64 (Bl.dW s),.int .u64 (Bl.eZ s)]
theorem Bl.Wk.lay {s0:Int} (h:Bl.Wk w g s0) (s:Int):Bl.Wk (Bl.GH w g s) g s:=setRow_heap w g _ _ 188 _ h
theorem Bl.Wk.other {b:Nat} (hA:Bl.Wk w g s) (hne:g≠b) (vs:Array Value):Bl.Wk (w.setRow b vs) g s:=(setRow_other w b g vs hne).trans hA
section
variable {ops:Array Oper} {o:Oper} {a:Act} {w:World} {K:Act->World->Prop} {Q:Exit->Act->World->Prop} {E:Prop} {S:World->Prop} {t:Tmp} {g:Nat}
theorem Bl.SA (hgd:o.guard=none) (ho:o.op=.load 188 (.tmp t)) (hp:a.tmps.toList[t]? =some (.pointer (some ⟨g,0,none⟩))) (hS:∀ u,S u->Bl.Wk u g s):YieldsIf Tryz.prog ops S o (.agg #[.int .u64 (Bl.dW s),.int .u64 (Bl.eZ s)]) a:=by
 refine .inl ⟨by simp [Region.wanted,hgd],fun u hu=>?_⟩;have e:=run_loadVar_row (P:=Tryz.prog) u g 188 188 #[.int .u64 (Bl.dW s),.int .u64 (Bl.eZ s)] (0,0) _ (hS u hu) Tryz.underlying188 rfl (by rw [Bl.ng];rfl);simp only [execOp,ho,Ca.gY hp,Instr.loadAt,Instr.sureAddr,Sem.run_bind,Sem.run_pure,Result.andThen_ok,e]
theorem Bl.Zj (hgd:o.guard=none) (ho:o.op=.fieldAddr 108 (.tmp t) 2) (hp:a.tmps.toList[t]? =some (.pointer (some ⟨g,0,none⟩))):YieldsIf Tryz.prog ops S o (.pointer (some ⟨g,2,none⟩)) a:=by
 refine .inl ⟨by simp [Region.wanted,hgd],fun u _=>?_⟩;simp only [execOp,ho,Ca.gY hp];simp [go_sem]
theorem Bl.Zk (hgd:o.guard=none) (ho:o.op=.fieldAddr 108 (.tmp t) 3) (hp:a.tmps.toList[t]? =some (.pointer (some ⟨g,0,none⟩))):YieldsIf Tryz.prog ops S o (.pointer (some ⟨g,3,none⟩)) a:=by
 refine .inl ⟨by simp [Region.wanted,hgd],fun u _=>?_⟩;simp only [execOp,ho,Ca.gY hp];simp [go_sem]
theorem Bl.SB {k:Nat} {n:Int} (hgd:o.guard=none) (ho:o.op=.load 3 (.tmp t)) (hp:a.tmps.toList[t]? =some (.pointer (some ⟨g,k,none⟩))) (hS:∀ u,S u->u.cell? ⟨g,k,none⟩=some (.int .i64 n)):YieldsIf Tryz.prog ops S o (.int .i64 n) a:=by
 refine .inl ⟨by simp [Region.wanted,hgd],fun u hu=>?_⟩;have h:=hS u hu;simp only [execOp,ho,Ca.gY hp];simp [go_sem,h]
theorem Bl.Cv {x y:Tmp} {s0:Int} (hgd:o.guard=none) (ho:o.op=.store 188 (.tmp x) (.tmp y)) (hd:o.dst=none) (hx:a.tmps.toList[x]? =some (.pointer (some ⟨g,0,none⟩))) (hy:a.tmps.toList[y]? =some (.agg #[.int .u64 (Bl.dW s),.int .u64 (Bl.eZ s)])) (hA:Bl.Wk w g s0)
  (k:K a (Bl.GH w g s)):if Region.wanted o (yielded ops a.tmps)=true then Oper.wp Tryz.prog o a w K Q else E:=by
 have hw:Region.wanted o (yielded ops a.tmps)=true:=by simp [Region.wanted,hgd]
 rw [if_pos hw];refine wp_store_row 188 (.tmp x) (.tmp y) ho g #[.int .u64 (Bl.dW s),.int .u64 (Bl.eZ s)] (Ca.gY hx) (Ca.gY hy) 188 #[.int .u64 (Bl.dW s0),.int .u64 (Bl.eZ s0)] hA (by rw [Bl.ng];rfl) rfl (by simp [Value.oneCell']) ?_;rw [hd];exact k
end
def Bl.wG (ops:Array Oper) (i:Nat) (l:List Bool) (D:List Nat):Bool:=kK .any ops 8 i D&&lN l.toArray D
def Bl.SC (ops:Array Oper):Bool:=Region.noSelect ops&&Bl.tk ops [false,false,false,false,false,false,false,false,false,false] 0&&Bl.tk ops [true,false,false,false,false,false,false,false,false,false] 1&&Bl.tk ops [true,true,false,false,false,false,false,false,false,false] 2&&Bl.tk ops [true,true,true,false,false,false,false,false,false,false] 4&&Bl.tk ops [true,true,true,false,true,false,false,false,false,false] 5&&Bl.tk ops [true,true,true,false,true,true,false,false,false,false] 6&&Bl.wG ops 0 [false,false,false,false,false,false,false,false,false,false] [8,9]&&Bl.wG ops 1 [true,false,false,false,false,false,false,false,false,false] [8,9]&&Bl.wG ops 2 [true,true,false,false,false,false,false,false,false,false] [8,9]&&Bl.wG ops 4 [true,true,true,false,false,false,false,false,false,false] [7,8,9]&&Bl.wG ops 5 [true,true,true,false,true,false,false,false,false,false] [6,7,8,9]&&Bl.wG ops 6 [true,true,true,false,true,true,false,false,false,false] [7,8,9]&&(Region.ready .any ops [true,true,true,false,true,true,true,false,false,false].toArray==[3])&&(Region.ready .any ops [true,true,true,true,true,true,true,false,false,false].toArray==[7])&&(Region.ready .any ops [true,true,true,true,true,true,true,true,false,false].toArray==[8])&&(Region.ready .any ops [true,true,true,true,true,true,true,true,true,false].toArray==[9])&&(Region.ready .any ops [true,true,true,true,true,true,true,true,true,true].toArray==[])
theorem Bl.Oa (ops:Array Oper):Bl.SC ops=true↔(((((((((((((((((Region.noSelect ops=true)/\(Bl.tk ops [false,false,false,false,false,false,false,false,false,false] 0=true))/\(Bl.tk ops [true,false,false,false,false,false,false,false,false,false] 1=true))/\(Bl.tk ops [true,true,false,false,false,false,false,false,false,false] 2=true))/\(Bl.tk ops [true,true,true,false,false,false,false,false,false,false] 4=true))/\(Bl.tk ops [true,true,true,false,true,false,false,false,false,false] 5=true))/\(Bl.tk ops [true,true,true,false,true,true,false,false,false,false] 6=true))/\(Bl.wG ops 0 [false,false,false,false,false,false,false,false,false,false] [8,9]=true))/\(Bl.wG ops 1 [true,false,false,false,false,false,false,false,false,false] [8,9]=true))/\(Bl.wG ops 2 [true,true,false,false,false,false,false,false,false,false] [8,9]=true))/\(Bl.wG ops 4 [true,true,true,false,false,false,false,false,false,false] [7,8,9]=true))/\(Bl.wG ops 5 [true,true,true,false,true,false,false,false,false,false] [6,7,8,9]=true))/\(Bl.wG ops 6 [true,true,true,false,true,true,false,false,false,false] [7,8,9]=true))/\(Region.ready .any ops [true,true,true,false,true,true,true,false,false,false].toArray=[3]))/\(Region.ready .any ops [true,true,true,true,true,true,true,false,false,false].toArray=[7]))/\(Region.ready .any ops [true,true,true,true,true,true,true,true,false,false].toArray=[8]))/\(Region.ready .any ops [true,true,true,true,true,true,true,true,true,false].toArray=[9]))/\(Region.ready .any ops [true,true,true,true,true,true,true,true,true,true].toArray=[]):=by
 unfold Bl.SC
 repeat rw [Bool.and_eq_true]
 simp only [beq_iff_eq]
theorem Bl.Zl {id:Nat} {o0 o1 o2 o3 o4 o5 o6 o7 o8 o9:Oper} (N T x y:Int) (v1 v5:Value) (g3 g4:Nat) {ty3 ty7:Array TypeId} {a3 b3 a7 b7 x8 y8 x9 y9:Tmp} (hx:Fit x) (hy:Fit y) (vV:∀ u,Below w.heap.size w u->S u) (hA:Bl.Wk w g3 N) (hB:Bl.Wk w g4 T) (hn:g3≠g4) (hc:Bl.SC #[o0,o1,o2,o3,o4,o5,o6,o7,o8,o9]=true)
  (y0h:YieldsIf Tryz.prog #[o0,o1,o2,o3,o4,o5,o6,o7,o8,o9] S o0 (.agg #[.int .u64 (Bl.dW N),.int .u64 (Bl.eZ N)]) a) (q0:∀ c a w,Q (.panic c) (Act.put a o0.dst (.agg #[.int .u64 (Bl.dW N),.int .u64 (Bl.eZ N)])) w->Q (.panic c) a w) (y1h:YieldsIf Tryz.prog #[o0,o1,o2,o3,o4,o5,o6,o7,o8,o9] S o1 v1 (a.put o0.dst (.agg #[.int .u64 (Bl.dW N),.int .u64 (Bl.eZ N)]))) (q1:∀ c a w,Q (.panic c) (Act.put a o1.dst v1) w->Q (.panic c) a w) (y2h:YieldsIf Tryz.prog #[o0,o1,o2,o3,o4,o5,o6,o7,o8,o9] S o2 (.int .i64 x) ((a.put o0.dst (.agg #[.int .u64 (Bl.dW N),.int .u64 (Bl.eZ N)])).put o1.dst v1)) (q2:∀ c a w,Q (.panic c) (Act.put a o2.dst (.int .i64 x)) w->Q (.panic c) a w) (y4h:YieldsIf Tryz.prog #[o0,o1,o2,o3,o4,o5,o6,o7,o8,o9] S o4 (.agg #[.int .u64 (Bl.dW T),.int .u64 (Bl.eZ T)]) (((a.put o0.dst (.agg #[.int .u64 (Bl.dW N),.int .u64 (Bl.eZ N)])).put o1.dst v1).put o2.dst (.int .i64 x))) (q4:∀ c a w,Q (.panic c) (Act.put a o4.dst (.agg #[.int .u64 (Bl.dW T),.int .u64 (Bl.eZ T)])) w->Q (.panic c) a w) (y5h:YieldsIf Tryz.prog #[o0,o1,o2,o3,o4,o5,o6,o7,o8,o9] S o5 v5 ((((a.put o0.dst (.agg #[.int .u64 (Bl.dW N),.int .u64 (Bl.eZ N)])).put o1.dst v1).put o2.dst (.int .i64 x)).put o4.dst (.agg #[.int .u64 (Bl.dW T),.int .u64 (Bl.eZ T)]))) (q5:∀ c a w,Q (.panic c) (Act.put a o5.dst v5) w->Q (.panic c) a w) (y6h:YieldsIf Tryz.prog #[o0,o1,o2,o3,o4,o5,o6,o7,o8,o9] S o6 (.int .i64 y) (((((a.put o0.dst (.agg #[.int .u64 (Bl.dW N),.int .u64 (Bl.eZ N)])).put o1.dst v1).put o2.dst (.int .i64 x)).put o4.dst (.agg #[.int .u64 (Bl.dW T),.int .u64 (Bl.eZ T)])).put o5.dst v5)) (q6:∀ c a w,Q (.panic c) (Act.put a o6.dst (.int .i64 y)) w->Q (.panic c) a w)
  (hg3:o3.guard=none) (ho3:o3.op=.call { callee:=.value (.func 118),args:=#[.tmp a3,.tmp b3],argTypes:=ty3 }) (e3:((((((a.put o0.dst (.agg #[.int .u64 (Bl.dW N),.int .u64 (Bl.eZ N)])).put o1.dst v1).put o2.dst (.int .i64 x)).put o4.dst (.agg #[.int .u64 (Bl.dW T),.int .u64 (Bl.eZ T)])).put o5.dst v5).put o6.dst (.int .i64 y)).tmps.toList[a3]? =some (.agg #[.int .u64 (Bl.dW N),.int .u64 (Bl.eZ N)])) (f3:((((((a.put o0.dst (.agg #[.int .u64 (Bl.dW N),.int .u64 (Bl.eZ N)])).put o1.dst v1).put o2.dst (.int .i64 x)).put o4.dst (.agg #[.int .u64 (Bl.dW T),.int .u64 (Bl.eZ T)])).put o5.dst v5).put o6.dst (.int .i64 y)).tmps.toList[b3]? =some (.int .i64 x))
  (XR:o7.guard=none) (XT:o7.op=.call { callee:=.value (.func 118),args:=#[.tmp a7,.tmp b7],argTypes:=ty7 }) (e7:(((((((a.put o0.dst (.agg #[.int .u64 (Bl.dW N),.int .u64 (Bl.eZ N)])).put o1.dst v1).put o2.dst (.int .i64 x)).put o4.dst (.agg #[.int .u64 (Bl.dW T),.int .u64 (Bl.eZ T)])).put o5.dst v5).put o6.dst (.int .i64 y)).put o3.dst (.agg #[.int .u64 (Bl.dW (N+x)),.int .u64 (Bl.eZ (N+x))])).tmps.toList[a7]? =some (.agg #[.int .u64 (Bl.dW T),.int .u64 (Bl.eZ T)])) (f7:(((((((a.put o0.dst (.agg #[.int .u64 (Bl.dW N),.int .u64 (Bl.eZ N)])).put o1.dst v1).put o2.dst (.int .i64 x)).put o4.dst (.agg #[.int .u64 (Bl.dW T),.int .u64 (Bl.eZ T)])).put o5.dst v5).put o6.dst (.int .i64 y)).put o3.dst (.agg #[.int .u64 (Bl.dW (N+x)),.int .u64 (Bl.eZ (N+x))])).tmps.toList[b7]? =some (.int .i64 y))
  (hg8:o8.guard=none) (ho8:o8.op=.store 188 (.tmp x8) (.tmp y8)) (XU:o8.dst=none) (e8:((((((((a.put o0.dst (.agg #[.int .u64 (Bl.dW N),.int .u64 (Bl.eZ N)])).put o1.dst v1).put o2.dst (.int .i64 x)).put o4.dst (.agg #[.int .u64 (Bl.dW T),.int .u64 (Bl.eZ T)])).put o5.dst v5).put o6.dst (.int .i64 y)).put o3.dst (.agg #[.int .u64 (Bl.dW (N+x)),.int .u64 (Bl.eZ (N+x))])).put o7.dst (.agg #[.int .u64 (Bl.dW (T+y)),.int .u64 (Bl.eZ (T+y))])).tmps.toList[x8]? =some (.pointer (some ⟨g3,0,none⟩))) (f8:((((((((a.put o0.dst (.agg #[.int .u64 (Bl.dW N),.int .u64 (Bl.eZ N)])).put o1.dst v1).put o2.dst (.int .i64 x)).put o4.dst (.agg #[.int .u64 (Bl.dW T),.int .u64 (Bl.eZ T)])).put o5.dst v5).put o6.dst (.int .i64 y)).put o3.dst (.agg #[.int .u64 (Bl.dW (N+x)),.int .u64 (Bl.eZ (N+x))])).put o7.dst (.agg #[.int .u64 (Bl.dW (T+y)),.int .u64 (Bl.eZ (T+y))])).tmps.toList[y8]? =some (.agg #[.int .u64 (Bl.dW (N+x)),.int .u64 (Bl.eZ (N+x))]))
  (hg9:o9.guard=none) (ho9:o9.op=.store 188 (.tmp x9) (.tmp y9)) (XV:o9.dst=none) (e9:((((((((a.put o0.dst (.agg #[.int .u64 (Bl.dW N),.int .u64 (Bl.eZ N)])).put o1.dst v1).put o2.dst (.int .i64 x)).put o4.dst (.agg #[.int .u64 (Bl.dW T),.int .u64 (Bl.eZ T)])).put o5.dst v5).put o6.dst (.int .i64 y)).put o3.dst (.agg #[.int .u64 (Bl.dW (N+x)),.int .u64 (Bl.eZ (N+x))])).put o7.dst (.agg #[.int .u64 (Bl.dW (T+y)),.int .u64 (Bl.eZ (T+y))])).tmps.toList[x9]? =some (.pointer (some ⟨g4,0,none⟩))) (f9:((((((((a.put o0.dst (.agg #[.int .u64 (Bl.dW N),.int .u64 (Bl.eZ N)])).put o1.dst v1).put o2.dst (.int .i64 x)).put o4.dst (.agg #[.int .u64 (Bl.dW T),.int .u64 (Bl.eZ T)])).put o5.dst v5).put o6.dst (.int .i64 y)).put o3.dst (.agg #[.int .u64 (Bl.dW (N+x)),.int .u64 (Bl.eZ (N+x))])).put o7.dst (.agg #[.int .u64 (Bl.dW (T+y)),.int .u64 (Bl.eZ (T+y))])).tmps.toList[y9]? =some (.agg #[.int .u64 (Bl.dW (T+y)),.int .u64 (Bl.eZ (T+y))]))
  (k:∀ u,Below w.heap.size w u->Q .normal ((((((((a.put o0.dst (.agg #[.int .u64 (Bl.dW N),.int .u64 (Bl.eZ N)])).put o1.dst v1).put o2.dst (.int .i64 x)).put o4.dst (.agg #[.int .u64 (Bl.dW T),.int .u64 (Bl.eZ T)])).put o5.dst v5).put o6.dst (.int .i64 y)).put o3.dst (.agg #[.int .u64 (Bl.dW (N+x)),.int .u64 (Bl.eZ (N+x))])).put o7.dst (.agg #[.int .u64 (Bl.dW (T+y)),.int .u64 (Bl.eZ (T+y))])) (Bl.GH (Bl.GH u g3 (N+x)) g4 (T+y))) :
  (Code.region id #[o0,o1,o2,o3,o4,o5,o6,o7,o8,o9] true).wp Tryz.prog Q a w:=by
 rw [Bl.Oa] at hc;obtain ⟨⟨⟨⟨⟨⟨⟨⟨⟨⟨⟨⟨⟨⟨⟨⟨⟨c0,c1⟩,c2⟩,c3⟩,c4⟩,c5⟩,c6⟩,c7⟩,c8⟩,c9⟩,c10⟩,c11⟩,c12⟩,c13⟩,c14⟩,c15⟩,c16⟩,c17⟩:=hc;have hw0:Below w.heap.size w w.drew:=(Below.refl _ _).drew;have hH:=vV _ hw0;refine Bl.Sw (S:=S) (x:=8) ?_;show jD Tryz.prog .any #[o0,o1,o2,o3,o4,o5,o6,o7,o8,o9] Q S 8 10 [false,false,false,false,false,false,false,false,false,false].toArray a w.drew;refine Bl.LB (i:=0) (oi:=o0) rfl c0 c1 c7 q0 y0h hH ?_;show jD Tryz.prog .any #[o0,o1,o2,o3,o4,o5,o6,o7,o8,o9] Q S 8 9 [true,false,false,false,false,false,false,false,false,false].toArray _ _;refine Bl.LB (i:=1) (oi:=o1) rfl c0 c2 c8 q1 y1h hH ?_;show jD Tryz.prog .any #[o0,o1,o2,o3,o4,o5,o6,o7,o8,o9] Q S 8 8 [true,true,false,false,false,false,false,false,false,false].toArray _ _;refine Bl.LB (i:=2) (oi:=o2) rfl c0 c3 c9 q2 y2h hH ?_;show jD Tryz.prog .any #[o0,o1,o2,o3,o4,o5,o6,o7,o8,o9] Q S 8 7 [true,true,true,false,false,false,false,false,false,false].toArray _ _;refine Bl.LB (i:=4) (oi:=o4) rfl c0 c4 c10 q4 y4h hH ?_;show jD Tryz.prog .any #[o0,o1,o2,o3,o4,o5,o6,o7,o8,o9] Q S 8 6 [true,true,true,false,true,false,false,false,false,false].toArray _ _;refine Bl.LB (i:=5) (oi:=o5) rfl c0 c5 c11 q5 y5h hH ?_;show jD Tryz.prog .any #[o0,o1,o2,o3,o4,o5,o6,o7,o8,o9] Q S 8 5 [true,true,true,false,true,true,false,false,false,false].toArray _ _;refine Bl.LB (i:=6) (oi:=o6) rfl c0 c6 c12 q6 y6h hH ?_;show jD Tryz.prog .any #[o0,o1,o2,o3,o4,o5,o6,o7,o8,o9] Q S 8 4 [true,true,true,false,true,true,true,false,false,false].toArray _ _;refine Bl.oneG (i:=3) (oi:=o3) rfl c13 (fun K hK=>?_);refine Bl.fB hg3 (Bl.enters ho3 (vs:=#[.agg #[.int .u64 (Bl.dW N),.int .u64 (Bl.eZ N)],.int .i64 x]) (by simp only [List.map_toArray,List.map_cons,List.map_nil,Ca.gY e3,Ca.gY f3]) Tryz.func118 (by kernel_rfl) rfl _) ((Ag N x w w.drew hw0 hx).mono ?_);rintro e u1 ⟨rfl,b1⟩;refine ⟨_,rfl,hK.out _ _ (.inr (vV _ b1)) ?_⟩;clear hK K;show jD Tryz.prog .any #[o0,o1,o2,o3,o4,o5,o6,o7,o8,o9] Q S 8 3 [true,true,true,true,true,true,true,false,false,false].toArray _ _;refine Bl.oneG (i:=7) (oi:=o7) rfl c14 (fun K hK=>?_);refine Bl.fB XR (Bl.enters XT (vs:=#[.agg #[.int .u64 (Bl.dW T),.int .u64 (Bl.eZ T)],.int .i64 y]) (by simp only [List.map_toArray,List.map_cons,List.map_nil,Ca.gY e7,Ca.gY f7]) Tryz.func118 (by kernel_rfl) rfl _) ((Ag T y w u1 b1 hy).mono ?_);rintro e u2 ⟨rfl,b2⟩;refine ⟨_,rfl,hK.out _ _ (.inr (vV _ b2)) ?_⟩;clear hK K;show jD Tryz.prog .any #[o0,o1,o2,o3,o4,o5,o6,o7,o8,o9] Q S 8 2 [true,true,true,true,true,true,true,true,false,false].toArray _ _;refine Bl.oneG (i:=8) (oi:=o8) rfl c15 (fun K hK=>?_);refine Bl.Cv hg8 ho8 XU e8 f8 (hA.below b2) (hK.out _ _ (.inl (Nat.le_refl _)) ?_);clear hK K;show jD Tryz.prog .any #[o0,o1,o2,o3,o4,o5,o6,o7,o8,o9] Q S 8 1 [true,true,true,true,true,true,true,true,true,false].toArray _ _;refine Bl.oneG (i:=9) (oi:=o9) rfl c16 (fun K hK=>?_);refine Bl.Cv hg9 ho9 XV e9 f9 ((hB.below b2).other (Ne.symm hn) _) (hK.out _ _ (.inl (by omega)) ?_);clear hK K;exact Ct c17 (k u2 b2) _
def Bl.SE (t:Iv.iD):Prop:=t.net=Bl.dV t.parts/\t.aP=Bl.dI t.parts/\t.au=t.net+t.aP
theorem Bl.Ob (l:List Pt.T) (k:Nat) (h:k < l.length):Bl.dV (l.take (k+1))=Bl.dV (l.take k)+l[k].net:=by
 induction l generalizing k with
 | nil=>exact absurd h (Nat.not_lt_zero _)
 | cons p l ih =>
  cases k with
  | zero=>simp [Bl.dV]
  | succ k =>
   rw [List.take_succ_cons,List.take_succ_cons,Bl.dV,Bl.dV,ih k (by simpa using h),List.getElem_cons_succ];omega
theorem Bl.JM (l:List Pt.T) (k:Nat) (h:k < l.length):Bl.dI (l.take (k+1))=Bl.dI (l.take k)+l[k].aP:=by
 induction l generalizing k with
 | nil=>exact absurd h (Nat.not_lt_zero _)
 | cons p l ih =>
  cases k with
  | zero=>simp [Bl.dI]
  | succ k =>
   rw [List.take_succ_cons,List.take_succ_cons,Bl.dI,Bl.dI,ih k (by simpa using h),List.getElem_cons_succ];omega
structure Bl.GI (w wr:World) (N X G:Int) (v:Value) (a b:Int):Prop where
 dx:Below w.heap.size w wr
 tot:Tt.At wr w.heap.size N X G v
 s1:Bl.Wk wr (w.heap.size+1) a
 s2:Bl.Wk wr (w.heap.size+1+1) b
theorem Bl.GI.below {w wr v:World} {N X G:Int} {t:Value} {a b:Int} (h:Bl.GI w wr N X G t a b) (k:Below wr.heap.size wr v):Bl.GI w v N X G t a b:=⟨aj h.dx k,h.tot.below k,h.s1.below k,h.s2.below k⟩
theorem Bl.GI.lay {w wr:World} {N X G:Int} {t:Value} {a b:Int} (h:Bl.GI w wr N X G t a b) (a' b':Int):Bl.GI w (Bl.GH (Bl.GH wr (w.heap.size+1) a') (w.heap.size+1+1) b') N X G t a' b' :=
 ⟨below_setRow (below_setRow h.dx (by omega) _) (by omega) _,(setRow_other _ _ _ _ (by omega)).trans ((setRow_other _ _ _ _ (by omega)).trans h.tot),(h.s1.lay a').other (by omega) _,(h.s2.other (by omega) _).lay b'⟩
theorem vS (s n:Int) (hn:Fit n) (u:World) (i:Nat) (os:Array Obj):JK 118 #[.agg #[.int .u64 (Bl.dW s),.int .u64 (Bl.eZ s)],.int .i64 n] u i os (.agg #[.int .u64 (Bl.dW (s+n)),.int .u64 (Bl.eZ (s+n))]) :=
 Calls.regrown_of (Ag s n _ _ (Below.refl _ _) hn)
theorem Bl.w_zero:Bl.dW 0=0/\Bl.eZ 0=0:=⟨rfl,rfl⟩
theorem Bl.SF {a b:Int} (h: ¬ a=b) (ha: -170141183460469231731687303715884105728<=a/\a < 170141183460469231731687303715884105728) (hb: -170141183460469231731687303715884105728<=b/\b < 170141183460469231731687303715884105728):(Bl.dW a==Bl.dW b)=false\/((Bl.dW a==Bl.dW b)=true/\(Bl.eZ a==Bl.eZ b)=false):=by
 by_cases h1:Bl.dW a=Bl.dW b
 · refine .inr ⟨beq_iff_eq.2 h1,beq_eq_false_iff_ne.2 fun h2=>h ((Bl.w_inj ha hb).1 ⟨h1,h2⟩)⟩
 · exact .inl (beq_eq_false_iff_ne.2 h1)
theorem JN (t:Iv.iD) (ao:Option Addr) (n cap:Nat) (w0 w:World) (hw:Below w0.heap.size w0 w) (hL:Pt.Ls w ao n cap t.parts) (hf:Fit t.net/\Fit t.aP/\Fit t.au) (hn:n<=1000) :
  Calls Tryz.prog 77 #[Tt.val t.net t.aP t.au (.slice ao n cap)] w (Bl.Bb w0 (Bl.SE t)):=by
 have HW:=Lh hw;have HL:=Lh hL;have HN:=Lh hL.len;have HF:=Lh hf;have hcap:=hL.reach;have hfit:=hL.fits;obtain ⟨U,hU,hB,k0,k1,k2,hs⟩:=Bl.al3 w (.cells #[.int .i64 t.net,.int .i64 t.aP,.int .i64 t.au,.slice ao n cap] 102) (.cells #[.int .u64 0,.int .u64 0] 188) (.cells #[.int .u64 0,.int .u64 0] 188);have JO:Hid (Bl.GI w U t.net t.aP t.au (.slice ao n cap) 0 0):=Lh ⟨hB,k0,k1,k2⟩;obtain ⟨x0,x1,x2,x3⟩:=JO.out.tot.cells;clear hL hw hf hB k0 k1 k2 hs;unfold Tt.val;go_enter Tryz.func77,Tryz.ntmps77;go_wp2_with fail;clear hU x0 x1 x2 x3
 go_loopw [6,10] (fun _ j wr=>∃ k:Nat,k<=n/\j=.int .i64 k/\Hid (Bl.GI w wr t.net t.aP t.au (.slice ao n cap) (Bl.dV (t.parts.take k)) (Bl.dI (t.parts.take k))/\ -((k:Int)*9223372036854775808)<=Bl.dV (t.parts.take k)/\Bl.dV (t.parts.take k)<=(k:Int)*9223372036854775808/\ -((k:Int)*9223372036854775808)<=Bl.dI (t.parts.take k)/\Bl.dI (t.parts.take k)<=(k:Int)*9223372036854775808)) (fun _ j _=>n - (intOf j).toNat)
 case atStart=>exact ⟨0,by omega,rfl,Lh ⟨JO.out,by show -((0:Int)*_)<=0;omega,by show (0:Int)<=0*_;omega,by show -((0:Int)*_)<=0;omega,by show (0:Int)<=0*_;omega⟩⟩
 case round =>
  obtain ⟨k,hk,rfl,HR⟩:=hrel;by_cases hlt:k < n
  ·
   obtain ⟨b,off,rfl⟩:=HL.out.at (by omega);have hkl:k < t.parts.length:=HN.out▸hlt;have HT1:=Lh (Bl.Ob t.parts k hkl);have HT2:=Lh (Bl.JM t.parts k hkl);have bT:=Lh (HL.out.short _ (List.getElem_mem hkl));have hrow:=(HL.out.row k hkl).below HR.out.1.dx;obtain ⟨r,hr⟩:∃ r,t.parts[k]=r:=⟨_,rfl⟩;rw [hr] at hrow bT HT1 HT2;clear hr;obtain ⟨g0,g1,g2,g3⟩:=hrow;obtain ⟨W,hW,hbW,hA⟩:=Pt.bZ wr r;have HSW:=Lh (HR.out.1.below hbW);have HBd:=Lh HR.out.2;have Q9:=Lh hA;clear hbW hA;generalize Bl.dV (t.parts.take k)=A0 at *;generalize Bl.dI (t.parts.take k)=B0 at *;go_wp2_with fail;clear hW;refine Bl.Zl (S:=fun u=>Bl.Wk u (w.heap.size+1) A0/\Bl.Wk u (w.heap.size+1+1) B0/\Pt.C u wr.heap.size r) A0 B0 r.net r.aP (.pointer (some ⟨wr.heap.size,2,none⟩)) (.pointer (some ⟨wr.heap.size,3,none⟩)) (w.heap.size+1) (w.heap.size+1+1) bT.out.2.2.1 bT.out.2.2.2 ?_ HSW.out.s1 HSW.out.s2 (by omega) ?_ ?_ ?_ ?_ ?_ ?_ ?_ ?_ ?_ ?_ ?_ ?_ ?_ rfl rfl ?_ ?_ rfl rfl ?_ ?_ rfl rfl rfl ?_ ?_ rfl rfl rfl ?_ ?_ ?_
   ·
    intro u hb;exact ⟨HSW.out.s1.below hb,HSW.out.s2.below hb,Q9.out.below hb⟩
   · kernel_rfl
   · exact Bl.SA (t:=3) rfl rfl (by kernel_rfl) fun u hu=>hu.1
   · exact fun _ _ _ h=>h
   · exact Bl.Zj (t:=6) rfl rfl (by kernel_rfl)
   · exact fun _ _ _ h=>h
   · exact Bl.SB (t:=15) rfl rfl (by kernel_rfl) fun u hu=>by have h:=hu.2.2;unfold Pt.C at h;exact h.2.2.1
   · exact fun _ _ _ h=>h
   · exact Bl.SA (t:=4) rfl rfl (by kernel_rfl) fun u hu=>hu.2.1
   · exact fun _ _ _ h=>h
   · exact Bl.Zk (t:=6) rfl rfl (by kernel_rfl)
   · exact fun _ _ _ h=>h
   · exact Bl.SB (t:=19) rfl rfl (by kernel_rfl) fun u hu=>by have h:=hu.2.2;unfold Pt.C at h;exact h.2.2.2
   · exact fun _ _ _ h=>h
   · kernel_rfl
   · kernel_rfl
   · kernel_rfl
   · kernel_rfl
   · kernel_rfl
   · kernel_rfl
   · kernel_rfl
   · kernel_rfl
   intro u hb;have HS2:=Lh ((HSW.out.below hb).lay (A0+r.net) (B0+r.aP));clear hb;generalize Bl.GH (Bl.GH u (w.heap.size+1) (A0+r.net)) (w.heap.size+1+1) (B0+r.aP)=V at *;go_wp2_with fail;go_roundw
   case rel=>exact ⟨k+1,by omega,by go_num,Lh ⟨by rw [HT1.out,HT2.out];exact HS2.out,by rw [HT1.out];have h1:=HBd.out;have h2:=bT.out.2.2.1.1;omega,by rw [HT1.out];have h1:=HBd.out;have h2:=bT.out.2.2.1.2;omega,by rw [HT2.out];have h1:=HBd.out;have h2:=bT.out.2.2.2.1;omega,by rw [HT2.out];have h1:=HBd.out;have h2:=bT.out.2.2.2.2;omega⟩⟩
   case measure=>simp [intOf];omega
  ·
   obtain rfl:k=n:=by omega
   have VW:=HR.out;rw [List.take_of_length_le (by rw [HN.out];exact Nat.le_refl _)] at VW;have bX:=Lh VW.1
   have hbd:(-170141183460469231731687303715884105728<=Bl.dV t.parts/\Bl.dV t.parts < 170141183460469231731687303715884105728)/\(-170141183460469231731687303715884105728<=Bl.dI t.parts/\Bl.dI t.parts < 170141183460469231731687303715884105728):=by
    have h2:=VW.2;have h3:(k:Int)<=1000:=by omega
    omega
   have HBn:=Lh hbd;clear VW hbd;obtain ⟨s0,s1⟩:=bX.out.s1.cells;obtain ⟨t0,t1⟩:=bX.out.s2.cells;obtain ⟨x0,x1,x2,x3⟩:=bX.out.tot.cells;have K0:=cell_regrown s0;have K1:=cell_regrown s1;have K2:=cell_regrown t0;have K3:=cell_regrown t1;have K4:=cell_regrown x0;have K5:=cell_regrown x1;have K6:=cell_regrown x2;have K7:=cell_regrown x3;have cN:=fun i os=>vS 0 t.net HF.out.1 wr i os
   have cT:=fun i os=>vS 0 t.aP HF.out.2.1 wr i os
   have cG:=fun i os=>vS 0 t.au HF.out.2.2 wr i os
   have Cw:=fun i os=>vS (0+t.net) t.aP HF.out.2.1 wr i os
   rw [Bl.w_zero.1,Bl.w_zero.2] at cN cT cG;rw [Int.zero_add] at cN cT cG Cw;have fn:=HF.out.1;have ft:=HF.out.2.1;have fg:=HF.out.2.2;have bn: -170141183460469231731687303715884105728<=t.net/\t.net < 170141183460469231731687303715884105728:=⟨by have:=fn.1;omega,by have:=fn.2;omega⟩;have bt: -170141183460469231731687303715884105728<=t.aP/\t.aP < 170141183460469231731687303715884105728:=⟨by have:=ft.1;omega,by have:=ft.2;omega⟩;have bg: -170141183460469231731687303715884105728<=t.au/\t.au < 170141183460469231731687303715884105728:=⟨by have:=fg.1;omega,by have:=fg.2;omega⟩;have bs: -170141183460469231731687303715884105728<=t.net+t.aP/\t.net+t.aP < 170141183460469231731687303715884105728:=⟨by have:=fn.1;have:=ft.1;omega,by have:=fn.2;have:=ft.2;omega⟩;clear s0 s1 t0 t1 x0 x1 x2 x3 fn ft fg;have uN:Hid (¬ Bl.dV t.parts=t.net->(Bl.dW (Bl.dV t.parts)==Bl.dW t.net)=false\/((Bl.dW (Bl.dV t.parts)==Bl.dW t.net)=true/\(Bl.eZ (Bl.dV t.parts)==Bl.eZ t.net)=false)):=Lh fun z=>Bl.SF z HBn.out.1 bn
   have tC:Hid (¬ Bl.dI t.parts=t.aP->(Bl.dW (Bl.dI t.parts)==Bl.dW t.aP)=false\/((Bl.dW (Bl.dI t.parts)==Bl.dW t.aP)=true/\(Bl.eZ (Bl.dI t.parts)==Bl.eZ t.aP)=false)):=Lh fun z=>Bl.SF z HBn.out.2 bt
   have gD:Hid (¬ t.net+t.aP=t.au->(Bl.dW (t.net+t.aP)==Bl.dW t.au)=false\/((Bl.dW (t.net+t.aP)==Bl.dW t.au)=true/\(Bl.eZ (t.net+t.aP)==Bl.eZ t.au)=false)):=Lh fun z=>Bl.SF z bs bg
   clear bn bt bg bs;by_cases h1:Bl.dV t.parts=t.net
   ·
    rw [h1] at K0 K1;by_cases h2:Bl.dI t.parts=t.aP
    ·
     rw [h2] at K2 K3;by_cases h3:t.net+t.aP=t.au
     ·
      have iM:Hid (Bl.SE t):=Lh ⟨h1.symm,h2.symm,h3.symm⟩;rw [h3] at Cw;clear h1 h2 h3 uN tC gD;obtain ⟨a1,ha1⟩:∃ a1,Bl.dW t.net=a1:=⟨_,rfl⟩;obtain ⟨b1,hb1⟩:∃ b1,Bl.eZ t.net=b1:=⟨_,rfl⟩;obtain ⟨a2,ha2⟩:∃ a1,Bl.dW t.aP=a1:=⟨_,rfl⟩;obtain ⟨b2,hb2⟩:∃ b1,Bl.eZ t.aP=b1:=⟨_,rfl⟩;obtain ⟨a3,ha3⟩:∃ a1,Bl.dW t.au=a1:=⟨_,rfl⟩;obtain ⟨b3,hb3⟩:∃ b1,Bl.eZ t.au=b1:=⟨_,rfl⟩;rw [ha1] at K0;rw [hb1] at K1;rw [ha2] at K2;rw [hb2] at K3;rw [ha1,hb1] at cN Cw;rw [ha2,hb2] at cT;rw [ha3,hb3] at Cw cG;clear ha1 hb1 ha2 hb2 ha3 hb3;have r1:(a1==a1)=true:=beq_self_eq_true _;have r2:(b1==b1)=true:=beq_self_eq_true _;have r3:(a2==a2)=true:=beq_self_eq_true _;have r4:(b2==b2)=true:=beq_self_eq_true _;have r5:(a3==a3)=true:=beq_self_eq_true _;have r6:(b3==b3)=true:=beq_self_eq_true _;go_wp2;refine wp_region_quiet_below (by kernel_rfl) (by kernel_rfl) ?_
      repeat (first | go_big_quiet_step (first | (go_at_call_of 118 a1;exact Cw _ _)|(go_at_call_of 118 (Value.int .i64 t.net);exact cN _ _)|(go_at_call_of 118 (Value.int .i64 t.aP);exact cT _ _)|(go_at_call_of 118 (Value.int .i64 t.au);exact cG _ _)) | quiet_step (first | (go_at_call_of 118 a1;exact Cw _ _)|(go_at_call_of 118 (Value.int .i64 t.net);exact cN _ _)|(go_at_call_of 118 (Value.int .i64 t.aP);exact cT _ _)|(go_at_call_of 118 (Value.int .i64 t.au);exact cG _ _)))
      refine wpQuiet_nil ?_;intro _ hw';obtain ⟨⟨dq,osq⟩,hw''⟩:=hw';subst hw'';have cO:=Lh (aj bX.out.dx (below_regrown wr dq osq));go_wp2;go_ret;exact ⟨.inl ⟨iM.out,rfl⟩,aj HW.out cO.out⟩
     ·
      have hx:=gD.out h3;clear uN tC gD;obtain ⟨a1,ha1⟩:∃ a1,Bl.dW t.net=a1:=⟨_,rfl⟩;obtain ⟨b1,hb1⟩:∃ b1,Bl.eZ t.net=b1:=⟨_,rfl⟩;obtain ⟨a2,ha2⟩:∃ a1,Bl.dW t.aP=a1:=⟨_,rfl⟩;obtain ⟨b2,hb2⟩:∃ b1,Bl.eZ t.aP=b1:=⟨_,rfl⟩;rw [ha1] at K0;rw [hb1] at K1;rw [ha2] at K2;rw [hb2] at K3;rw [ha1,hb1] at cN Cw;rw [ha2,hb2] at cT;clear ha1 hb1 ha2 hb2;have r1:(a1==a1)=true:=beq_self_eq_true _;have r2:(b1==b1)=true:=beq_self_eq_true _;have r3:(a2==a2)=true:=beq_self_eq_true _;have r4:(b2==b2)=true:=beq_self_eq_true _;have cK:Hid (¬ Bl.SE t):=Lh fun z=>h3 z.2.2.symm
      clear h1 h2 h3;rcases hx with r5 | ⟨r5,r6⟩
      ·
       go_wp2;refine wp_region_quiet_below (by kernel_rfl) (by kernel_rfl) ?_
       repeat (first | go_big_quiet_step (first | (go_at_call_of 118 a1;exact Cw _ _)|(go_at_call_of 118 (Value.int .i64 t.net);exact cN _ _)|(go_at_call_of 118 (Value.int .i64 t.aP);exact cT _ _)|(go_at_call_of 118 (Value.int .i64 t.au);exact cG _ _)) | quiet_step (first | (go_at_call_of 118 a1;exact Cw _ _)|(go_at_call_of 118 (Value.int .i64 t.net);exact cN _ _)|(go_at_call_of 118 (Value.int .i64 t.aP);exact cT _ _)|(go_at_call_of 118 (Value.int .i64 t.au);exact cG _ _)))
       refine wpQuiet_nil ?_;intro _ hw';obtain ⟨⟨dq,osq⟩,hw''⟩:=hw';subst hw'';have cO:=Lh (aj bX.out.dx (below_regrown wr dq osq));go_wp2;go_ret;exact ⟨.inr ⟨cK.out,rfl⟩,aj HW.out cO.out⟩
      ·
       go_wp2;refine wp_region_quiet_below (by kernel_rfl) (by kernel_rfl) ?_
       repeat (first | go_big_quiet_step (first | (go_at_call_of 118 a1;exact Cw _ _)|(go_at_call_of 118 (Value.int .i64 t.net);exact cN _ _)|(go_at_call_of 118 (Value.int .i64 t.aP);exact cT _ _)|(go_at_call_of 118 (Value.int .i64 t.au);exact cG _ _)) | quiet_step (first | (go_at_call_of 118 a1;exact Cw _ _)|(go_at_call_of 118 (Value.int .i64 t.net);exact cN _ _)|(go_at_call_of 118 (Value.int .i64 t.aP);exact cT _ _)|(go_at_call_of 118 (Value.int .i64 t.au);exact cG _ _)))
       refine wpQuiet_nil ?_;intro _ hw';obtain ⟨⟨dq,osq⟩,hw''⟩:=hw';subst hw'';have cO:=Lh (aj bX.out.dx (below_regrown wr dq osq));go_wp2;go_ret;exact ⟨.inr ⟨cK.out,rfl⟩,aj HW.out cO.out⟩
    ·
     have hx:=tC.out h2;clear uN tC gD;obtain ⟨a1,ha1⟩:∃ a1,Bl.dW t.net=a1:=⟨_,rfl⟩;obtain ⟨b1,hb1⟩:∃ b1,Bl.eZ t.net=b1:=⟨_,rfl⟩;rw [ha1] at K0;rw [hb1] at K1;rw [ha1,hb1] at cN Cw;clear ha1 hb1;have r1:(a1==a1)=true:=beq_self_eq_true _;have r2:(b1==b1)=true:=beq_self_eq_true _;have cK:Hid (¬ Bl.SE t):=Lh fun z=>h2 z.2.1.symm
     clear h1 h2;rcases hx with r5 | ⟨r5,r6⟩
     ·
      go_wp2;refine wp_region_quiet_below (by kernel_rfl) (by kernel_rfl) ?_
      repeat (first | go_big_quiet_step (first | (go_at_call_of 118 a1;exact Cw _ _)|(go_at_call_of 118 (Value.int .i64 t.net);exact cN _ _)|(go_at_call_of 118 (Value.int .i64 t.aP);exact cT _ _)|(go_at_call_of 118 (Value.int .i64 t.au);exact cG _ _)) | quiet_step (first | (go_at_call_of 118 a1;exact Cw _ _)|(go_at_call_of 118 (Value.int .i64 t.net);exact cN _ _)|(go_at_call_of 118 (Value.int .i64 t.aP);exact cT _ _)|(go_at_call_of 118 (Value.int .i64 t.au);exact cG _ _)))
      refine wpQuiet_nil ?_;intro _ hw';obtain ⟨⟨dq,osq⟩,hw''⟩:=hw';subst hw'';have cO:=Lh (aj bX.out.dx (below_regrown wr dq osq));go_wp2;go_ret;exact ⟨.inr ⟨cK.out,rfl⟩,aj HW.out cO.out⟩
     ·
      go_wp2;refine wp_region_quiet_below (by kernel_rfl) (by kernel_rfl) ?_
      repeat (first | go_big_quiet_step (first | (go_at_call_of 118 a1;exact Cw _ _)|(go_at_call_of 118 (Value.int .i64 t.net);exact cN _ _)|(go_at_call_of 118 (Value.int .i64 t.aP);exact cT _ _)|(go_at_call_of 118 (Value.int .i64 t.au);exact cG _ _)) | quiet_step (first | (go_at_call_of 118 a1;exact Cw _ _)|(go_at_call_of 118 (Value.int .i64 t.net);exact cN _ _)|(go_at_call_of 118 (Value.int .i64 t.aP);exact cT _ _)|(go_at_call_of 118 (Value.int .i64 t.au);exact cG _ _)))
      refine wpQuiet_nil ?_;intro _ hw';obtain ⟨⟨dq,osq⟩,hw''⟩:=hw';subst hw'';have cO:=Lh (aj bX.out.dx (below_regrown wr dq osq));go_wp2;go_ret;exact ⟨.inr ⟨cK.out,rfl⟩,aj HW.out cO.out⟩
   ·
    have hx:=uN.out h1;clear uN tC gD;obtain ⟨a1,ha1⟩:∃ a1,a1=Bl.dW t.net:=⟨_,rfl⟩;have cK:Hid (¬ Bl.SE t):=Lh fun z=>h1 z.1.symm
    clear h1;rcases hx with r5 | ⟨r5,r6⟩
    ·
     go_wp2;refine wp_region_quiet_below (by kernel_rfl) (by kernel_rfl) ?_
     repeat (first | go_big_quiet_step (first | (fail;exact Cw _ _)|(go_at_call_of 118 (Value.int .i64 t.net);exact cN _ _)|(go_at_call_of 118 (Value.int .i64 t.aP);exact cT _ _)|(go_at_call_of 118 (Value.int .i64 t.au);exact cG _ _)) | quiet_step (first | (fail;exact Cw _ _)|(go_at_call_of 118 (Value.int .i64 t.net);exact cN _ _)|(go_at_call_of 118 (Value.int .i64 t.aP);exact cT _ _)|(go_at_call_of 118 (Value.int .i64 t.au);exact cG _ _)))
     refine wpQuiet_nil ?_;intro _ hw';obtain ⟨⟨dq,osq⟩,hw''⟩:=hw';subst hw'';have cO:=Lh (aj bX.out.dx (below_regrown wr dq osq));go_wp2;go_ret;exact ⟨.inr ⟨cK.out,rfl⟩,aj HW.out cO.out⟩
    ·
     go_wp2;refine wp_region_quiet_below (by kernel_rfl) (by kernel_rfl) ?_
     repeat (first | go_big_quiet_step (first | (fail;exact Cw _ _)|(go_at_call_of 118 (Value.int .i64 t.net);exact cN _ _)|(go_at_call_of 118 (Value.int .i64 t.aP);exact cT _ _)|(go_at_call_of 118 (Value.int .i64 t.au);exact cG _ _)) | quiet_step (first | (fail;exact Cw _ _)|(go_at_call_of 118 (Value.int .i64 t.net);exact cN _ _)|(go_at_call_of 118 (Value.int .i64 t.aP);exact cT _ _)|(go_at_call_of 118 (Value.int .i64 t.au);exact cG _ _)))
     refine wpQuiet_nil ?_;intro _ hw';obtain ⟨⟨dq,osq⟩,hw''⟩:=hw';subst hw'';have cO:=Lh (aj bX.out.dx (below_regrown wr dq osq));go_wp2;go_ret;exact ⟨.inr ⟨cK.out,rfl⟩,aj HW.out cO.out⟩
end Go.Proofs.YtpfdnemaaeolcaaGreat
