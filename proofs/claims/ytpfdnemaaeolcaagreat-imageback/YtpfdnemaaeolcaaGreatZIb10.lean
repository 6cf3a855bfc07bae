import Derived.Deep.RegionHeld3
import Derived.Deep.RegionLaw
import Derived.Deep.DeepCutAuto
import Derived.Deep.CutBlock
import Derived.Lib.Overlaps
import Derived.Lib.JoinLaws
import Derived.Test.YtpfdnemaaeolcaaGreatZIb2
import Derived.Test.YtpfdnemaaeolcaaGreatZIb4
import Derived.Test.YtpfdnemaaeolcaaGreatZIb5
import Derived.Test.YtpfdnemaaeolcaaGreatZIb7
import Derived.Test.YtpfdnemaaeolcaaGreatZIb8
import Derived.Test.YtpfdnemaaeolcaaGreatZIb9
variable {w w' X:Go.World} {g k B:Nat} {v:Go.Value} {y m d:Int}
set_option maxHeartbeats 8000000
set_option maxRecDepth 100000
set_option linter.unusedVariables false
namespace Go.Proofs.YtpfdnemaaeolcaaGreat
open Go.RowKit
open Mem
open Go.Sort (grow)
variable {M:List Ba.T}
theorem Po.Nw {c:ByteArray} {n:Int} (h:Po.has c M=true):∃ hs:Po.spot c M < M.length,M[Po.spot c M]=Po.part c M/\Po.enter c n M=M.set (Po.spot c M) (Po.more (Po.part c M) n):=by
 have h1:=Po.tT (c:=c) M;have h2:=Po.yR (c:=c) M;rw [Po.rT h] at h1 h2;refine ⟨h2,?_,by unfold Po.enter;rw [Po.rT h]⟩;rw [List.getElem?_eq_getElem h2] at h1;exact Option.some.inj h1
structure Way (bs ls M b:List Ba.T) (k:Nat):Prop where
 sorted:Po.Sorted M
 has:∀ c,Po.has c M=(Po.has c bs||Po.named c ls)
 val:∀ c,Po.val c M=Po.val c b
 right:Po.Sorted b
 kM:Po.kM (ls.drop k) b=Po.kM ls bs
 iR:Po.iR (ls.drop k) b=Po.iR ls bs
variable {bs ls:List Ba.T}
theorem Way.start (h:Po.Dw bs ls M) (hS:Po.Sorted bs):Way bs ls M bs 0:=⟨h.sorted,h.has,h.val,hS,rfl,rfl⟩
theorem Gg (hk:k < ls.length):Po.named ls[k].aF ls=true:=List.any_eq_true.2 ⟨_,List.getElem_mem hk,decide_eq_true rfl⟩
variable {b:List Ba.T}
theorem Way.there (h:Way bs ls M b k) (hk:k < ls.length):Po.has ls[k].aF M=true:=by
 rw [h.has,Gg hk,Bool.or_true]
theorem Way.err {bs ls M b:List Ba.T} {k:Nat} (h:Way bs ls M b k) (hk:k < ls.length):Mn.err ((Po.part ls[k].aF M).dG+ls[k].dG)=Po.gZ ls[k].aF ls[k].dG b:=by
 have:=h.val ls[k].aF;unfold Po.val at this;unfold Po.gZ;rw [this]
theorem Way.step (h:Way bs ls M b k) (hk:k < ls.length) (he:Po.gZ ls[k].aF ls[k].dG b=0):Way bs ls (Po.enter ls[k].aF ls[k].dG M) (Po.enter ls[k].aF ls[k].dG b) (k+1):=by
 refine ⟨Po.gN h.sorted,fun c=>?_,fun c=>?_,Po.gN h.right,?_,?_⟩
 ·
  have h1:=Po.nM c ls[k].aF ls[k].dG M;rw [h1.2,h.has];by_cases e:ls[k].aF=c
  ·
   rw [<- e,Gg hk]
   simp
  · rw [decide_eq_false e,Bool.or_false]
 ·
  have h1:=Po.nM c ls[k].aF ls[k].dG M;have h2:=Po.nM c ls[k].aF ls[k].dG b;rw [h1.1,h2.1,h.val]
 ·
  have:=Po.C8 ls b k hk;rw [he,if_neg (by simp)] at this;rw [<- this];exact h.kM
 ·
  rw [<- Po.Iu ls b k hk];exact h.iR
theorem Way.done (h:Way bs ls M b k) (hk:k=ls.length):M=Po.iR ls bs/\Po.kM ls bs=0:=by
 have h1:=h.iR;have h2:=h.kM;rw [List.drop_eq_nil_of_le (Nat.le_of_eq hk.symm)] at h1 h2;have e1:b=Po.iR ls bs:=h1;refine ⟨?_,h2.symm⟩;rw [<- e1];refine Po.U6 h.sorted h.right fun c=>⟨?_,h.val c⟩
 rw [h.has,e1,(Po.KC c ls bs).2]
theorem Way.stop (h:Way bs ls M b k) (hk:k < ls.length) (he:Po.gZ ls[k].aF ls[k].dG b=7):Po.kM ls bs=7:=by
 rw [<- h.kM,Po.C8 ls b k hk,he];rfl
theorem uE (bs ls:List Ba.T) (ao bo:Option Addr) (n ca k0 cb:Nat) (w:World) (hB:Ba.Ls w ao n ca bs) (hL:Ba.Ls w bo k0 cb ls) (hn:n<=1000) (hk0:k0<=1000) :
  Calls Tryz.prog 81 #[.slice ao n ca,.slice bo k0 cb] w (YR w bs ls):=by
 have YP:=Lh hB;have HL:=Lh hL;have HN:=Lh hB.len;have lC:=Lh hL.len;have hca:=hB.reach;have hna:=hB.fits;have hcb:=hL.reach;have OQ:=hL.fits;clear hB hL;go_enter Tryz.func81,Tryz.ntmps81;go_wp2_with fail;refine (Jk bs ao n ca w _ (Below.refl _ _) YP.out).mono ?_;rintro e w1 ⟨rfl,b1⟩;have HB1:=Lh b1;clear b1;cases hT:Po.aA bs
 ·
  have HP:=Lh (Po.UD (l:=ls) hT);clear hT;go_wp2_with fail;go_ret2;exact ⟨_,by rw [HP.out.1];rfl,by rw [HP.out.2];exact Ba.aN _ _,HB1.out⟩
 ·
  have HT:=Lh (Po.IB (l:=ls) hT);have HS:=Lh ((Po.aJ bs).1 hT);clear hT;go_wp2_with fail;refine (Gd bs ls ao bo n ca k0 cb w1 (YP.out.below HB1.out) (HL.out.below HB1.out) HS.out hn hk0).mono ?_;rintro e w2 ⟨v,M0,rfl,o2,hop,hsh,hlen,b2⟩;have HW0:=Lh (Way.start hop HS.out);obtain ⟨va,vc0,hv1,hV,_⟩:=Ba.aX o2 hsh;subst hv1;have Jq:Hid (Nv w w2 va M0.length vc0 M0):=Lh ⟨aj HB1.out b2,Ba.bD o2 HB1.out.size,hsh⟩;have xK:=Lh hlen;clear o2 hop hsh hV b2 hlen HB1;obtain ⟨q0,hq0⟩:∃ q0,M0.length=q0:=⟨_,rfl⟩;rw [hq0] at Jq xK;rw [hq0];clear hq0;go_wp2_with fail
  go_loopw [8,9,10,11,20] (fun _ _ _ _ i wr=>∃ (k:Nat) (M b:List Ba.T),k<=k0/\i=.int .i64 k/\Hid (Nv w wr va q0 vc0 M)/\Hid (Way bs ls M b k)) (fun _ _ _ _ i _=>k0 - (intOf i).toNat)
  case atStart=>exact ⟨0,M0,bs,by omega,rfl,Jq,HW0⟩
  case round =>
   clear Jq HW0;rename World=>wz
   obtain ⟨k,M,b,hk,rfl,H,HG⟩:=hrel;by_cases hlt:k < k0
   ·
    obtain ⟨lb,loff,rfl⟩:=HL.out.at (by omega);have hkl:k < ls.length:=lC.out▸hlt;have hrow:=(HL.out.row k hkl).below H.out.dx;have bT:=Lh (HL.out.short _ (List.getElem_mem hkl));have HTh:=Lh (HG.out.there hkl);have Rh:=Lh (HG.out.err hkl);have BX:Hid (Po.gZ ls[k].aF ls[k].dG b=0->Way bs ls (Po.enter ls[k].aF ls[k].dG M) (Po.enter ls[k].aF ls[k].dG b) (k+1)):=Lh (HG.out.step hkl);have XC:Hid (Po.gZ ls[k].aF ls[k].dG b=7->Po.kM ls bs=7):=Lh (HG.out.stop hkl);obtain ⟨x,hx⟩:∃ x,ls[k]=x:=⟨_,rfl⟩;rw [hx] at hrow bT HTh Rh BX XC;clear hx;obtain ⟨hsl,hps,hent⟩:=Po.Nw (n:=x.dG) HTh.out;obtain ⟨r0,r1⟩:=hrow;obtain ⟨W,hW,hbW,hA⟩:=Ba.bZ wz x;have H1:=Lh (H.out.below hbW);unfold Ba.C at hA;obtain ⟨a0,a1⟩:=hA;clear hbW H;obtain ⟨hq1,hq2,hq3,Ny⟩:=H1.out.len;obtain ⟨g,hvb,hgb,hAt,hfz⟩:=H1.out.at (Po.spot x.aF M) hsl;rw [hps] at hAt;subst hvb;have vX:=Lh (zS M x.aF _ q0 vc0 W Ny HG.out.sorted);have RI:=Lh hsl;have yB:Hid (M[Po.spot x.aF M]? =some (Po.part x.aF M)):=Lh (by rw [List.getElem?_eq_getElem hsl,hps]);have AZ:=Lh hent;have hsq:Po.spot x.aF M < q0:=hq1▸hsl;obtain ⟨s,hs⟩:∃ s,Po.spot x.aF M=s:=⟨_,rfl⟩;have HPh:=Lh (H1.out.sh _ (List.getElem_mem hsl));rw [hps] at HPh;obtain ⟨p,hp⟩:∃ p,Po.part x.aF M=p:=⟨_,rfl⟩;rw [hp] at HPh hAt Rh AZ yB;rw [hs] at vX hAt AZ hsq RI yB;clear hps hent hsl Ny hq1 hs hp;obtain ⟨d0,d1⟩:=hAt;have f1:=hfz (s*2+1);have k1:=cell_regrown d1;have l1:=cell_regrown a1;obtain ⟨E,hE⟩:∃ E,Mn.err (p.dG+x.dG)=E:=⟨_,rfl⟩;obtain ⟨X,hX⟩:∃ X,Mn.dG (p.dG+x.dG)=X:=⟨_,rfl⟩;have c1:∀ i os,Calls Tryz.prog 126 #[.int .i64 p.dG,.int .i64 x.dG] (grow (redrawn W i) os) fun e w''=>e=.returned (.tuple #[.int .i64 X,.int .i64 E])/\∃ q:Regrown,w''=grow (redrawn W q.d) q.os:=fun i os=>Calls.regrown_of ((pq p.dG x.dG _ HPh.out.2 bT.out.2).mono fun e w'' ⟨h1,h2⟩=>⟨by rw [h1,hE,hX];rfl,h2▸Below.refl _ _⟩)
    have HEx:=Lh (And.intro hE hX);clear hE hX hfz;go_wp2_with fail;refine vX.out.mono ?_;rintro e w3 ⟨rfl,hw3⟩;have hw4:=hw3.symm;clear hw3;subst hw4;clear hW vX;go_wp2_with fail;refine wp_region_quiet_below (by kernel_rfl) (by kernel_rfl) ?_
    repeat (first | go_big_quiet_step (first | (go_at_call 126;exact c1 _ _)) | quiet_step (first | (go_at_call 126;exact c1 _ _)))
    refine wpQuiet_nil ?_;intro _ hw';obtain ⟨⟨dq,osq⟩,hw''⟩:=hw';subst hw'';have H7:=Lh (H1.out.below (below_regrown W dq osq));clear k1 l1 c1 d0 d1 a0 a1 r0 r1 f1 H1;generalize grow (redrawn W dq) osq=wx at *;rcases Mn.jl (p.dG+x.dG) with e1 | e1
    ·
     have hE0:E=0:=HEx.out.1.symm.trans e1;have hX0:X=p.dG+x.dG:=HEx.out.2.symm.trans (Mn.jk (zW e1));subst hE0 hX0;have Jq:=Lh (BX.out (Rh.out.symm.trans e1));have HFx:=Lh (zW e1);obtain ⟨b2,hb2,_,hAt,hfz⟩:=H7.out.at s RI.out;cases hb2
     have YS : M[s]'RI.out = p := by
      have h:=yB.out;rw [List.getElem?_eq_getElem RI.out] at h;exact Option.some.inj h
     have oZ:Hid (Nv w (wx.setCell ⟨g,s*2+1,none⟩ (.int .i64 (p.dG+x.dG))) (some ⟨g,0,none⟩) q0 vc0 (Po.enter x.aF x.dG M)):=Lh (by
      have h:=H7.out.put rfl hgb s 1 RI.out (by omega) (.int .i64 (p.dG+x.dG)) ⟨p.aF,p.dG+x.dG⟩ (by rw [YS];rfl) ⟨HPh.out.1,HFx.out⟩;rw [AZ.out];exact h)
     rw [YS] at hAt;obtain ⟨r0,r1⟩:=hAt;have f1:=hfz (s*2+1);clear e1 hfz YS;go_wp2_with fail;go_roundw
     case rel=>exact ⟨k+1,Po.enter x.aF x.dG M,Po.enter x.aF x.dG b,by omega,by go_num,oZ,Jq⟩
     case measure=>simp [intOf];omega
    ·
     have hE0:E=7:=HEx.out.1.symm.trans e1;subst hE0;have HE7:=Lh (XC.out (Rh.out.symm.trans e1))
     have HP:Hid (Po.jw bs ls=7/\Po.vk bs ls=[]):=Lh (by
      have h:Po.jw bs ls=7:=by rw [HT.out,HE7.out]
      exact ⟨h,by unfold Po.vk;rw [h];rfl⟩)
     have HBf:=Lh H7.out.dx;clear e1;go_wp2_with fail;go_ret2;exact ⟨_,by rw [HP.out.1];rfl,by rw [HP.out.2];exact Ba.aN _ _,HBf.out⟩
   ·
    obtain rfl:k=k0:=by omega
    have HD:=Lh (HG.out.done lC.out)
    have HP:Hid (Po.jw bs ls=0/\Po.vk bs ls=M):=Lh (by
     have h:Po.jw bs ls=0:=by rw [HT.out,HD.out.2]
     exact ⟨h,by unfold Po.vk;rw [h,HD.out.1];rfl⟩)
    have HO:=Lh H.out.own;have HBf:=Lh H.out.dx;go_wp2_with fail;go_ret2;exact ⟨_,by rw [HP.out.1];rfl,by rw [HP.out.2];exact HO.out,HBf.out⟩
theorem Gh (a b:ByteArray) (h:a.size+b.size<=9223372036854775807):∀ u,(Op.stringOp .add a b).run Tryz.prog u=.ok (.string (a++b)) u:=fun u=>run_string_add_sum u a b h
def RJ (w:World) (g:Int) (ps:List Pt.T) (e:Ending) (w':World):Prop:=∃ v,e=.returned (.tuple #[v,.int .i64 (Po.dR ps)])/\Ba.Own w' w.heap.size v (Po.qG g ps)/\Below w.heap.size w w'
theorem vL {x:Int} (h:Mn.err x=0):Mn.Fit x:=by
 unfold Mn.err at h;split at h
 · assumption
 · omega
theorem RL (g:Int) (ps:List Pt.T):(Po.bE g ps).length=1+2*ps.length:=by
 unfold Po.bE;rw [List.length_cons]
 have:(ps.flatMap Po.rowsOf).length=2*ps.length:=by
  induction ps with
  | nil=>rfl
  | cons p l ih =>
   rw [List.flatMap_cons,List.length_append,ih,List.length_cons];show 2+_=_;omega
 omega
theorem Jr {g:Int} {ps:List Pt.T} (hg:Fit g) (hs:∀ x∈ps,Pt.Short x) (hc:∀ x∈ps,x.cat.size<=140737488351232) (hb:∀ x∈ps,Po.AU x=false):∀ r∈Po.bE g ps,Ba.Short r:=by
 intro r hr;unfold Po.bE at hr;rcases List.mem_cons.1 hr with rfl | hr
 · exact ⟨(by decide:Po.sU.size<=140737488355328),hg⟩
 ·
  obtain ⟨p,hp,hr⟩:=List.mem_flatMap.1 hr;have h1:=hc p hp;have h2:=hb p hp;unfold Po.AU at h2;rw [decide_eq_false_iff_not] at h2;have e1:Mn.err (-p.net)=0:=Decidable.byContradiction fun q=>h2 (.inl q)
  have e2:Mn.err (-p.aP)=0:=Decidable.byContradiction fun q=>h2 (.inr q)
  unfold Po.rowsOf at hr;simp only [List.mem_cons,List.not_mem_nil,or_false] at hr;rcases hr with rfl | rfl
  · exact ⟨by show (Po.Ml++p.cat).size<=_;rw [ByteArray.size_append];have:Po.Ml.size=4:=rfl;omega,vL e1⟩
  · exact ⟨by show (Po.Mq++p.cat).size<=_;rw [ByteArray.size_append];have:Po.Mq.size=4:=rfl;omega,vL e2⟩
theorem subZ (x:Int) (w:World) (hx:Fit x):Calls Tryz.prog 122 #[.int .i64 0,.int .i64 x] w fun e w'=>e=both (Mn.dG (-x)) (Mn.err (-x))/\w'=w:=by
 have h:=Lf 0 x w (by decide) hx;rw [Int.zero_sub] at h;exact h
theorem RN (p:Nat) (hp:p<=1000) (u:World):(Instr.makeSlice 27 (.int .i64 0) (.int .i64 (1+2*(p:Int)))).run Tryz.prog u =
  .ok (.slice (some ⟨u.heap.size,0,none⟩) 0 (1+2*p)) (u.alloc (.cells (Ba.zeros (1+2*p)) 81)):=by
 obtain ⟨i0,hi,hz0,hz1,hz2⟩:=info_parts Ba.info;have h:=run_make (P:=Tryz.prog) u 27 81 i0 Ba.zeroV Tryz.underlying27 hi hz0 .i64 .i64 0 (1+2*(p:Int)) (by omega) (by omega) (by rw [hz2];omega) (by omega);rw [hz1,show (1+2*(p:Int)).toNat=1+2*p from by omega,Ba.made] at h;exact h
theorem Vu (u:World) (p:Nat) (hp:p<=1000):Ba.Own (u.alloc (.cells (Ba.zeros (1+2*p)) 81)) u.heap.size (.slice (some ⟨u.heap.size,0,none⟩) 0 (1+2*p)) [] :=
 ⟨rfl,.inr ⟨u.heap.size,1+2*p,Ba.zeros (1+2*p),rfl,Nat.le_refl _,heap_alloc_new u _,Nat.zero_le _,by have:maxLen=9223372036854775807:=rfl;omega,by unfold Ba.zeros;rw [List.size_toArray,Ba.aB,List.length_replicate],rfl⟩⟩
theorem Vv (a b c d:Value) (u:World):(Instr.index 192 (.agg #[a,b,c,d]) (.int .i64 0)).run Tryz.prog u=.ok (.agg #[a,b]) u:=by kernel_rfl
theorem Vw (a b c d:Value) (u:World):(Instr.index 192 (.agg #[a,b,c,d]) (.int .i64 1)).run Tryz.prog u=.ok (.agg #[c,d]) u:=by kernel_rfl
theorem Nz (G:Int) (ps:List Pt.T) (r:Pt.T) (k j:Nat):(Po.bE G (ps.take k)++(Po.rowsOf r).take j).length<=1+2*k+2:=by
 rw [List.length_append,RL,List.length_take,List.length_take];have:(Po.rowsOf r).length=2:=rfl;omega
theorem jK (h:Ba.Own w B v M):∃ ao n cap,v=.slice ao n cap:=by
 rcases h.2 with ⟨h',_⟩ | ⟨g',cap',cur,h',_⟩
 · exact ⟨_,_,_,h'⟩
 · exact ⟨_,_,_,h'⟩
theorem pz (N X G:Int) (ps:List Pt.T) (ao:Option Addr) (p cap:Nat) (w:World) (hL:Pt.Ls w ao p cap ps) (hG:Fit G) (hp:p<=1000) (hc:∀ x∈ps,x.cat.size<=140737488351232) :
  Calls Tryz.prog 80 #[Tt.val N X G (.slice ao p cap)] w (RJ w G ps):=by
 have HL:=Lh hL;have lC:=Lh hL.len;have HCa:=Lh hc;have hcap:=hL.reach;have hfit:=hL.fits;obtain ⟨U,hU⟩:∃ U,w.alloc (.cells #[.int .i64 N,.int .i64 X,.int .i64 G,.slice ao p cap] 102)=U:=⟨_,rfl⟩;have K9:Below w.heap.size w U:=hU▸(Below.refl _ _).alloc (Nat.le_refl _) _;have hAU:Tt.At U w.heap.size N X G (.slice ao p cap):=hU▸Tt.dY w N X G (.slice ao p cap);have La:=Lh K9;obtain ⟨V,hV⟩:∃ V,U.alloc (.cells (Ba.zeros (1+2*p)) 81)=V:=⟨_,rfl⟩;have MW:Below U.heap.size U V:=hV▸(Below.refl _ _).alloc (Nat.le_refl _) _;have HBV:=Lh MW;have HOV:Hid (Ba.Own V U.heap.size (.slice (some ⟨U.heap.size,0,none⟩) 0 (1+2*p)) []):=Lh (hV▸Vu U p hp);have HAU:=Lh hAU;obtain ⟨u0,u1,u2,u3⟩:=hAU.cells;obtain ⟨c0,c1,c2,c3⟩:=(hAU.below MW).cells;have hmk:=RN p hp;have HLU:=Lh (hL.below K9);have hUV:U.heap.size<=V.heap.size:=MW.size;clear hL hc hG K9 hAU MW u0 u1 c0 c1;unfold Tt.val;go_enter Tryz.func80,Tryz.ntmps80;go_wp2_with (at_builtin;go_must (refine Ba.aG _ rfl (.tmp 17) (.tmp 21) rfl U.heap.size (.slice (some ⟨U.heap.size,0,none⟩) 0 (1+2*p)) [] rfl (Ba.bA HOV.out _) (some ⟨V.heap.size,0,none⟩) 1 1 [⟨Po.sU,G⟩] rfl rfl (fun h=>by cases h) (Ba.bB (heap_alloc_new V _)) (by simp) (by simp;omega) ?_));intro v1 w2 o1 vI _;have HB0:Hid (Below U.heap.size U w2):=Lh ((aL HBV.out _).grown vI (by simp;omega) (Ba.bK HOV.out));obtain ⟨va,q1,vc1,hv1⟩:=jK o1;subst hv1;have I6:Hid (Ba.Own w2 U.heap.size (.slice va q1 vc1) (Po.bE G (ps.take 0))):=Lh o1;have c3':=(HAU.out.below HB0.out).cells.2.2.2;clear vI o1 hU hV hmk u2 u3 c2 c3 hUV HBV HOV;obtain ⟨h,hh⟩:∃ h,w.heap.size=h:=⟨_,rfl⟩;rw [hh] at c3' HAU;rw [hh];have O5:=Lh hh;clear hh;go_wp2_with fail;clear c3'
 go_loopw [4,6,8,9,10,26] (fun t _ _ _ _ i wr=>∃ (k:Nat) (vo:Option Addr) (q vc:Nat),k<=p/\i=.int .i64 k/\t=.slice vo q vc/\Hid (Below U.heap.size U wr)/\Hid (Ba.Own wr U.heap.size (.slice vo q vc) (Po.bE G (ps.take k)))/\Hid (∀ x∈ps.take k,Po.AU x=false)) (fun _ _ _ _ _ i _=>p - (intOf i).toNat)
 case atStart=>exact ⟨0,va,q1,vc1,by omega,rfl,rfl,HB0,I6,Lh (by simp)⟩
 case round =>
  clear HB0 I6;rename World=>wz
  obtain ⟨k,vo,q,vc,hk,rfl,rfl,HB,HO,HK⟩:=hrel;by_cases hlt:k < p
  ·
   obtain ⟨b,off,rfl⟩:=HLU.out.at (by omega);have hkl:k < ps.length:=lC.out▸hlt;have hrow:=(HLU.out.row k hkl).below HB.out;have bX:=Lh (Po.Mr G ps k hkl);have p9:=Lh (List.take_succ_eq_append_getElem hkl);have bT:=Lh (HL.out.short _ (List.getElem_mem hkl));have HMm:Hid (ps[k]∈ps):=Lh (List.getElem_mem hkl);have HCk:=Lh (HCa.out _ (List.getElem_mem hkl));obtain ⟨r,hr⟩:∃ r,ps[k]=r:=⟨_,rfl⟩;rw [hr] at hrow bX p9 bT HMm HCk;clear hr;obtain ⟨r0,r1,r2,r3⟩:=hrow;obtain ⟨W,hW,hbW,hA⟩:=Pt.bZ wz r;have dz:=Lh (aj HB.out hbW)
   have HOW:Hid (Ba.Own W U.heap.size (.slice vo q vc) (Po.bE G (ps.take k)++(Po.rowsOf r).take 0)):=Lh (by
    rw [List.take_zero,List.append_nil];exact Ba.own_below HO.out hbW)
   unfold Pt.C at hA;obtain ⟨a0,a1,a2,a3⟩:=hA;obtain ⟨t1,ht1⟩:∃ t1,Po.Ml++r.cat=t1:=⟨_,rfl⟩;obtain ⟨t2,ht2⟩:∃ t2,Po.Mq++r.cat=t2:=⟨_,rfl⟩
   have hadd1:∀ u,(Op.stringOp .add ⟨#[110,101,116,47]⟩ r.cat).run Tryz.prog u=.ok (.string t1) u:=fun u=>by
    rw [<- ht1];exact Gh Po.Ml r.cat (by have:=HCk.out;have:Po.Ml.size=4:=rfl;omega) u
   have hadd2:∀ u,(Op.stringOp .add ⟨#[116,97,120,47]⟩ r.cat).run Tryz.prog u=.ok (.string t2) u:=fun u=>by
    rw [<- ht2];exact Gh Po.Mq r.cat (by have:=HCk.out;have:Po.Mq.size=4:=rfl;omega) u
   have Vb:Hid (Po.rowsOf r=[⟨t1,-r.net⟩,⟨t2,-r.aP⟩]):=Lh (by unfold Po.rowsOf;rw [ht1,ht2]);clear ht1 ht2 hbW HO;go_wp2_with fail;clear hadd1 hadd2 hW a0 a1 a2 a3 r0 r1 r2 r3
   go_loopw [4,8,9,10,43] (fun t _ _ _ i wr=>∃ (j:Nat) (uo:Option Addr) (uq uc:Nat),j<=2/\i=.int .i64 j/\t=.slice uo uq uc/\Hid (Below U.heap.size U wr)/\Hid (Ba.Own wr U.heap.size (.slice uo uq uc) (Po.bE G (ps.take k)++(Po.rowsOf r).take j))/\Hid ((1<=j->Mn.err (-r.net)=0)/\(2<=j->Mn.err (-r.aP)=0))) (fun _ _ _ _ i _=>2 - (intOf i).toNat)
   case atStart=>exact ⟨0,vo,q,vc,by omega,rfl,rfl,dz,HOW,Lh ⟨fun h=>by omega,fun h=>by omega⟩⟩
   case round =>
    clear dz HOW HB;rename World=>wy
    obtain ⟨j,uo,uq,uc,hj,rfl,rfl,HB,HO,HJ⟩:=hrel;have xK:=Lh (Nz G ps r k j);rcases (show j=0\/j=1\/j=2 by omega) with rfl | rfl | rfl
    ·
     have hix:=Vv (.string t1) (.int .i64 r.net) (.string t2) (.int .i64 r.aP);obtain ⟨Z,hZ,YT,hC⟩:=Ba.bZ wy ⟨t1,r.net⟩;have O6:=Lh (aj HB.out YT);have HOZ:=Lh (Ba.own_below HO.out YT);have hsz2:U.heap.size<=Z.heap.size:=O6.out.size;unfold Ba.C at hC;obtain ⟨d0,d1⟩:=hC;simp only at hZ d0 d1;clear YT;go_wp2_with fail;refine (subZ r.net _ bT.out.2.2.1).mono ?_;rintro e w3 ⟨rfl,hw3⟩;have hw4:=hw3.symm;clear hw3;subst hw4;clear hZ;unfold both;rcases Mn.jl (-r.net) with e1 | e1
     ·
      rw [e1,Mn.jk (vL e1)];have BZ:=Lh e1;clear e1;go_wp2_with (at_builtin;go_must (refine Ba.aG _ rfl (.tmp 55) (.tmp 60) rfl U.heap.size (.slice uo uq uc) (Po.bE G (ps.take k)++(Po.rowsOf r).take 0) rfl (Ba.bA HOZ.out _) (some ⟨Z.heap.size,0,none⟩) 1 1 [⟨t1,-r.net⟩] rfl rfl (fun h=>by cases h) (Ba.bB (heap_alloc_new Z _)) (by have:=xK.out;omega) (by simp;omega) ?_));intro v3 w5 o3 ou _;have HB3:Hid (Below U.heap.size U w5):=Lh ((aL O6.out _).grown ou (by simp;omega) (Ba.bK HOZ.out));obtain ⟨xa,xq,xc,hx1⟩:=jK o3;subst hx1
      have ow:Hid (Ba.Own w5 U.heap.size (.slice xa xq xc) (Po.bE G (ps.take k)++(Po.rowsOf r).take (0+1))):=Lh (by
       have e:Po.bE G (ps.take k)++(Po.rowsOf r).take (0+1)=Po.bE G (ps.take k)++(Po.rowsOf r).take 0++[⟨t1,-r.net⟩]:=by
        rw [Vb.out]
        simp
       rw [e]
       first | exact o3 | (rw [List.append_assoc];exact o3) | simpa using o3)
      clear ou o3 hsz2 d0 d1;go_wp2_with fail;go_roundw
      case rel=>exact ⟨0+1,xa,xq,xc,by omega,rfl,rfl,HB3,ow,Lh ⟨fun _=>BZ.out,fun h=>by omega⟩⟩
      case measure=>simp [intOf]
     ·
      have HP:=Lh (Po.EM G HMm.out (Po.u7 (.inl (by rw [e1];omega))));rw [e1];clear e1;go_wp2_with fail;go_ret2;exact ⟨_,by rw [HP.out.1];rfl,by rw [HP.out.2];exact Ba.aN _ _,aj La.out O6.out⟩
    ·
     have hix:=Vw (.string t1) (.int .i64 r.net) (.string t2) (.int .i64 r.aP);obtain ⟨Z,hZ,YT,hC⟩:=Ba.bZ wy ⟨t2,r.aP⟩;have O6:=Lh (aj HB.out YT);have HOZ:=Lh (Ba.own_below HO.out YT);have hsz2:U.heap.size<=Z.heap.size:=O6.out.size;unfold Ba.C at hC;obtain ⟨d0,d1⟩:=hC;simp only at hZ d0 d1;clear YT;go_wp2_with fail;refine (subZ r.aP _ bT.out.2.2.2).mono ?_;rintro e w3 ⟨rfl,hw3⟩;have hw4:=hw3.symm;clear hw3;subst hw4;clear hZ;unfold both;rcases Mn.jl (-r.aP) with e1 | e1
     ·
      rw [e1,Mn.jk (vL e1)];have BZ:=Lh e1;clear e1;go_wp2_with (at_builtin;go_must (refine Ba.aG _ rfl (.tmp 55) (.tmp 60) rfl U.heap.size (.slice uo uq uc) (Po.bE G (ps.take k)++(Po.rowsOf r).take 1) rfl (Ba.bA HOZ.out _) (some ⟨Z.heap.size,0,none⟩) 1 1 [⟨t2,-r.aP⟩] rfl rfl (fun h=>by cases h) (Ba.bB (heap_alloc_new Z _)) (by have:=xK.out;omega) (by simp;omega) ?_));intro v3 w5 o3 ou _;have HB3:Hid (Below U.heap.size U w5):=Lh ((aL O6.out _).grown ou (by simp;omega) (Ba.bK HOZ.out));obtain ⟨xa,xq,xc,hx1⟩:=jK o3;subst hx1
      have ow:Hid (Ba.Own w5 U.heap.size (.slice xa xq xc) (Po.bE G (ps.take k)++(Po.rowsOf r).take (1+1))):=Lh (by
       have e:Po.bE G (ps.take k)++(Po.rowsOf r).take (1+1)=Po.bE G (ps.take k)++(Po.rowsOf r).take 1++[⟨t2,-r.aP⟩]:=by
        rw [Vb.out]
        simp
       rw [e]
       first | exact o3 | (rw [List.append_assoc];exact o3) | simpa using o3)
      clear ou o3 hsz2 d0 d1;go_wp2_with fail;go_roundw
      case rel=>exact ⟨1+1,xa,xq,xc,by omega,rfl,rfl,HB3,ow,Lh ⟨fun _=>HJ.out.1 (by omega),fun _=>BZ.out⟩⟩
      case measure=>simp [intOf]
     ·
      have HP:=Lh (Po.EM G HMm.out (Po.u7 (.inr (by rw [e1];omega))));rw [e1];clear e1;go_wp2_with fail;go_ret2;exact ⟨_,by rw [HP.out.1];rfl,by rw [HP.out.2];exact Ba.aN _ _,aj La.out O6.out⟩
    ·
     have BZ:=HJ.out.1 (by omega);have HE2:=HJ.out.2 (by omega);have HBd:=Lh (Po.Iy BZ HE2)
     have XD:Hid (∀ x∈ps.take (k+1),Po.AU x=false):=Lh (by
      rw [p9.out];intro x hx;rcases List.mem_append.1 hx with hx | hx
      · exact HK.out x hx
      ·
       obtain rfl:=List.mem_singleton.1 hx;exact HBd.out)
     have ow:Hid (Ba.Own wy U.heap.size (.slice uo uq uc) (Po.bE G (ps.take (k+1)))):=Lh (by rw [bX.out];exact HO.out);clear BZ HE2 HJ xK;go_wp2_with fail;go_roundw
     case rel=>exact ⟨k+1,uo,uq,uc,by omega,by go_num,rfl,HB,ow,XD⟩
     case measure=>simp [intOf];omega
  ·
   obtain rfl:k=p:=by omega
   have p9:Hid (ps.take k=ps):=Lh (List.take_of_length_le (by rw [lC.out];exact Nat.le_refl _));have HP:=Lh (Po.UF G (fun x hx=>HK.out x (by rw [p9.out];exact hx)));go_wp2_with fail;go_ret2;refine ⟨.slice vo q vc,by rw [HP.out.1];rfl,?_,aj La.out HB.out⟩;rw [HP.out.2];have ho:=HO.out;rw [p9.out] at ho;exact Ba.bD ho La.out.size
theorem Po.nk {c:ByteArray} {n:Int} (hc:c.size<=140737488355328) (hs:∀ r∈M,Ba.Short r) (he:Po.gZ c n M=0):∀ r∈Po.enter c n M,Ba.Short r:=by
 intro r hr;unfold Po.enter at hr;rcases List.mem_or_eq_of_mem_set hr with hr | rfl
 · exact Po.sG hc hs r hr
 · exact ⟨(Po.kI hc hs).1,zW he⟩
theorem Po.nT:∀ (ls M:List Ba.T),(∀ x∈ls,Ba.Short x)->(∀ r∈M,Ba.Short r)->Po.kM ls M=0->∀ r∈Po.iR ls M,Ba.Short r
 | [],_,_,hp,_=>hp
 | x::l,M,hl,hp,he=>by
  rw [Po.kM] at he;by_cases h2:Po.gZ x.aF x.dG M=0
  ·
   rw [h2,if_neg (by simp)] at he;exact Po.nT l _ (fun z hz=>hl z (by simp [hz])) (Po.nk (hl x (by simp)).1 hp h2) he
  ·
   rw [if_pos h2] at he;omega
theorem Po.uF (hb:∀ r∈bs,Ba.Short r) (hl:∀ x∈ls,Ba.Short x):∀ r∈Po.vk bs ls,Ba.Short r:=by
 unfold Po.vk;split
 ·
  rename_i h;unfold Po.jw at h;split at h
  · omega
  · exact Po.nT ls bs hl hb h
 ·
  intro r hr;cases hr
theorem Po.nu {g:Int} {ps:List Pt.T} (hg:Fit g) (hs:∀ x∈ps,Pt.Short x) (hc:∀ x∈ps,x.cat.size<=140737488351232):∀ r∈Po.qG g ps,Ba.Short r:=by
 unfold Po.qG;split
 ·
  rename_i h;refine Jr hg hs hc fun x hx=>?_
  unfold Po.dR at h;split at h
  · omega
  ·
   rename_i h2;cases hb:Po.AU x with
   | false=>rfl
   | true=>exact absurd (List.any_eq_true.2 ⟨x,hx,hb⟩) h2
 ·
  intro r hr;cases hr
theorem RO (rs:List Pd.T) (p:Pd.T) (ao:Option Addr) (n cap:Nat) (w:World) (hL:Pd.Ls w ao n cap rs) (hn:n<=100) :
  Calls Tryz.prog 171 #[.slice ao n cap,Pd.val p] w fun e w'=>∃ v,e=.returned v/\Pd.Own w' w.heap.size v (rs++[p])/\Below w.heap.size w w':=by
 have HL:=Lh hL;have HN:=Lh hL.len;have hcap:=hL.reach;have hfit:=hL.fits;obtain ⟨U,hU,K9,hC⟩:=Pd.bZ w p;have hmk:=Pd.jh n (by omega);have hB0:Below U.heap.size U (U.alloc (.cells (Pd.zeros (n+1)) 104)):=(Below.refl _ _).alloc (Nat.le_refl _) _;have hO0:=Pd.eT U U.heap.size (n+1) (Nat.le_refl _) (by omega);have HC:=Lh hC;have La:=Lh K9;have HB0:=Lh hB0;have XE:=Lh (hL.below (aj K9 hB0));obtain ⟨X,hX⟩:∃ X,U.alloc (.cells (Pd.zeros (n+1)) 104)=X:=⟨_,rfl⟩;rw [hX] at HB0 XE hO0;have I6:=Lh hO0;clear hL hB0 K9 hC hO0;unfold Pd.val;go_enter Tryz.func171,Tryz.ntmps171;go_wp2_with (first | (at_builtin;go_must (refine Pd.aG X rfl (.tmp 10) (.tmp 11) rfl U.heap.size (.slice (some ⟨U.heap.size,0,none⟩) 0 (n+1)) [] rfl I6.out ao n cap rs rfl HN.out XE.out.nil XE.out.seg (by simp;omega) HB0.out.size ?_)));intro v1 w1 o1 vI _;have hb1:=HB0.out.grown vI HB0.out.size (Pd.bK I6.out);have HB1:=Lh hb1;have lY:Hid (∀ o,Pd.Own (w1.alloc o) U.heap.size v1 rs):=Lh fun o=>Pd.bA o1 o
 have O1:=HC.out.below hb1;clear o1 vI hb1 hX hU hmk;go_wp2_with (first | ((with_reducible apply Pd.kE O1);rfl;rfl;rfl)|((with_reducible apply Pd.vD (r:=p));rfl;rfl;rfl)|(at_builtin;go_must (refine Pd.aG (w1.alloc (Pd.block p)) rfl (.tmp 13) (.tmp 15) rfl U.heap.size v1 rs rfl (lY.out _) (some ⟨w1.heap.size,0,none⟩) 1 1 [p] rfl rfl (fun h=>by cases h) (Pd.bB (heap_alloc_new w1 _)) (by rw [<- HN.out];omega) (by have:=HB1.out.size;simp;omega) ?_)));intro v2 w2 o2 tu _;have hb2:=(aL HB1.out (Pd.block p)).grown tu (aL HB1.out (Pd.block p)).size (Pd.bK (lY.out (Pd.block p)));have lX:=Lh o2;have HB2:=Lh hb2;clear o2 tu hb2;go_wp2_with fail;go_ret;exact ⟨v2,rfl,Pd.bD lX.out La.out.size,aj La.out HB2.out⟩
def Bl.xL (b:List Ba.T) (t:Iv.iD):Int:=if Po.dR t.parts≠0 then Po.dR t.parts else Po.jw b (Po.bE t.au t.parts)
def Bl.zX (b:List Ba.T) (t:Iv.iD):List Ba.T:=if Po.dR t.parts≠0 then [] else Po.vk b (Po.bE t.au t.parts)
theorem Bl.zY {t:Iv.iD} (h:Po.dR t.parts≠0):Bl.xL b t=Po.dR t.parts/\Bl.zX b t=[]:=⟨if_pos h,if_pos h⟩
theorem Bl.yC {t:Iv.iD} (h:Po.dR t.parts=0):Bl.xL b t=Po.jw b (Po.bE t.au t.parts)/\Bl.zX b t=Po.vk b (Po.bE t.au t.parts):=⟨if_neg (by rw [h];simp),if_neg (by rw [h];simp)⟩
theorem Po.kJ (g:Int):∀ ps:List Pt.T,(Po.bE g ps).length=1+2*ps.length
 | []=>rfl
 | p::l=>by
  have:=Po.kJ g l;unfold Po.bE at this ⊢;rw [List.flatMap_cons,List.length_cons,List.length_append];rw [List.length_cons] at this;show 2+_+1=_;rw [List.length_cons];omega
theorem NA (bs:List Ba.T) (t:Iv.iD) (ao bo:Option Addr) (n ca p cb:Nat) (w:World) (hB:Ba.Ls w ao n ca bs) (hP:Pt.Ls w bo p cb t.parts) (hn:n<=1000) (hp:p<=100) (hg:Fit t.au) (hc:∀ x∈t.parts,x.cat.size<=140737488351232) :
  Calls Tryz.prog 170 #[.slice ao n ca,Tt.val t.net t.aP t.au (.slice bo p cb)] w fun e w'=>∃ v,e=.returned (.tuple #[v,.int .i64 (Bl.xL bs t)])/\Ba.Own w' w.heap.size v (Bl.zX bs t)/\Below w.heap.size w w':=by
 have HB:=Lh hB;have HP:=Lh hP;have HH:=Lh (And.intro hg hc);obtain ⟨U,hU,K9,hT⟩:∃ U,w.alloc (.cells #[.int .i64 t.net,.int .i64 t.aP,.int .i64 t.au,.slice bo p cb] 102)=U/\Below w.heap.size w U/\U.heap[w.heap.size]? =some (.cells #[.int .i64 t.net,.int .i64 t.aP,.int .i64 t.au,.slice bo p cb] 102):=⟨_,rfl,(Below.refl _ _).alloc (Nat.le_refl _) _,heap_alloc_new _ _⟩;have c0:U.cell? ⟨w.heap.size,0,none⟩=some (.int .i64 t.net):=by rw [cell_of_row U _ 0 _ _ _ hT];rfl
 have c1:U.cell? ⟨w.heap.size,1,none⟩=some (.int .i64 t.aP):=by rw [cell_of_row U _ 1 _ _ _ hT];rfl
 have c2:U.cell? ⟨w.heap.size,2,none⟩=some (.int .i64 t.au):=by rw [cell_of_row U _ 2 _ _ _ hT];rfl
 have c3:U.cell? ⟨w.heap.size,3,none⟩=some (.slice bo p cb):=by rw [cell_of_row U _ 3 _ _ _ hT];rfl
 have La:=Lh K9;have xK:=Lh (And.intro hn hp);clear K9 hT hB hP hg hc;unfold Tt.val;go_enter Tryz.func170,Tryz.ntmps170;go_wp2_with fail;clear hU;refine (pz t.net t.aP t.au t.parts bo p cb U (HP.out.below La.out) HH.out.1 (by have:=xK.out.2;omega) HH.out.2).mono ?_;rintro e w1 ⟨v,rfl,o1,b1⟩;have HB1:=Lh (aj La.out b1);clear b1 c0 c1 c2 c3;by_cases h0:Po.dR t.parts=0
 ·
  have HE:=Lh (Bl.yC (b:=bs) h0);have hR:Po.qG t.au t.parts=Po.bE t.au t.parts:=if_pos h0;have bT:=Lh (Po.nu HH.out.1 HP.out.short HH.out.2);have lC:=Lh (Po.kJ t.au t.parts);have vX:=Lh HP.out.len;rw [hR] at o1 bT;rw [h0];clear hR h0;obtain ⟨L,hL⟩:∃ L,Po.bE t.au t.parts=L:=⟨_,rfl⟩;rw [hL] at o1 bT HE lC;clear hL;obtain ⟨lo,lc,rfl,l1,_⟩:=Ba.aX o1 bT.out;have lK:=Lh l1;obtain ⟨m,hm⟩:∃ m,L.length=m:=⟨_,rfl⟩;rw [hm] at lK lC ⊢;clear hm o1 l1;go_wp2_with fail;refine (uE bs L ao lo n ca m lc w1 (HB.out.below HB1.out) lK.out (by have:=xK.out.1;omega) (by have:=xK.out.2;have:=lC.out;have:=vX.out;omega)).mono ?_;rintro e w2 ⟨v2,rfl,o2,b2⟩;have lX:=Lh o2;have HB2:=Lh b2;clear o2 b2;go_wp2_with fail;go_ret2;exact ⟨_,by rw [HE.out.1];rfl,by rw [HE.out.2];exact Ba.bD lX.out HB1.out.size,aj HB1.out HB2.out⟩
 ·
  have hq:(Po.dR t.parts==0)=false:=beq_eq_false_iff_ne.2 h0;have HE:=Lh (Bl.zY (b:=bs) h0);obtain ⟨E,hE⟩:∃ E,Po.dR t.parts=E:=⟨_,rfl⟩;rw [hE] at hq HE ⊢;clear hE h0 o1;go_wp2_with fail;go_ret2;exact ⟨_,by rw [HE.out.1];rfl,by rw [HE.out.2];exact Ba.aN _ _,HB1.out⟩
end Go.Proofs.YtpfdnemaaeolcaaGreat
namespace Go.Proofs.YtpfdnemaaeolcaaGreat.Pt
open Go.RowKit
open Mem
theorem pE (g n c k l c':Nat) (x:Int) (hx:x=(k:Int)) (hk:k+l=n) (hc:k+c'=c) (hl:0 < c') (hn:n<=c) (h63:c<=1000) (u:World) :
  (Instr.slice 100 (.slice (some ⟨g,0,none⟩) n c) (some (.int .i64 x)) none none).run Tryz.prog u=.ok (.slice (some ⟨g,k*4,none⟩) l c') u:=by
 subst hx;rw [run_slice_l u 100 (some ⟨g,0,none⟩) n c und .i64 k (by omega) (by omega),size];have e1:n - k=l:=by omega
 have e2:c - k=c':=by omega
 have e3: ¬ c=k:=by omega
 simp [Result.andThen,sliced,e1,e2,e3,Addr.add];intro h;exact h.symm
theorem RP (g n c k:Nat) (x:Int) (hx:x=(k:Int)) (hk:k<=c) (h63:c<=1000) (u:World) :
  (Instr.slice 100 (.slice (some ⟨g,0,none⟩) n c) none (some (.int .i64 x)) none).run Tryz.prog u=.ok (.slice (some ⟨g,0,none⟩) k c) u:=by
 subst hx;rw [run_slice_h u 100 (some ⟨g,0,none⟩) n c und .i64 k (by omega) (by omega),size];simp [Result.andThen,sliced,Addr.add]
def laid (M rs:List T) (o:Nat):List T:=M.take o++rs++M.drop (o+rs.length)
def cells (M:List T):Array Value:=(M.flatMap rv).toArray
theorem kH:∀ (M:List T) (o:Nat),(M.flatMap rv).take (o*4)=(M.take o).flatMap rv
 | [],o=>by simp
 | a::l,0=>by simp
 | a::l,o+1=>by
  rw [List.flatMap_cons,List.take_succ_cons,List.flatMap_cons,show (o+1)*4=(rv a).length+o*4 by rw [aM];omega,List.take_length_add_append,kH l o]
theorem Cb:∀ (M:List T) (o:Nat),(M.flatMap rv).drop (o*4)=(M.drop o).flatMap rv
 | [],o=>by simp
 | a::l,0=>by simp
 | a::l,o+1=>by
  rw [List.flatMap_cons,List.drop_succ_cons,show (o+1)*4=(rv a).length+o*4 by rw [aM];omega,List.drop_length_add_append,Cb l o]
theorem zZ {u:World} {M:List T} (h:Block u g M) (N:List T):Block (u.setRow g (cells N)) g N:=setRow_heap u g _ _ 108 _ h
theorem Lg (u:World) (g:Nat) (M:List T) (o dl dc b so sl sc:Nat) (rs:List T) (hb:Block u g M) (hk:rs.length=Nat.min sl dl) (ho:o+rs.length<=M.length) (hs:∀ (k:Nat) (hk:k < rs.length),At u b (so+k*4) rs[k]) (ty:TypeId) :
  (Builtin.copy_ #[100,100] ty #[.slice (some ⟨g,o*4,none⟩) dl dc,.slice (some ⟨b,so,none⟩) sl sc]).run Tryz.prog u=.ok (goInt rs.length) (u.setRow g (cells (laid M rs o))):=by
 obtain ⟨i0,hi,hiK⟩:=Option.map_eq_some_iff.1 lH;have hl:=run_loadCells_list (P:=Tryz.prog) u ⟨b,so,none⟩ (rs.flatMap rv) (fun j v hv=>dA hs j v hv);have hst:=run_storeCells_at Tryz.prog g (o*4) 108 (rs.flatMap rv) 0 _ u hb (by rw [List.size_toArray,aB,aB];omega) (one_cell rs);have hlen:(rs.flatMap rv).length=rs.length*4:=aB rs
 have e:((M.flatMap rv).toArray.toList.take (o*4+0)++rs.flatMap rv++(M.flatMap rv).toArray.toList.drop (o*4+0+(rs.flatMap rv).length))=(laid M rs o).flatMap rv:=by
  rw [List.toList_toArray,Nat.add_zero,hlen,kH,show o*4+rs.length*4=(o+rs.length)*4 by omega,Cb];unfold laid;rw [List.flatMap_append,List.flatMap_append]
 rw [e] at hst;rw [hlen] at hl;unfold cells;simp [Builtin.copy_,run_underlying Tryz.underlying100,Builtin.lenOf,Builtin.firstCells,sizeOf,typeInfo,hi,hiK,<- hk,hl,hst]
theorem Block.drew {u:World} {g:Nat} {M:List T} (h:Block u g M):Block u.drew g M:=h
theorem Block.shape {u:World} {g:Nat} {M:List T} (h:Block u g M):u.shape? g=some (108,M.length*4):=by
 unfold World.shape?;rw [h];simp only [List.size_toArray,aB]
theorem NC {n c:Nat} {M Z:List T} (h:Block w g (M++Z)) (hB:B<=g) (hn:n=M.length) (hc:c=(M++Z).length) (hm:c<=1000):Own w B (.slice (some ⟨g,0,none⟩) n c) M:=by
 subst hn hc;refine ⟨by rw [aB],.inr ⟨g,_,_,rfl,hB,h,by rw [List.length_append];omega,by have:maxLen=9223372036854775807:=rfl;omega,by rw [List.size_toArray,aB],?_⟩⟩;rw [List.flatMap_append,List.toList_toArray,List.take_left' (by rw [aB])]
theorem Block.put {M:List T} (h:Block w g M) (k p:Nat) (hk:k < M.length) (hp:p < 4) (x:Value) (r:T) (hr:rv r=(rv M[k]).set p x):Block (w.setCell ⟨g,k*4+p,none⟩ x) g (M.set k r):=by
 have h1:=heap_setCell_same _ g (k*4+p) _ _ x h;unfold Block;rw [h1,jU r p x hp M k hk hr];simp only [List.setIfInBounds_toArray]
theorem Block.far {b:Nat} {M:List T} (h:Block w g M) (hne:g≠b) (o:Nat) (x:Value):Block (w.setCell ⟨b,o,none⟩ x) g M:=by
 unfold Block;rw [heap_setCell_other w ⟨b,o,none⟩ g x hne];exact h
theorem CU (M Z:List T) (z r:T):(M++z::Z).set M.length r=(M++[r])++Z:=by
 rw [List.set_append_right _ _ (Nat.le_refl _),Nat.sub_self,List.set_cons_zero,List.append_assoc];rfl
theorem Js (w:World) (g c vb n:Nat) (M Z:List T) (z r:T) (h:Block w g (M++z::Z)) (hn:n=M.length) (hc:c=(M++z::Z).length) (hm:c<=1000) (hv:w.heap[vb]? =some (block r)) :
  Calls Tryz.prog 183 #[.slice (some ⟨g,0,none⟩) n c,.int .i64 (n:Int),.slice (some ⟨vb,0,none⟩) 1 1] w fun e w' =>
   e=.returned (.slice (some ⟨g,0,none⟩) (n+1) c)/\Block w' g ((M++[r])++Z)/\(∀ B w0,Below B w0 w->B<=g->Below B w0 w'):=by
 have hcl:c=n+1+Z.length:=by rw [hc,List.length_append,List.length_cons,<- hn];omega
 obtain ⟨i0,hi,hz0,hz1,hz2⟩:=info_parts info
 have hsrc:Src Tryz.prog i0.size 100 (.slice (some ⟨vb,0,none⟩) 1 1) 1 (rv r) w:=by
  rw [hz1];have hsg:=bB hv;rcases hsg with e | ⟨b,off,e,hat⟩
  · cases e
  ·
   cases e
   have h':=dA hat;rw [List.flatMap_cons,List.flatMap_nil,List.append_nil] at h';exact Src.ofSlice w Tryz.underlying100 ⟨vb,0,none⟩ 1 1 (rv r) rfl (fun j u hj=>h' j u hj) (fun v hv=>by have:=one_cell [r] v (by rw [List.flatMap_cons,List.flatMap_nil,List.append_nil];exact hv);exact this)
 have hsl:=pE g n c n 0 (c - n) (n:Int) rfl (by omega) (by omega) (by omega) (by omega) hm
 have hcell:∀ j,j < (rv r).length->(w.cell? ⟨g,0+n*i0.size+j,none⟩).isSome=true:=fun j hj=>by
  rw [aM] at hj;rw [hz1,Nat.zero_add,cell_of_row w g _ _ _ _ h,List.getElem?_toArray,aS (M++z::Z) n j (by rw [List.length_append,List.length_cons];omega) hj];rw [List.getElem?_eq_getElem (by rw [aM];exact hj)];rfl
 have hfz:∀ j,j < (rv r).length->w.frozen? ⟨g,0+n*i0.size+j,none⟩=false:=fun j _=>h.frozen _
 have HP:Hid (Block (w.setCells g (n*4) (rv r)) g ((M++[r])++Z)):=by
  have hst:=h.store n (by rw [List.length_append,List.length_cons];omega) r;rw [hn,CU,<- hn] at hst;exact hst
 have HB:Hid (∀ B w0,Below B w0 w->B<=g->Below B w0 (w.setCells g (n*4) (rv r))):=by
  intro B w0 hb hg;exact gL hb hg n _ _ _ _
 have hcn:n+1<=c:=by omega
 have HH:=Lh h;have HV:=Lh hv;have hn1:(n:Int)<=1000:=by omega
 clear h hv hc hcl hn;go_enter Tryz.func183,Tryz.ntmps183;go_wp2_with (at_builtin;go_must (refine wpList_append_room_src w rfl (.tmp 23) (.tmp 24) 100 100 rfl 108 i0 Tryz.underlying100 hi g 0 n c rfl _ rfl 1 (rv r) hsrc hcn hcell hfz ?_));go_ret;exact ⟨rfl,HP.out,HB.out⟩
theorem Vx (M Z:List T) (z:T) (i:Nat) (hi:i < M.length):laid (M++z::Z) (M.drop i) (i+1)=M.take (i+1)++M.drop i++Z:=by
 have e1:(M++z::Z).take (i+1)=M.take (i+1):=List.take_append_of_le_length (by omega)
 have e2:(M++z::Z).drop (i+1+(M.drop i).length)=Z:=by
  rw [List.length_drop,show i+1+(M.length - i)=(M++[z]).length by rw [List.length_append,List.length_singleton];omega,show M++z::Z=(M++[z])++Z by simp,List.drop_left]
 unfold laid;rw [e1,e2]
theorem Vy (M Z:List T) (r:T) (i:Nat) (hi:i < M.length):laid (M.take (i+1)++M.drop i++Z) [r] i=(M.take i++r::M.drop i)++Z:=by
 have e1:(M.take (i+1)++M.drop i++Z).take i=M.take i:=by
  rw [List.append_assoc,List.take_append_of_le_length (by rw [List.length_take];omega),List.take_take,Nat.min_eq_left (by omega)]
 have e2:(M.take (i+1)++M.drop i++Z).drop (i+[r].length)=M.drop i++Z:=by
  rw [List.append_assoc,List.drop_left' (by rw [List.length_take,List.length_singleton];omega)]
 unfold laid;rw [e1,e2];simp only [List.append_assoc,List.cons_append,List.nil_append]
theorem size4 (u:World):(sizeOf 108).run Tryz.prog u=.ok 4 u:=by
 obtain ⟨i,hi,hs⟩:=Option.map_eq_some_iff.1 lH;simp [sizeOf,typeInfo,hi,hs]
theorem Jt (w:World) (g c vb n i:Nat) (M Z:List T) (z r:T) (h:Block w g (M++z::Z)) (hn:n=M.length) (hc:c=(M++z::Z).length) (hm:c<=1000) (hv:w.heap[vb]? =some (block r)) (hne:vb≠g) (hi:i < n) :
  Calls Tryz.prog 183 #[.slice (some ⟨g,0,none⟩) n c,.int .i64 (i:Int),.slice (some ⟨vb,0,none⟩) 1 1] w fun e w' =>
   e=.returned (.slice (some ⟨g,0,none⟩) (n+1) c)/\Block w' g ((M.take i++r::M.drop i)++Z)/\(∀ B w0,Below B w0 w->B<=g->Below B w0 w'):=by
 have hcl:c=n+1+Z.length:=by rw [hc,List.length_append,List.length_cons,<- hn];omega
 have hs1:=pE g n c i (n - i) (c - i) (i:Int) rfl (by omega) (by omega) (by omega) (by omega) hm;have hs2:=RP g n c (n+1) ((n:Int)+1) (by omega) (by omega) hm;have hs3:=pE g (n+1) c (i+1) (n - i) (c - (i+1)) ((i:Int)+1) (by omega) (by omega) (by omega) (by omega) (by omega) hm;have hs4:=pE g (n+1) c i (n+1 - i) (c - i) (i:Int) rfl (by omega) (by omega) (by omega) (by omega) hm
 have hov:∀ lb cb,(callFunc 196 #[.slice (some ⟨vb,0,none⟩) 1 1,.slice (some ⟨g,(i+1)*4,none⟩) lb cb]).run Tryz.prog w=.ok (.value (.bool false)) w:=fun lb cb=>by
  rw [run_callFunc_extern Tryz.func196 (by kernel_rfl) (by kernel_rfl) (by kernel_rfl) (e:=Extern.SlicesOverlaps.overlaps #[100,100] #[4]) (by kernel_rfl),
   Lib.run_overlaps_apart w 100 4 108 Tryz.underlying100 4 size4 ⟨vb,0,none⟩ ⟨g,(i+1)*4,none⟩ 1 1 lb cb hne 108 108 4 ((M++z::Z).length*4) (by unfold World.shape?;rw [hv];rfl) h.shape (by rw [<- hc];omega) (frozen_of_row w vb 0 _ _ hv) (frozen_of_row w vb 4 _ _ hv)]
  rfl
 obtain ⟨W1,hW1⟩:∃ W1,w.drew.setRow g (cells (M.take (i+1)++M.drop i++Z))=W1:=⟨_,rfl⟩;have hB1:Block W1 g (M.take (i+1)++M.drop i++Z):=hW1▸zZ h.drew _;have hd:(M.drop i).length=n - i:=by rw [List.length_drop,hn]
 have hcp1:∀ ty dc sc,(Builtin.copy_ #[100,100] ty #[.slice (some ⟨g,(i+1)*4,none⟩) (n - i) dc,.slice (some ⟨g,i*4,none⟩) (n+1 - i) sc]).run Tryz.prog w.drew=.ok (goInt (n - i:Nat)) W1:=fun ty dc sc=>by
  have hcp:=Lg w.drew g (M++z::Z) (i+1) (n - i) dc g (i*4) (n+1 - i) sc (M.drop i) h.drew (by rw [hd];simp only [Nat.min_def];split <;> omega) (by rw [hd,List.length_append,List.length_cons];omega) (fun k hk=>by
   have hr:=h.drew.row (i+k) (by rw [List.length_append];omega);rw [List.getElem_append_left (by omega)] at hr;rw [List.getElem_drop,show i*4+k*4=(i+k)*4 by omega];exact hr) ty
  rw [Vx M Z z i (by omega),hW1,hd] at hcp;exact hcp
 have hvW:W1.heap[vb]? =some (block r):=by
  rw [<- hW1,setRow_other w.drew g vb _ hne];exact hv
 obtain ⟨W2,hW2⟩:∃ W2,W1.setRow g (cells ((M.take i++r::M.drop i)++Z))=W2:=⟨_,rfl⟩
 have hcp2:∀ ty dc,(Builtin.copy_ #[100,100] ty #[.slice (some ⟨g,i*4,none⟩) (n+1 - i) dc,.slice (some ⟨vb,0,none⟩) 1 1]).run Tryz.prog W1=.ok (goInt 1) W2:=fun ty dc=>by
  have hsg:=bB hvW
  have hcp:=Lg W1 g (M.take (i+1)++M.drop i++Z) i (n+1 - i) dc vb 0 1 1 [r] hB1 (by simp only [Nat.min_def,List.length_singleton];split <;> omega) (by simp only [List.length_append,List.length_take,hd,List.length_singleton];omega) (by
   rcases hsg with e | ⟨b,off,e,hat⟩
   · cases e
   ·
    cases e
    exact hat) ty
  rw [Vy M Z r i (by omega),hW2] at hcp;exact hcp
 have HP:Hid (Block W2 g ((M.take i++r::M.drop i)++Z)):=by
  show Block W2 g _;rw [<- hW2];exact zZ hB1 _
 have HB:Hid (∀ B w0,Below B w0 w->B<=g->Below B w0 W2):=by
  intro B w0 hb hg;rw [<- hW2,<- hW1];exact below_setRow (below_setRow hb.drew hg _) hg _
 have hin: ¬ ((i:Int)=(n:Int)):=by omega
 have hin':((i:Int)==(n:Int))=false:=by simpa using hin
 have hcn:(n:Int)+1<=(c:Int):=by omega
 have hc1:(c:Int)<=1000:=by omega
 have hi1:(i:Int)+1<=(n:Int):=by omega
 clear h hv hc hcl hn hW1 hW2 hB1 hd hvW hne;go_enter Tryz.func183,Tryz.ntmps183;go_wp2_with (simp only [hov]);go_region;go_wp2_with fail;go_ret;exact ⟨rfl,HP.out,HB.out⟩
end Go.Proofs.YtpfdnemaaeolcaaGreat.Pt
namespace Go.Proofs.YtpfdnemaaeolcaaGreat
open Go.RowKit
open Mem
theorem ND (rs:List Pt.T) (ao:Option Addr) (n cap:Nat) (w:World) (hR:Pt.Ls w ao n cap rs) (hn:n<=1000) :
  Calls Tryz.prog 156 #[.slice ao n cap] w fun e w'=>e=.returned (.slice (some ⟨w.heap.size,0,none⟩) n n)/\Pt.Block w' w.heap.size rs/\Below w.heap.size w w':=by
 have HR:=Lh hR;have hcap:=hR.reach;have hfit:=hR.fits;have hmk:=Pt.make n (by omega);have eD:=Pt.aZ w n;have hbel0:Below w.heap.size w (w.alloc (.cells (Pt.zeros n) 108)):=(Below.refl _ _).alloc (Nat.le_refl _) _;obtain ⟨W1,hcp,hblk,hbel,hsz⟩:=Pt.copy (w.alloc (.cells (Pt.zeros n) 108)) w.heap.size [] n ao n cap rs (by rw [List.append_nil];exact eD) hR.len ((hR.below hbel0).seg);rw [List.length_nil,Nat.add_zero] at hcp;rw [List.append_nil] at hblk;have HB1:=Lh (hbel _ _ hbel0 (Nat.le_refl _));have gV:=Lh hblk;clear hblk hbel eD hbel0 hR;go_enter Tryz.func156,Tryz.ntmps156;go_wp2;go_ret;exact ⟨rfl,gV.out,HB1.out⟩
theorem sub0 (x:Int) (w:World) (hx:Fit x):Calls Tryz.prog 122 #[.int .i64 0,.int .i64 x] w fun e w'=>e=both (Mn.dG (-x)) (Mn.err (-x))/\w'=w:=by
 have h:=Lf 0 x w (by decide) hx;rw [Int.zero_sub] at h;exact h
def TurnE (n:Nat) (v:Nat->Int) (W:Nat->World) (e:Ending) (w':World):Prop :=
 ((∀ k,k < n->Mn.err (-(v k))=0)/\e=.returned (.int .i64 0)/\w'=W n)\/(∃ k,k < n/\Mn.err (-(v k))≠0/\e=.returned (.int .i64 7)/\w'=W k)
theorem Gi (vb g n:Nat) (o:Nat->Nat) (v:Nat->Int) (W:Nat->World) (hn:n<=3)
  (hp:∀ k,k < n->(W k).cell? ⟨vb,k,none⟩=some (.pointer (some ⟨g,o k,none⟩))) (hc:∀ k,k < n->(W k).cell? ⟨g,o k,none⟩=some (.int .i64 (v k))) (hf:∀ k,k < n->(W k).frozen? ⟨g,o k,none⟩=false)
  (hs:∀ k,k < n->(W k).setCell ⟨g,o k,none⟩ (.int .i64 (-(v k)))=W (k+1)) (hv:∀ k,k < n->Fit (v k)) :
  Calls Tryz.prog 157 #[.slice (some ⟨vb,0,none⟩) n n] (W 0) (TurnE n v W):=by
 have HP:=Lh hp;have HC:=Lh hc;have HF:=Lh hf;have HS:=Lh hs;have HV:=Lh hv;clear hp hc hf hs hv;go_enter Tryz.func157,Tryz.ntmps157;go_wp2_with fail
 go_loopw [4,5,6,9] (fun _ _ _ i wr=>∃ k:Nat,k<=n/\i=.int .i64 k/\wr=W k/\Hid (∀ j,j < k->Mn.err (-(v j))=0)) (fun _ _ _ i _=>n - (intOf i).toNat)
 case atStart=>exact ⟨0,by omega,rfl,rfl,Lh fun j hj=>by omega⟩
 case round =>
  obtain ⟨k,hk,rfl,hwr,HE⟩:=hrel;by_cases hlt:k < n
  ·
   have h1:=HP.out k hlt;have h2:=HC.out k hlt;have h3:=HF.out k hlt;have Es:=Lh (HS.out k hlt);have KV:=Lh (HV.out k hlt);rw [<- hwr] at h1 h2 h3 Es;have HWr:=Lh hwr;obtain ⟨x,hx⟩:∃ x,v k=x:=⟨_,rfl⟩;obtain ⟨p,hop⟩:∃ p,o k=p:=⟨_,rfl⟩;have HX:=Lh hx;rw [hx] at h2 Es KV;rw [hop] at h1 h2 h3 Es;clear hwr hx hop;go_wp2_with fail;refine (sub0 x _ KV.out).mono ?_;rintro e w1 ⟨rfl,hw1⟩;subst hw1;unfold both;rcases Mn.jl (-x) with e1 | e1
   ·
    have BZ:=Lh e1;rw [e1,Mn.jk (Iv.kT e1)];clear e1;go_wp2_with fail;go_roundw
    case rel =>
     refine ⟨k+1,by omega,by go_num,Es.out,Lh fun j hj=>?_⟩;by_cases e:j < k
     · exact HE.out j e
     ·
      obtain rfl:j=k:=by omega
      rw [HX.out];exact BZ.out
    case measure=>simp [intOf];omega
   ·
    have BZ:=Lh e1;rw [e1];clear e1;go_wp2_with fail;go_ret;exact .inr ⟨k,hlt,by rw [HX.out,BZ.out];omega,rfl,HWr.out⟩
  ·
   obtain rfl:k=n:=by omega
   have HWr:=Lh hwr;clear hwr;go_wp2_with fail;go_ret;exact .inl ⟨HE.out,rfl,HWr.out⟩
structure uG (X w':World) (g:Nat):Prop where
 dx:∀ B w0,Below B w0 X->B<=g->Below B w0 w'
 blk:∀ i,i≠g->w'.heap[i]? =X.heap[i]?
theorem uG.refl (X:World) (g:Nat):uG X X g:=⟨fun _ _ h _=>h,fun _ _=>rfl⟩
theorem uG.set (h:uG X w' g) (o:Nat) (x:Value):uG X (w'.setCell ⟨g,o,none⟩ x) g :=
 ⟨fun B w0 hb hg=>(h.dx B w0 hb hg).setCell hg x,fun i hi=>(heap_setCell_other w' ⟨g,o,none⟩ i x hi).trans (h.blk i hi)⟩
theorem uG.at {i:Nat} (h:uG X w' g) (hi:i≠g) {n t s:Int} {v:Value} (a:Tt.At X i n t s v):Tt.At w' i n t s v:=(h.blk i hi).trans a
theorem uG.block {i:Nat} (h:uG X w' g) (hi:i≠g) {M:List Pt.T} (a:Pt.Block X i M):Pt.Block w' i M:=(h.blk i hi).trans a
theorem turn3 (X:World) (h vb:Nat) (a b c:Int) (v:Value) (hA:Tt.At X h a b c v) (hP:X.heap[vb]? =some (.cells #[.pointer (some ⟨h,0,none⟩),.pointer (some ⟨h,1,none⟩),.pointer (some ⟨h,2,none⟩)] 222 (0,0))) (hne:vb≠h) (ha:Fit a) (hb:Fit b) (hc:Fit c) :
  Calls Tryz.prog 157 #[.slice (some ⟨vb,0,none⟩) 3 3] X fun e w'=>uG X w' h/\((Mn.err (-a)=0/\Mn.err (-b)=0/\Mn.err (-c)=0/\e=.returned (.int .i64 0)/\Tt.At w' h (-a) (-b) (-c) v)\/((Mn.err (-a)≠0\/Mn.err (-b)≠0\/Mn.err (-c)≠0)/\e=.returned (.int .i64 7))):=by
 have hA1:=hA.set0 (-a);have hA2:=hA1.set1 (-b);have hA3:=hA2.set2 (-c);have uT:=(uG.refl X h).set 0 (.int .i64 (-a));have pV:=uT.set 1 (.int .i64 (-b));have QU:=pV.set 2 (.int .i64 (-c));obtain ⟨X1,hX1⟩:∃ X1,X.setCell ⟨h,0,none⟩ (.int .i64 (-a))=X1:=⟨_,rfl⟩;rw [hX1] at hA1 hA2 hA3 uT pV QU;obtain ⟨X2,hX2⟩:∃ X2,X1.setCell ⟨h,1,none⟩ (.int .i64 (-b))=X2:=⟨_,rfl⟩;rw [hX2] at hA2 hA3 pV QU;obtain ⟨X3,hX3⟩:∃ X3,X2.setCell ⟨h,2,none⟩ (.int .i64 (-c))=X3:=⟨_,rfl⟩;rw [hX3] at hA3 QU;have hP1:=(uT.blk vb hne).trans hP;have hP2:=(pV.blk vb hne).trans hP;refine (Gi vb h 3 (fun k=>k) (fun k=>[a,b,c].getD k 0) (fun k=>[X,X1,X2,X3].getD k X3) (Nat.le_refl _) ?_ ?_ ?_ ?_ ?_).mono ?_
 ·
  intro k hk
  match k,hk with
  | 0,_=>exact (cell_of_row X vb _ _ _ _ hP).trans rfl
  | 1,_=>exact (cell_of_row X1 vb _ _ _ _ hP1).trans rfl
  | 2,_=>exact (cell_of_row X2 vb _ _ _ _ hP2).trans rfl
 ·
  intro k hk
  match k,hk with
  | 0,_=>exact hA.cells.1
  | 1,_=>exact hA1.cells.2.1
  | 2,_=>exact hA2.cells.2.2.1
 ·
  intro k hk
  match k,hk with
  | 0,_=>exact hA.frozen 0
  | 1,_=>exact hA1.frozen 1
  | 2,_=>exact hA2.frozen 2
 ·
  intro k hk
  match k,hk with
  | 0,_=>exact hX1
  | 1,_=>exact hX2
  | 2,_=>exact hX3
 ·
  intro k hk
  match k,hk with
  | 0,_=>exact ha
  | 1,_=>exact hb
  | 2,_=>exact hc
 ·
  rintro e w' (⟨h1,h2,h3⟩ | ⟨k,hk,h1,h2,h3⟩)
  ·
   subst h3;exact ⟨QU,.inl ⟨h1 0 (by omega),h1 1 (by omega),h1 2 (by omega),h2,hA3⟩⟩
  ·
   match k,hk with
   | 0,_=>exact ⟨h3▸uG.refl X h,.inr ⟨.inl h1,h2⟩⟩
   | 1,_=>exact ⟨h3▸uT,.inr ⟨.inr (.inl h1),h2⟩⟩
   | 2,_=>exact ⟨h3▸pV,.inr ⟨.inr (.inr h1),h2⟩⟩
theorem turn2 (X:World) (g vb k:Nat) (M:List Pt.T) (r:Pt.T) (hk:k < M.length) (hr:M[k]=r) (hB:Pt.Block X g M) (hP:X.heap[vb]? =some (.cells #[.pointer (some ⟨g,k*4+2,none⟩),.pointer (some ⟨g,k*4+3,none⟩)] 222 (0,0))) (hne:vb≠g) (ha:Fit r.net) (hb:Fit r.aP) :
  Calls Tryz.prog 157 #[.slice (some ⟨vb,0,none⟩) 2 2] X fun e w'=>uG X w' g/\((Iv.wC r=false/\e=.returned (.int .i64 0)/\Pt.Block w' g (M.set k (Iv.yT r)))\/(Iv.wC r=true/\e=.returned (.int .i64 7))):=by
 have hB1:=hB.put k 2 hk (by omega) (.int .i64 (-r.net)) ⟨r.cat,r.bp,-r.net,r.aP⟩ (by rw [hr];rfl);have hk1:k < (M.set k ⟨r.cat,r.bp,-r.net,r.aP⟩).length:=by rw [List.length_set];exact hk
 have hr1:(M.set k ⟨r.cat,r.bp,-r.net,r.aP⟩)[k]=⟨r.cat,r.bp,-r.net,r.aP⟩:=List.getElem_set_self ..;have hB2:=hB1.put k 3 hk1 (by omega) (.int .i64 (-r.aP)) (Iv.yT r) (by rw [hr1];rfl);rw [List.set_set] at hB2;have uT:=(uG.refl X g).set (k*4+2) (.int .i64 (-r.net));have pV:=uT.set (k*4+3) (.int .i64 (-r.aP));obtain ⟨X1,hX1⟩:∃ X1,X.setCell ⟨g,k*4+2,none⟩ (.int .i64 (-r.net))=X1:=⟨_,rfl⟩;rw [hX1] at hB1 hB2 uT pV;obtain ⟨X2,hX2⟩:∃ X2,X1.setCell ⟨g,k*4+3,none⟩ (.int .i64 (-r.aP))=X2:=⟨_,rfl⟩;rw [hX2] at hB2 pV;have hP1:=(uT.blk vb hne).trans hP;have Lc:=hB.row k hk;have XF:=hB1.row k hk1;rw [hr] at Lc;rw [hr1] at XF;refine (Gi vb g 2 (fun j=>k*4+2+j) (fun j=>[r.net,r.aP].getD j 0) (fun j=>[X,X1,X2].getD j X2) (by omega) ?_ ?_ ?_ ?_ ?_).mono ?_
 ·
  intro j hj
  match j,hj with
  | 0,_=>exact (cell_of_row X vb _ _ _ _ hP).trans rfl
  | 1,_=>exact (cell_of_row X1 vb _ _ _ _ hP1).trans rfl
 ·
  intro j hj
  match j,hj with
  | 0,_=>exact Lc.3
  | 1,_=>exact XF.4
 ·
  intro j hj
  match j,hj with
  | 0,_=>exact hB.frozen _
  | 1,_=>exact hB1.frozen _
 ·
  intro j hj
  match j,hj with
  | 0,_=>exact hX1
  | 1,_=>exact hX2
 ·
  intro j hj
  match j,hj with
  | 0,_=>exact ha
  | 1,_=>exact hb
 ·
  rintro e w' (⟨h1,h2,h3⟩ | ⟨j,hj,h1,h2,h3⟩)
  ·
   subst h3;exact ⟨pV,.inl ⟨Iv.Iy (h1 0 (by omega)) (h1 1 (by omega)),h2,hB2⟩⟩
  ·
   match j,hj with
   | 0,_=>exact ⟨h3▸uG.refl X g,.inr ⟨Iv.u7 (.inl h1),h2⟩⟩
   | 1,_=>exact ⟨h3▸uT,.inr ⟨Iv.u7 (.inr h1),h2⟩⟩
def Iv.Aa (ps:List Pt.T) (k:Nat):List Pt.T:=(ps.take k).map Iv.yT++ps.drop k
theorem Iv.Gj (ps:List Pt.T) (k:Nat):(Iv.Aa ps k).length=ps.length:=by
 unfold Iv.Aa;rw [List.length_append,List.length_map,List.length_take,List.length_drop];omega
theorem Iv.Vz (ps : List Pt.T) (k : Nat) (h : k < ps.length) : (Iv.Aa ps k)[k]'(by rw [Iv.Gj]; exact h) = ps[k] := by
 have h1:(Iv.Aa ps k)[k]? =some ps[k]:=by
  unfold Iv.Aa;rw [List.getElem?_append_right (by rw [List.length_map,List.length_take];omega),List.length_map,List.length_take,Nat.min_eq_left (by omega),Nat.sub_self,List.getElem?_drop,Nat.add_zero,List.getElem?_eq_getElem h]
 exact Option.some.inj ((List.getElem?_eq_getElem _).symm.trans h1)
theorem Iv.RQ (ps:List Pt.T) (k:Nat) (h:k < ps.length):(Iv.Aa ps k).set k (Iv.yT ps[k])=Iv.Aa ps (k+1):=by
 unfold Iv.Aa;rw [List.set_append_right _ _ (by rw [List.length_map,List.length_take];omega),List.length_map,List.length_take,Nat.min_eq_left (by omega),Nat.sub_self,List.drop_eq_getElem_cons h,List.set_cons_zero,List.take_succ_eq_append_getElem h,List.map_append]
 simp
structure YU (w wr:World) (h g n:Nat) (t:Iv.iD) (k:Nat):Prop where
 hw:w.heap.size=h
 lo:h+2<=g
 dx:Below w.heap.size w wr
 tot:Tt.At wr h (-t.net) (-t.aP) (-t.au) (.slice (some ⟨g,0,none⟩) n n)
 res:Tt.At wr (h+1) 0 0 0 (.slice none 0 0)
 blk:Pt.Block wr g (Iv.Aa t.parts k)
 ok:∀ r∈t.parts.take k,Iv.wC r=false
theorem YU.below {w wr v:World} {h g n k:Nat} {t:Iv.iD} (H:YU w wr h g n t k) (b:Below wr.heap.size wr v):YU w v h g n t k :=
 ⟨H.hw,H.lo,aj H.dx b,H.tot.below b,H.res.below b,H.blk.below b,H.ok⟩
theorem Gl (t:Iv.iD) (ao:Option Addr) (p cap:Nat) (w:World) (hL:Pt.Ls w ao p cap t.parts) (hn:Fit t.net) (ht:Fit t.aP) (hg:Fit t.au) (hp:p<=1000) :
  Calls Tryz.prog 120 #[Tt.val t.net t.aP t.au (.slice ao p cap)] w (Tt.UU w (Iv.dQ t) (Iv.mW t)):=by
 have HL:=Lh hL;have lC:=Lh hL.len;have HF:=Lh (And.intro hn (And.intro ht hg));clear hL hn ht hg;have hb1:=Tt.aC w t.net t.aP t.au (.slice ao p cap);have hb2:=Tt.aC (Tt.box w t.net t.aP t.au (.slice ao p cap)) 0 0 0 (.slice none 0 0);have h1:=(Tt.dY w t.net t.aP t.au (.slice ao p cap)).below hb2;have h2:=Tt.dY (Tt.box w t.net t.aP t.au (.slice ao p cap)) 0 0 0 (.slice none 0 0);rw [Tt.dh] at h2;obtain ⟨U,hU⟩:∃ U,Tt.box (Tt.box w t.net t.aP t.au (.slice ao p cap)) 0 0 0 (.slice none 0 0)=U:=⟨_,rfl⟩;rw [hU] at h1 h2 hb2;have HB:=Lh (aj hb1 hb2);have HA1:=Lh h1;have HA2:=Lh h2;have iB:Hid ((w.alloc (.cells #[.int .i64 t.net,.int .i64 t.aP,.int .i64 t.au,.slice ao p cap] 102)).alloc (.cells #[.int .i64 0,.int .i64 0,.int .i64 0,.slice none 0 0] 102)=U):=Lh hU;obtain ⟨h,hh⟩:∃ h,w.heap.size=h:=⟨_,rfl⟩;have O5:=Lh hh;rw [hh] at HA1 HA2;clear hb1 hb2 h1 h2 hU;unfold Tt.val;go_enter Tryz.func120,Tryz.ntmps120;go_wp2_with fail;rw [iB.out];clear iB hh;refine (ND t.parts ao p cap _ (HL.out.below HB.out) hp).mono ?_;rintro e w1 ⟨rfl,hB1,b1⟩;obtain ⟨g,hgU⟩:∃ g,U.heap.size=g:=⟨_,rfl⟩;rw [hgU] at hB1;rw [hgU];have HGl:Hid (h+2<=g):=Lh (by have:=HA2.out.lt;omega);have VA:=Lh (HA1.out.below b1);have Es:Hid (Tt.At (w1.setCell ⟨h,3,none⟩ (.slice (some ⟨g,0,none⟩) p p)) h t.net t.aP t.au (.slice (some ⟨g,0,none⟩) p p)):=Lh (VA.out.UR _);have HS2:Hid (Tt.At (w1.setCell ⟨h,3,none⟩ (.slice (some ⟨g,0,none⟩) p p)) (h+1) 0 0 0 (.slice none 0 0)):=Lh ((HA2.out.below b1).far (by omega) _ _);have Uc:Hid (Pt.Block (w1.setCell ⟨h,3,none⟩ (.slice (some ⟨g,0,none⟩) p p)) g t.parts):=Lh (hB1.far (by have:=HGl.out;omega) _ _);have KW:Hid (Below w.heap.size w (w1.setCell ⟨h,3,none⟩ (.slice (some ⟨g,0,none⟩) p p))):=Lh (bU (aj HB.out b1) (by have:=O5.out;omega) _ _);obtain ⟨t0,t1,t2,t3⟩:=VA.out.cells;have f3:=VA.out.frozen 3;obtain ⟨V,hV⟩:∃ V,w1.setCell ⟨h,3,none⟩ (.slice (some ⟨g,0,none⟩) p p)=V:=⟨_,rfl⟩;rw [hV] at Es HS2 Uc KW;clear hB1 b1 hgU HA1 HA2 VA HB;go_wp2_with fail;clear t0 t1 t2 t3 f3 hV;have hbv:Below V.heap.size V (V.alloc (.cells #[.pointer (some ⟨h,0,none⟩),.pointer (some ⟨h,1,none⟩),.pointer (some ⟨h,2,none⟩)] 222)):=(Below.refl _ _).alloc (Nat.le_refl _) _;refine (turn3 _ h V.heap.size t.net t.aP t.au _ (Es.out.below hbv) (heap_alloc_new V _) (Nat.ne_of_gt Es.out.lt) HF.out.1 HF.out.2.1 HF.out.2.2).mono ?_;rintro e w2 ⟨pV,hcase⟩;have uM:Hid (Below w.heap.size w w2/\Tt.At w2 (h+1) 0 0 0 (.slice none 0 0)/\Pt.Block w2 g t.parts):=Lh ⟨pV.dx _ _ (aj KW.out hbv) (by rw [O5.out];exact Nat.le_refl _),pV.at (by omega) (HS2.out.below hbv),pV.block (by have:=HGl.out;omega) (Uc.out.below hbv)⟩;clear pV hbv Es HS2 Uc KW;rcases hcase with ⟨e1,e2,e3,rfl,hA⟩ | ⟨hbad,rfl⟩
 ·
  have HE:=Lh (And.intro e1 (And.intro e2 e3));have HK:Hid (YU w w2 h g p t 0):=Lh ⟨O5.out,HGl.out,uM.out.1,hA,uM.out.2.1,uM.out.2.2,by simp⟩;clear e1 e2 e3 hA uM;obtain ⟨t0,t1,t2,t3⟩:=HK.out.tot.cells;go_wp2_with fail;clear t0 t1 t2 t3
  go_loopw [5,6,23] (fun _ _ i wr=>∃ k:Nat,k<=p/\i=.int .i64 k/\Hid (YU w wr h g p t k)) (fun _ _ i _=>p - (intOf i).toNat)
  case atStart=>exact ⟨0,by omega,rfl,HK⟩
  case round =>
   clear HK;rename World=>wz
   obtain ⟨k,hk,rfl,H⟩:=hrel;by_cases hlt:k < p
   ·
    have hkp:k < t.parts.length:=lC.out▸hlt;have hkm:k < (Iv.Aa t.parts k).length:=by rw [Iv.Gj];exact hkp
    have hrk:=Iv.Vz t.parts k hkp;have bX:=Lh (Iv.RQ t.parts k hkp);have p9:=Lh (List.take_succ_eq_append_getElem hkp);have bT:=Lh (HL.out.short _ (List.getElem_mem hkp));have HMm:Hid (t.parts[k]∈t.parts):=Lh (List.getElem_mem hkp);obtain ⟨r,hr⟩:∃ r,t.parts[k]=r:=⟨_,rfl⟩;rw [hr] at hrk bX p9 bT HMm;have NG:=Lh hrk;clear hr hrk;obtain ⟨t0,t1,t2,t3⟩:=H.out.tot.cells
    have HTn:Hid (∀ X,Below wz.heap.size wz X->X.heap[wz.heap.size]? =some (.cells #[.pointer (some ⟨g,k*4+2,none⟩),.pointer (some ⟨g,k*4+3,none⟩)] 222 (0,0))->Calls Tryz.prog 157 #[.slice (some ⟨wz.heap.size,0,none⟩) 2 2] X fun e w'=>∃ E:Int,e=.returned (.int .i64 E)/\((E=0/\YU w w' h g p t (k+1))\/(E=7/\Iv.wC r=true/\Below w.heap.size w w'/\Tt.At w' (h+1) 0 0 0 (.slice none 0 0)))):=Lh fun X hX ho=>by
     have H1:=H.out.below hX;have lo:=H1.lo;refine (turn2 _ g wz.heap.size k _ r hkm NG.out H1.blk ho (Nat.ne_of_gt H.out.blk.lt) bT.out.2.2.1 bT.out.2.2.2).mono ?_;rintro e w' ⟨hUp,⟨hb,he,hB⟩ | ⟨hb,he⟩⟩
     ·
      refine ⟨0,he,.inl ⟨rfl,H1.hw,H1.lo,hUp.dx _ _ H1.dx (by have:=H1.hw;omega),hUp.at (by omega) H1.tot,hUp.at (by omega) H1.res,by rw [<- bX.out];exact hB,?_⟩⟩;rw [p9.out];intro x hx;rcases List.mem_append.1 hx with hx | hx
      · exact H1.ok x hx
      ·
       obtain rfl:=List.mem_singleton.1 hx;exact hb
     · exact ⟨7,he,.inr ⟨rfl,hb,hUp.dx _ _ H1.dx (by have:=H1.hw;omega),hUp.at (by omega) H1.res⟩⟩
    clear bX p9 NG;have hkp1:k<=1000:=by omega
    go_wp2_with fail
    go_cut [6] (fun e wx=>∃ E:Int,e=.int .i64 E/\Hid ((E=0/\YU w wx h g p t (k+1))\/(E=7/\Iv.wC r=true/\Below w.heap.size w wx/\Tt.At wx (h+1) 0 0 0 (.slice none 0 0))))
    case first =>
     go_region_with (go_at_call 157;refine (HTn.out _ (by first | exact (Below.refl _ _).alloc (Nat.le_refl _) _ | exact ((Below.refl _ _).alloc (Nat.le_refl _) _).drew) (by first | exact heap_alloc_new wz _)).mono ?_;rintro e u ⟨E,rfl,hcs⟩;have XG:=Lh hcs;clear hcs)
     all_goals (try go_wp2_with fail)
     all_goals go_meet
     all_goals exact ⟨_,rfl,XG⟩
    case rest =>
     clear HTn H t0 t1 t2 t3;obtain ⟨E,rfl,XG⟩:=hcut;rcases XG.out with ⟨rfl,hK⟩ | ⟨rfl,hbd⟩
     ·
      have H:=Lh hK;clear hK;go_wp2_with fail;go_roundw
      case rel=>exact ⟨k+1,by omega,by go_num,H⟩
      case measure=>simp [intOf];omega
     ·
      have H:=Lh hbd;clear hbd;have HP:=Lh (Iv.Mg HE.out.1 HE.out.2.1 HE.out.2.2 HMm.out H.out.1);obtain ⟨z0,z1,z2,z3⟩:=H.out.2.2.cells;have f0:=H.out.2.2.frozen 0;have f1:=H.out.2.2.frozen 1;have f2:=H.out.2.2.frozen 2;have f3:=H.out.2.2.frozen 3;go_wp2_with fail;exact bodyPost_ret (v:=.tuple #[Tt.val 0 0 0 (.slice none 0 0),.int .i64 7]) (by simp [results,Tt.val,Tryz.results120,go_sem,z0,z1,z2,z3]) rfl ⟨_,by rw [HP.out.1,HP.out.2];rfl,by rw [HP.out.2];exact Pt.aN _ _,bU (bU (bU (bU H.out.2.1 (by have:=O5.out;omega) _ _) (by have:=O5.out;omega) _ _) (by have:=O5.out;omega) _ _) (by have:=O5.out;omega) _ _⟩
   ·
    obtain rfl:k=p:=by omega
    have p9:Hid (t.parts.take k=t.parts):=Lh (List.take_of_length_le (by rw [lC.out];exact Nat.le_refl _));have HP:=Lh (Iv.UC HE.out.1 HE.out.2.1 HE.out.2.2 (fun x hx=>H.out.ok x (by rw [p9.out];exact hx)));obtain ⟨t0,t1,t2,t3⟩:=H.out.tot.cells;obtain ⟨z0,z1,z2,z3⟩:=H.out.res.cells;have f0:=H.out.res.frozen 0;have f1:=H.out.res.frozen 1;have f2:=H.out.res.frozen 2;have f3:=H.out.res.frozen 3;have ji:=Lh (And.intro H.out.dx (And.intro H.out.hw H.out.lo))
    have gV:Hid (Pt.Block wz g (t.parts.map Iv.yT)):=Lh (by
     have hb:=H.out.blk;unfold Iv.Aa at hb;rw [p9.out,List.drop_eq_nil_of_le (Nat.le_of_eq lC.out.symm),List.append_nil] at hb;exact hb)
    go_wp2_with fail;refine bodyPost_ret (v:=.tuple #[Tt.val (-t.net) (-t.aP) (-t.au) (.slice (some ⟨g,0,none⟩) k k),.int .i64 0]) (by simp [results,Tt.val,Tryz.results120,go_sem,z0,z1,z2,z3]) rfl ⟨.slice (some ⟨g,0,none⟩) k k,by rw [HP.out.1,HP.out.2];rfl,?_,bU (bU (bU (bU ji.out.1 (by have:=ji.out.2;omega) _ _) (by have:=ji.out.2;omega) _ _) (by have:=ji.out.2;omega) _ _) (by have:=ji.out.2;omega) _ _⟩;rw [HP.out.2];have hlo:=ji.out.2.2;have hb:Pt.Block _ g (t.parts.map Iv.yT):=((((gV.out.far (b:=h+1) (by omega) 0 (.int .i64 (-t.net))).far (b:=h+1) (by omega) 1 (.int .i64 (-t.aP))).far (b:=h+1) (by omega) 2 (.int .i64 (-t.au))).far (b:=h+1) (by omega) 3 (.slice (some ⟨g,0,none⟩) k k));have ho:Pt.Own _ w.heap.size (.slice (some ⟨g,0,none⟩) k k) (t.parts.map Iv.yT):=Pt.fG hb (by have:=ji.out.2;omega) (by rw [List.length_map];exact lC.out) (by omega);exact ho
 ·
  have HP:=Lh (Iv.Mf (t:=t) hbad);clear hbad;obtain ⟨z0,z1,z2,z3⟩:=uM.out.2.1.cells;have f0:=uM.out.2.1.frozen 0;have f1:=uM.out.2.1.frozen 1;have f2:=uM.out.2.1.frozen 2;have f3:=uM.out.2.1.frozen 3;go_wp2_with fail;exact bodyPost_ret (v:=.tuple #[Tt.val 0 0 0 (.slice none 0 0),.int .i64 7]) (by simp [results,Tt.val,Tryz.results120,go_sem,z0,z1,z2,z3]) rfl ⟨_,by rw [HP.out.1,HP.out.2];rfl,by rw [HP.out.2];exact Pt.aN _ _,bU (bU (bU (bU uM.out.1 (by have:=O5.out;omega) _ _) (by have:=O5.out;omega) _ _) (by have:=O5.out;omega) _ _) (by have:=O5.out;omega) _ _⟩
open Go.Sort (grow)
def Pd.marked (r:Pd.T):Pd.T:=⟨r.av,r.num,r.y,r.m,r.d,r.net,r.aP,r.au,r.parts,r.bf,r.aY,true⟩
theorem Bl.Each.mark {w:World} {rs:List Pd.T} {ps:List Bl.Ps} (h:Bl.Each w rs ps) (k:Nat) (hk:k < rs.length):Bl.Each w (rs.set k (Pd.marked rs[k])) (Bl.mark ps k):=by
 have hl:(rs.set k (Pd.marked rs[k])).length=(Bl.mark ps k).length:=by rw [List.length_set,Bl.nO];exact h.len
 refine ⟨hl,fun i hi=>?_⟩;have hi':i < rs.length:=by rw [List.length_set] at hi;exact hi
 have hx:=h.each i hi';rw [Bl.nP ps k i (h.len▸hi')];rw [List.getElem_set];by_cases q:k=i
 ·
  subst q;rw [if_pos rfl,if_pos rfl];exact ⟨hx.av,hx.num,hx.y,hx.m,hx.d,hx.net,hx.aP,hx.au,hx.parts,hx.bf,hx.aY,rfl⟩
 ·
  rw [if_neg q,if_neg q];exact hx
theorem RS (P:Nat->Prop) (s:Bl.St) (h:Bl.Sv) (k:Nat) (w:World) (hL:Bl.Lp P w h s) (hk:k < s.post.length) (hn:h.post.n<=1000) :
  Calls Tryz.prog 137 #[h.val,.int .i64 k] w (Bl.K8 P w ⟨s.tab,s.av,Bl.mark s.post k,s.book,s.ak,s.next⟩):=by
 have HL:=Lh hL;obtain ⟨rs,hP,hE,hpi⟩:=hL.post;have YV:=Lh hpi;have hpl:=hP.len;have hel:=hE.len;have hkn:k < h.post.n:=by omega
 have hkr:k < rs.length:=by omega
 have hcap:=hP.reach;have hfit:=hP.fits;have yB:=Lh hP;have HEs:=Lh hE;obtain ⟨U,hU,hB,k0,k1,hs⟩:=Bl.U7 w (.cells #[.slice h.tab.ao h.tab.n h.tab.cap,.slice h.av.ao h.av.n h.av.cap,.slice h.post.ao h.post.n h.post.cap,.slice h.book.ao h.book.n h.book.cap,.slice h.ak.ao h.ak.n h.ak.cap,.int .i64 h.next] 30) (.cells #[.slice none 0 0,.slice none 0 0,.slice none 0 0,.slice none 0 0,.slice none 0 0,.int .i64 0] 30);have hA:Bl.At U w.heap.size h:=k0;have hZ:Bl.At U (w.heap.size+1) Bl.iy:=k1;have hmk:=Pd.make h.post.n (by omega);have eD:=Pd.aZ U h.post.n;have hbel0:Below U.heap.size U (U.alloc (.cells (Pd.zeros h.post.n) 104)):=(Below.refl _ _).alloc (Nat.le_refl _) _;obtain ⟨W1,hcp,hblk,hbel,hsz⟩:=Pd.copy (U.alloc (.cells (Pd.zeros h.post.n) 104)) U.heap.size [] h.post.n h.post.ao h.post.n h.post.cap rs (by rw [List.append_nil];exact eD) hP.len ((hP.below (aj hB hbel0)).seg);rw [List.length_nil,Nat.add_zero] at hcp;rw [List.append_nil] at hblk;have hb1:=hbel _ _ hbel0 (Nat.le_refl _);have hO:=Pd.fG hblk (Nat.le_refl _) hP.len (by omega);have hA0:=hA.below hbel0;have hA1:=hA.below hb1;have hrow:=hblk.row k hkr;have c11:=hrow.c11;have z11:=hblk.frozen (k*12+11);have hO2:=Pd.jo hO k 11 hkr (by omega) (.bool true) (Pd.marked rs[k]) rfl;obtain ⟨X,hX⟩:∃ X,W1.setCell ⟨U.heap.size,k*12+11,none⟩ (.bool true)=X:=⟨_,rfl⟩;have hb2:Below U.heap.size U X:=hX▸bU hb1 (Nat.le_refl _) _ _;rw [hX] at hO2;have hA2:=hA.below hb2;have hZ2:=hZ.below hb2;have zf:=hA2.frozen 2;have hA3:Bl.At (X.setCell ⟨w.heap.size,2,none⟩ (.slice (some ⟨U.heap.size,0,none⟩) h.post.n h.post.n)) w.heap.size ⟨h.tab,h.av,⟨some ⟨U.heap.size,0,none⟩,h.post.n,h.post.n⟩,h.book,h.ak,h.next⟩:=(Bl.bY hA2 2 _).trans rfl;have hZ3:=hZ2.away (b:=w.heap.size) (by omega) 2 (.slice (some ⟨U.heap.size,0,none⟩) h.post.n h.post.n);obtain ⟨x0,x1,x2,x3,x4,x5⟩:=hA.cells;obtain ⟨t0,t1,t2,t3,t4,t5⟩:=hA0.cells;obtain ⟨y0,y1,y2,y3,y4,y5⟩:=hA1.cells;obtain ⟨u0,u1,u2,u3,u4,u5⟩:=hA2.cells;have HB:=Lh hB;have HB2:=Lh hb2;have lX:=Lh hO2;have HZ3:=Lh hZ3;have HS:=Lh hs;have HK:=Lh hkr;have XH:=Lh hpl;clear k0 k1 hL hP hE hpi hA hA0 hA1 hA2 hZ hZ2 hO hO2 hb1 hb2 hbel hbel0 eD hblk hB hrow hsz hs hpl hel;unfold Bl.Sv.val Bl.sl;go_enter Tryz.func137,Tryz.ntmps137;go_wp2_with (first | ((with_reducible apply Bl.aI hA3);rfl;rfl;rfl)|((with_reducible apply Bl.aU (h:=⟨h.tab,h.av,⟨some ⟨U.heap.size,0,none⟩,h.post.n,h.post.n⟩,h.book,h.ak,h.next⟩) hZ3);rfl;rfl;rfl;rfl));have b:Below w.heap.size w (Bl.lay (X.setCell ⟨w.heap.size,2,none⟩ (.slice (some ⟨U.heap.size,0,none⟩) h.post.n h.post.n)) (w.heap.size+1) ⟨h.tab,h.av,⟨some ⟨U.heap.size,0,none⟩,h.post.n,h.post.n⟩,h.book,h.ak,h.next⟩):=Bl.dM (bU (aj HB.out HB2.out) (Nat.le_refl _) _ _) (by omega) _;refine bodyPost_ret (Bl.kZ Tryz.results137 rfl (HZ3.out.lay _)) rfl ⟨_,rfl,?_,b⟩;have hl:=(HL.out.below b).wide w;have hk2:=(Kp.set (A:=U.heap.size) (g:=w.heap.size) X (by have:=HS.out;omega) 2 (.slice (some ⟨U.heap.size,0,none⟩) h.post.n h.post.n)).trans (Bl.Dv _ (g:=w.heap.size+1) (by have:=HS.out;omega) ⟨h.tab,h.av,⟨some ⟨U.heap.size,0,none⟩,h.post.n,h.post.n⟩,h.book,h.ak,h.next⟩)
 have hsh : ∀ r ∈ rs.set k (Pd.marked (rs[k]'HK.out)),Pd.Short r := by
  intro r hr;rcases List.mem_or_eq_of_mem_set hr with hr | rfl
  · exact yB.out.short r hr
  · exact (show Pd.Short (rs[k]'HK.out) from yB.out.short _ (List.getElem_mem HK.out))
 obtain ⟨mO,cap2,e2,l2,i2⟩:=Pd.aX lX.out hsh;rw [List.length_set,<- XH.out] at e2 l2;simp only [Value.slice.injEq] at e2;obtain ⟨rfl,_,rfl⟩:=e2;have l3:=l2.kp (dZ i2) hk2;refine ⟨hl.tab,hl.av,⟨_,l3,(HEs.out.below b).mark k HK.out,?_⟩,hl.book,hl.ak,hl.next,hl.fit,hl.jf,hl.pY,(dZ i2).nw P (by have:=HS.out;omega),hl.jg,hl.eY⟩;intro x hx;rcases List.mem_or_eq_of_mem_set hx with hx | rfl
 · exact (YV.out x hx).mono fun _ q=>.inl q
 · exact (show kQ P (rs[k]'HK.out).parts.ao (rs[k]'HK.out).parts.n from YV.out _ (List.getElem_mem HK.out)).mono fun _ q => .inl q
theorem wP:ByteArray.empty.toList=[]:=by decide +kernel
theorem Tt.Li:(Tryz.prog.info? 102).map (·.size)=some 4:=by kernel_rfl
theorem Tt.ret {fn:Func} {p q:Tmp} (hf:fn.results=#[.cell p 102,.tmp q]) {tmps:Array Value} {w:World} {g:Nat} {N X G E:Int} {v:Value} (hp:tmps.getD p undef=.pointer (some ⟨g,0,none⟩)) (hq:tmps.getD q undef=.int .i64 E) (hA:Tt.At w g N X G v):(results fn tmps).run Tryz.prog w=.ok (.tuple #[Tt.val N X G v,.int .i64 E]) w:=by
 have hp':tmps[p]?.getD undef=.pointer (some ⟨g,0,none⟩):=by simpa using hp
 have hq':tmps[q]?.getD undef=.int .i64 E:=by simpa using hq
 have e1:=run_loadVar_row (P:=Tryz.prog) w g 102 102 #[.int .i64 N,.int .i64 X,.int .i64 G,v] (0,0) _ hA Tryz.underlying102 rfl (by rw [Tt.Li];rfl);simp [results,hf,hp',hq',asAddr,e1];rfl
theorem Cc {w0 u:World} (h:Below w0.heap.size w0 u) (hg:w0.heap.size<=g) (x0 x1 x2 x3:Value):Below w0.heap.size w0 ((((u.setCell ⟨g,0,none⟩ x0).setCell ⟨g,1,none⟩ x1).setCell ⟨g,2,none⟩ x2).setCell ⟨g,3,none⟩ x3):=bU (bU (bU (bU h hg _ _) hg _ _) hg _ _) hg _ _
theorem Pt.vM {M:List Pt.T} (h:Pt.Own w B v M) {b:Nat} (hne:b < B) (o:Nat) (x:Value):Pt.Own (w.setCell ⟨b,o,none⟩ x) B v M:=by
 obtain ⟨h1,h2⟩:=h;refine ⟨h1,?_⟩;rcases h2 with h2 | ⟨g,cap,cur,h',hb,hg,h3⟩
 · exact .inl h2
 · exact .inr ⟨g,cap,cur,h',hb,by rw [heap_setCell_other w ⟨b,o,none⟩ g x (by show g≠b;omega)];exact hg,h3⟩
theorem Pt.RU {M:List Pt.T} (h:Pt.Own w B v M) {b:Nat} (hne:b < B) (x0 x1 x2 x3:Value):Pt.Own ((((w.setCell ⟨b,0,none⟩ x0).setCell ⟨b,1,none⟩ x1).setCell ⟨b,2,none⟩ x2).setCell ⟨b,3,none⟩ x3) B v M:=Pt.vM (Pt.vM (Pt.vM (Pt.vM h hne _ _) hne _ _) hne _ _) hne _ _
def Bl.fZ (p:Bl.Ps) (y m d:Int):Int:=if p.back=true\/ ¬ Bl.Own p then 12 else if Dt.aA y m d=false\/Dt.days y m d < Dt.days p.y p.m p.d then 9 else Iv.dQ p.tot
def Bl.iV (p:Bl.Ps) (y m d:Int):Iv.iD:=if Bl.fZ p y m d=0 then Iv.back p.tot else Iv.iD.zero
theorem Bl.uH {p:Bl.Ps} (h:p.back=true\/ ¬ Bl.Own p):Bl.fZ p y m d=12/\Bl.iV p y m d=Iv.iD.zero:=by
 have e:Bl.fZ p y m d=12:=if_pos h;exact ⟨e,by unfold Bl.iV;rw [e];rfl⟩
theorem Bl.Gm {p:Bl.Ps} (h: ¬ (p.back=true\/ ¬ Bl.Own p)) (k:Dt.aA y m d=false\/Dt.days y m d < Dt.days p.y p.m p.d):Bl.fZ p y m d=9/\Bl.iV p y m d=Iv.iD.zero:=by
 have e:Bl.fZ p y m d=9:=by
  unfold Bl.fZ;rw [if_neg h,if_pos k]
 exact ⟨e,by unfold Bl.iV;rw [e];rfl⟩
theorem Bl.Lj {p:Bl.Ps} (h: ¬ (p.back=true\/ ¬ Bl.Own p)) (k: ¬ (Dt.aA y m d=false\/Dt.days y m d < Dt.days p.y p.m p.d)):Bl.fZ p y m d=Iv.dQ p.tot/\Bl.iV p y m d=Iv.mW p.tot:=by
 have e:Bl.fZ p y m d=Iv.dQ p.tot:=by
  unfold Bl.fZ;rw [if_neg h,if_neg k]
 exact ⟨e,by unfold Bl.iV Iv.mW;rw [e]⟩
theorem RV (r:Pd.T) (p:Bl.Ps) (y m d:Int) (w:World) (hI:Bl.AV w r p) (hS:Pd.Short r) (hy:Fit y) (hm:Fit m) (hd:Fit d) (hR:Dt.aA p.y p.m p.d=true) (hn:r.parts.n<=1000) :
  Calls Tryz.prog 136 #[Pd.val r,nG y m d] w (Tt.UU w (Bl.fZ p y m d) (Bl.iV p y m d)):=by
 have HI:=Lh hI;have HS:=Lh hS;have HF:=Lh (And.intro hy (And.intro hm hd));have HR:=Lh hR;have HN:=Lh hn;have ebk:=hI.back;have Et:=hI.bf;have Eu:=hI.aY;obtain ⟨U,hU,hB,k0,k1,k2,hs⟩:=Bl.al3 w (Pd.block r) (.cells #[.int .i64 y,.int .i64 m,.int .i64 d] 50) (.cells #[.int .i64 0,.int .i64 0,.int .i64 0,.slice none 0 0] 102)
 have hC:Pd.C U w.heap.size r:=by
  unfold Pd.C;have e:=fun k=>cell_of_row U w.heap.size k _ _ _ k0
  refine ⟨?_,?_,?_,?_,?_,?_,?_,?_,?_,?_,?_,?_⟩
  all_goals
   rw [e];rfl
 have hT:Tt.At U (w.heap.size+1+1) 0 0 0 (.slice none 0 0):=k2;have d0:U.cell? ⟨w.heap.size+1,0,none⟩=some (.int .i64 y):=by rw [cell_of_row U _ 0 _ _ _ k1];rfl
 have d1:U.cell? ⟨w.heap.size+1,1,none⟩=some (.int .i64 m):=by rw [cell_of_row U _ 1 _ _ _ k1];rfl
 have d2:U.cell? ⟨w.heap.size+1,2,none⟩=some (.int .i64 d):=by rw [cell_of_row U _ 2 _ _ _ k1];rfl
 have HC:=Lh hC;have HT:=Lh hT;have HB:=Lh hB;unfold Pd.C at hC;obtain ⟨a0,a1,a2,a3,a4,a5,a6,a7,a8,a9,uh,qb⟩:=hC;obtain ⟨t0,t1,t2,t3⟩:=hT.cells;have f0:=hT.frozen 0;have f1:=hT.frozen 1;have f2:=hT.frozen 2;have f3:=hT.frozen 3;clear hI hS hy hm hd hR hn k0 k1 k2 hs hT hB;unfold Pd.block at hU;unfold Pd.val nG;by_cases hb:r.back=true
 ·
  have HE:=Lh (Bl.uH (y:=y) (m:=m) (d:=d) (p:=p) (.inl (ebk▸hb)));rw [hb] at qb hU ⊢;clear hb ebk Et Eu;go_enter Tryz.func136,Tryz.ntmps136;go_wp2_with fail;exact bodyPost_ret (Tt.ret Tryz.results136 rfl rfl (HT.out.E8 0 0 0 (.slice none 0 0))) rfl ⟨_,by rw [HE.out.1,HE.out.2];rfl,by rw [HE.out.2];exact Pt.aN _ _,Cc HB.out (by omega) _ _ _ _⟩
 ·
  have hb':r.back=false:=by
   cases q:r.back
   · rfl
   · exact absurd q hb
  have hpb: ¬ p.back=true:=fun q=>hb (ebk.trans q)
  rw [hb'] at qb hU ⊢;clear hb hb';by_cases h1:r.bf=.empty
  ·
   have q1:(r.bf.toList==[])=true:=by rw [h1,wP];rfl
   by_cases h2:r.aY=0
   ·
    have q2:(r.aY==0)=true:=beq_iff_eq.2 h2;have Lb:Hid (¬ (p.back=true\/ ¬ Bl.Own p)):=Lh fun q=>q.elim hpb fun z=>z ⟨Et▸h1,Eu▸h2⟩
    clear hpb ebk Et Eu h1 h2;go_enter Tryz.func136,Tryz.ntmps136;go_wp2_with fail;clear hU;refine (fJ y m d U U (Below.refl _ _) HF.out.1 HF.out.2.1 HF.out.2.2).mono ?_;rintro e w1 ⟨rfl,b1⟩;have HB1:=Lh (aj HB.out b1);have HT1:=Lh (HT.out.below b1);have O1:=HC.out.below b1;have iA:=Lh O1;have e0:=((aD b1).1 _ _ (aH d0)).trans d0;have e1:=((aD b1).1 _ _ (aH d1)).trans d1;have e2:=((aD b1).1 _ _ (aH d2)).trans d2;unfold Pd.C at O1;clear a0 a1 a2 a3 a4 a5 a6 a7 a8 a9 uh qb d0 d1 d2 t0 t1 t2 t3 f0 f1 f2 f3 b1;obtain ⟨a0,a1,a2,a3,a4,a5,a6,a7,a8,a9,uh,qb⟩:=O1;obtain ⟨t0,t1,t2,t3⟩:=HT1.out.cells;have f0:=HT1.out.frozen 0;have f1:=HT1.out.frozen 1;have f2:=HT1.out.frozen 2;have f3:=HT1.out.frozen 3;cases hr:Dt.aA y m d
    ·
     have HE:=Lh (Bl.Gm Lb.out (.inl hr));clear hr;go_wp2_with fail;exact bodyPost_ret (Tt.ret Tryz.results136 rfl rfl (HT1.out.E8 0 0 0 (.slice none 0 0))) rfl ⟨_,by rw [HE.out.1,HE.out.2];rfl,by rw [HE.out.2];exact Pt.aN _ _,Cc HB1.out (by omega) _ _ _ _⟩
    ·
     have Ab:=Lh hr;have HAh:=Lh (mD hr HR.out);clear hr;go_wp2_with fail;refine (lg y m d r.y r.m r.d w1 w1 (Below.refl _ _) HF.out.1 HF.out.2.1 HF.out.2.2 HS.out.2.2.1 HS.out.2.2.2.1 HS.out.2.2.2.2.1).mono ?_;rintro e w2 ⟨rfl,b2⟩;have HB2:=Lh (aj HB1.out b2);have HT2:=Lh (HT1.out.below b2);have hC2:=iA.out.below b2;unfold Pd.C at hC2;clear a0 a1 a2 a3 a4 a5 a6 a7 a8 a9 uh qb e0 e1 e2 t0 t1 t2 t3 f0 f1 f2 f3 b2;obtain ⟨a0,a1,a2,a3,a4,a5,a6,a7,a8,a9,uh,qb⟩:=hC2;obtain ⟨t0,t1,t2,t3⟩:=HT2.out.cells;have f0:=HT2.out.frozen 0;have f1:=HT2.out.frozen 1;have f2:=HT2.out.frozen 2;have f3:=HT2.out.frozen 3;rw [HI.out.y,HI.out.m,HI.out.d,HAh.out];by_cases hdy:Dt.days y m d < Dt.days p.y p.m p.d
     ·
      have HE:=Lh (Bl.Gm Lb.out (.inr hdy));rw [decide_eq_true hdy];clear hdy;go_wp2_with fail;exact bodyPost_ret (Tt.ret Tryz.results136 rfl rfl (HT2.out.E8 0 0 0 (.slice none 0 0))) rfl ⟨_,by rw [HE.out.1,HE.out.2];rfl,by rw [HE.out.2];exact Pt.aN _ _,Cc HB2.out (by omega) _ _ _ _⟩
     ·
      have HE:=Lh (Bl.Lj (p:=p) (y:=y) (m:=m) (d:=d) Lb.out (fun q=>q.elim (fun z=>by rw [Ab.out] at z;cases z) hdy));rw [decide_eq_false hdy];clear hdy;go_wp2_with fail;have DX:=HI.out.parts.below HB2.out;refine Calls.mono (R:=Tt.UU w2 (Iv.dQ p.tot) (Iv.mW p.tot)) ?_ ?_
      ·
       rw [HI.out.net,HI.out.aP,HI.out.au];exact Gl p.tot r.parts.ao r.parts.n r.parts.cap w2 DX (HI.out.net▸HS.out.2.2.2.2.2.1) (HI.out.aP▸HS.out.2.2.2.2.2.2.1) (HI.out.au▸HS.out.2.2.2.2.2.2.2.1) HN.out
      clear DX;rintro e w3 ⟨v,rfl,o3,b3⟩;have ow:=Lh o3;have HB3:=Lh (aj HB2.out b3);have HT3:=Lh (HT2.out.below b3);have uO:=Lh HT2.out.lt;clear a0 a1 a2 a3 a4 a5 a6 a7 a8 a9 uh qb t0 t1 t2 t3 f0 f1 f2 f3 b3 o3;obtain ⟨t0,t1,t2,t3⟩:=HT3.out.cells;have f0:=HT3.out.frozen 0;have f1:=HT3.out.frozen 1;have f2:=HT3.out.frozen 2;have f3:=HT3.out.frozen 3;obtain ⟨T,hT⟩:∃ T,Iv.mW p.tot=T:=⟨_,rfl⟩;obtain ⟨E,hE⟩:∃ E,Iv.dQ p.tot=E:=⟨_,rfl⟩;rw [hT] at ow HE ⊢;rw [hE] at HE ⊢;clear hT hE
      have hv1:∃ vo vn vc,v=.slice vo vn vc:=by
       rcases ow.out.2 with ⟨z,_⟩ | ⟨g',cap',cur,z,_⟩
       · exact ⟨_,_,_,z⟩
       · exact ⟨_,_,_,z⟩
      obtain ⟨vo,vn,vc,rfl⟩:=hv1;unfold Tt.val;go_wp2_with fail;refine bodyPost_ret (Tt.ret Tryz.results136 rfl rfl (HT3.out.E8 T.net T.aP T.au (.slice vo vn vc))) rfl ⟨_,by rw [HE.out.1,HE.out.2],?_,Cc HB3.out (by omega) _ _ _ _⟩;rw [HE.out.2];exact Pt.bD (Pt.RU ow.out uO.out _ _ _ _) HB2.out.size
   ·
    have q2:(r.aY==0)=false:=beq_eq_false_iff_ne.2 h2;have HE:=Lh (Bl.uH (y:=y) (m:=m) (d:=d) (p:=p) (.inr fun z=>h2 (Eu.trans z.2)));clear hpb ebk Et Eu h1 h2;go_enter Tryz.func136,Tryz.ntmps136;go_wp2_with fail;exact bodyPost_ret (Tt.ret Tryz.results136 rfl rfl (HT.out.E8 0 0 0 (.slice none 0 0))) rfl ⟨_,by rw [HE.out.1,HE.out.2];rfl,by rw [HE.out.2];exact Pt.aN _ _,Cc HB.out (by omega) _ _ _ _⟩
  ·
   have q1:(r.bf.toList==[])=false:=beq_eq_false_iff_ne.2 fun e=>h1 (Vt.gM (e.trans wP.symm))
   have HE:=Lh (Bl.uH (y:=y) (m:=m) (d:=d) (p:=p) (.inr fun z=>h1 (Et.trans z.1)));clear hpb ebk Et Eu h1;go_enter Tryz.func136,Tryz.ntmps136;go_wp2_with fail;exact bodyPost_ret (Tt.ret Tryz.results136 rfl rfl (HT.out.E8 0 0 0 (.slice none 0 0))) rfl ⟨_,by rw [HE.out.1,HE.out.2];rfl,by rw [HE.out.2];exact Pt.aN _ _,Cc HB.out (by omega) _ _ _ _⟩
def Pd.laid (r:Pd.T) (x:Sl):Pd.T:=⟨r.av,r.num,r.y,r.m,r.d,r.net,r.aP,r.au,x,r.bf,r.aY,r.back⟩
theorem Pd.iL.own {ao:Option Addr} {n cap:Nat} {rs:List Pd.T} {e:Ending} (h:Pd.iL w ao n rs e w') (hR:Pd.Ls w ao n cap rs) (hn:n<=1000):∃ bo c,e=.returned (.slice bo n c)/\Pd.Own w' w.heap.size (.slice bo n c) rs/\(0 < n->bo=some ⟨w.heap.size,0,none⟩/\w.heap.size < w'.heap.size)/\Below w.heap.size w w':=by
 rcases h with ⟨rfl,rfl,rfl⟩ | ⟨rfl,hb,hk⟩
 ·
  have hq:=hR.nil rfl;have hq2:=hR.fits;obtain rfl:n=0:=by omega
  have hz:rs=[]:=List.eq_nil_of_length_eq_zero hR.len.symm;subst hz;exact ⟨none,0,rfl,Pd.aN _ _,fun h=>absurd h (Nat.lt_irrefl _),Below.refl _ _⟩
 · exact ⟨_,n,rfl,Pd.fG hb (Nat.le_refl _) hR.len (by omega),fun _=>⟨rfl,hb.lt⟩,hk⟩
theorem vN (u:World) (a:Addr) (x:Value):(u.setCell a x).heap.size=u.heap.size:=by simp
namespace Bl
def z0:Sl:=⟨none,0,0⟩
theorem Lp.nils (P:Nat->Prop) (w:World) {x y:Int} (e:x=y) (hx:Fit y):Lp P w ⟨z0,z0,z0,z0,z0,x⟩ ⟨[],[],[],[],[],y⟩:=by
 have h:=zu w;exact ⟨h.tab,h.av,⟨[],Pd.dL w,qR w,fun r hr=>by cases hr⟩,h.book,h.ak,e,hx,vF _ _,vF _ _,vF _ _,vF _ _,vF _ _⟩
theorem Each.put {rs : List Pd.T} {ps : List Ps} (h : Each w rs ps) (k : Nat) (hk : k < rs.length) (r : Pd.T) (hr : AV w r (ps[k]'(h.len ▸ hk))) : Each w (rs.set k r) ps := by
 have hl:(rs.set k r).length=ps.length:=by rw [List.length_set];exact h.len
 refine ⟨hl,fun i hi=>?_⟩;have hi':i < rs.length:=by rw [List.length_set] at hi;exact hi
 have hx:=h.each i hi';rw [List.getElem_set];by_cases q:k=i
 ·
  subst q;rw [if_pos rfl];exact hr
 ·
  rw [if_neg q];exact hx
structure Cn (w u:World) (hc:Sv):Prop where
 dx:Below w.heap.size w u
 var:At u w.heap.size hc
 zr:At u (w.heap.size+1) iy
section
variable {w u v:World} {hc:Sv}
theorem Cn.below (c:Cn w u hc) (k:Below u.heap.size u v):Cn w v hc:=⟨aj c.dx k,c.var.below k,c.zr.below k⟩
theorem Cn.far (c:Cn w u hc) {b:Nat} (hb:w.heap.size+2<=b) (o:Nat) (x:Value):Cn w (u.setCell ⟨b,o,none⟩ x) hc:=⟨bU c.dx (by omega) _ _,c.var.away (by omega) _ _,c.zr.away (by omega) _ _⟩
theorem Cn.set0 (c:Cn w u hc) (x:Sl):Cn w (u.setCell ⟨w.heap.size,0,none⟩ (.slice x.ao x.n x.cap)) ⟨x,hc.av,hc.post,hc.book,hc.ak,hc.next⟩:=⟨bU c.dx (Nat.le_refl _) _ _,(bY c.var 0 _).trans rfl,c.zr.away (by omega) _ _⟩
theorem Cn.set1 (c:Cn w u hc) (x:Sl):Cn w (u.setCell ⟨w.heap.size,1,none⟩ (.slice x.ao x.n x.cap)) ⟨hc.tab,x,hc.post,hc.book,hc.ak,hc.next⟩:=⟨bU c.dx (Nat.le_refl _) _ _,(bY c.var 1 _).trans rfl,c.zr.away (by omega) _ _⟩
theorem Cn.set2 (c:Cn w u hc) (x:Sl):Cn w (u.setCell ⟨w.heap.size,2,none⟩ (.slice x.ao x.n x.cap)) ⟨hc.tab,hc.av,x,hc.book,hc.ak,hc.next⟩:=⟨bU c.dx (Nat.le_refl _) _ _,(bY c.var 2 _).trans rfl,c.zr.away (by omega) _ _⟩
theorem Cn.UR (c:Cn w u hc) (x:Sl):Cn w (u.setCell ⟨w.heap.size,3,none⟩ (.slice x.ao x.n x.cap)) ⟨hc.tab,hc.av,hc.post,x,hc.ak,hc.next⟩:=⟨bU c.dx (Nat.le_refl _) _ _,(bY c.var 3 _).trans rfl,c.zr.away (by omega) _ _⟩
theorem Cn.E8 (c:Cn w u hc) (x:Sl):Cn w (u.setCell ⟨w.heap.size,4,none⟩ (.slice x.ao x.n x.cap)) ⟨hc.tab,hc.av,hc.post,hc.book,x,hc.next⟩:=⟨bU c.dx (Nat.le_refl _) _ _,(bY c.var 4 _).trans rfl,c.zr.away (by omega) _ _⟩
theorem Cn.kp (w u:World) (i:Nat) (x:Value):jN (fun b=>w.heap.size+2<=b) u (u.setCell ⟨w.heap.size,i,none⟩ x):=jN.set u (by omega) i x
end
structure Cr (w u:World) (hc:Sv) (s:St) (b1 k:Nat) (qs:List Pd.T):Prop where
 cn:Cn w u hc
 two:Lp (fun b=>w.heap.size+2<=b/\b < b1) u ⟨hc.tab,hc.av,z0,z0,z0,hc.next⟩ ⟨s.tab,s.av,[],[],[],s.next⟩
 own:Pd.Own u b1 (.slice hc.post.ao hc.post.n hc.post.cap) qs
 here:0 < qs.length->hc.post.ao=some ⟨b1,0,none⟩/\b1 < u.heap.size
 each:Each u qs s.post
 sh:∀ r∈qs,Pd.Short r
 far:∀ r∈qs,kQ (fun b=>b≠b1) r.parts.ao r.parts.n
 new:∀ i (h:i < qs.length),i < k->sJ (w.heap.size+2) qs[i].parts.ao qs[i].parts.n
 lo:w.heap.size+2<=b1
section
variable {w u v:World} {hc:Sv} {s:St} {b1 k:Nat} {qs:List Pd.T}
theorem Cr.below (c:Cr w u hc s b1 k qs) (q:Below u.heap.size u v):Cr w v hc s b1 k qs :=
 ⟨c.cn.below q,c.two.below q,Pd.own_below c.own q,fun h=>⟨(c.here h).1,Nat.lt_of_lt_of_le (c.here h).2 q.size⟩,c.each.below q,c.sh,c.far,c.new,c.lo⟩
theorem Cr.put (c : Cr w u hc s b1 k qs) (hk : k < qs.length) {x : Sl} (hp : Pt.Ls u x.ao x.n x.cap (s.post[k]'(c.each.len ▸ hk)).tot.parts) (hi : sJ (b1 + 1) x.ao x.n) : Cr w (u.setCell ⟨b1,k * 12 + 8,none⟩ (.slice x.ao x.n x.cap)) hc s b1 (k + 1) (qs.set k (Pd.laid qs[k] x)) := by
 have hh:=c.here (by omega);have hpos:=c.own;rw [hh.1] at hpos;have hkp:jN (fun b=>b≠b1) u (u.setCell ⟨b1,k*12+8,none⟩ (.slice x.ao x.n x.cap)):=jN.set u (fun z=>z rfl) _ _;have hx:kQ (fun b=>b≠b1) x.ao x.n:=fun hn b off e=>by have:=hi hn b off e;omega
 have hlo:=c.lo;refine ⟨c.cn.far hlo _ _,c.two.kp (jN.set u (fun z=>by omega) _ _),?_,?_,?_,?_,?_,?_,hlo⟩
 ·
  rw [hh.1];exact Pd.jo hpos k 8 hk (by omega) _ (Pd.laid qs[k] x) rfl
 · exact fun _=>⟨hh.1,by rw [vN];exact hh.2⟩
 ·
  have he:Each (u.setCell ⟨b1,k*12+8,none⟩ (.slice x.ao x.n x.cap)) qs s.post:=⟨c.each.len,fun i hq=>(c.each.each i hq).kR (c.far _ (List.getElem_mem hq)) hkp⟩;have h0:=c.each.each k hk;exact he.put k hk _ ⟨h0.av,h0.num,h0.y,h0.m,h0.d,h0.net,h0.aP,h0.au,hp.kR hx hkp,h0.bf,h0.aY,h0.back⟩
 ·
  intro r hr;rcases List.mem_or_eq_of_mem_set hr with hr | rfl
  · exact c.sh r hr
  · exact (show Pd.Short qs[k] from c.sh _ (List.getElem_mem hk))
 ·
  intro r hr;rcases List.mem_or_eq_of_mem_set hr with hr | rfl
  · exact c.far r hr
  · exact hx
 ·
  intro i hq hik;rw [List.length_set] at hq;rw [List.getElem_set];by_cases q:k=i
  ·
   subst q;rw [if_pos rfl];exact hi.mono (by omega)
  ·
   rw [if_neg q];exact c.new i hq (by omega)
theorem Cr.done (c:Cr w u hc s b1 k qs) (hk:qs.length<=k):Lp (fun b=>w.heap.size+2<=b) u ⟨hc.tab,hc.av,hc.post,z0,z0,hc.next⟩ ⟨s.tab,s.av,s.post,[],[],s.next⟩:=by
 obtain ⟨ao,cap,e,hL,hg⟩:=Pd.aX c.own c.sh;simp only [Value.slice.injEq] at e;obtain ⟨e1,e2,e3⟩:=e;rw [<- e1,<- e3,<- e2] at hL;have t:=c.two.mono (Q:=fun b=>w.heap.size+2<=b) fun b z=>z.1
 refine ⟨t.tab,t.av,⟨qs,hL,c.each,fun r hr=>?_⟩,t.book,t.ak,t.next,t.fit,t.jf,t.pY,?_,t.jg,t.eY⟩
 ·
  obtain ⟨i,hi,rfl⟩:=List.getElem_of_mem hr;exact c.new i hi (by omega)
 ·
  intro hn b off e;have e':hc.post.ao=some ⟨b,off,none⟩:=e;obtain ⟨g,h1,h2⟩:=hg ⟨b,off,none⟩ (e1▸e');cases h1
  exact Nat.le_trans c.lo h2
end
structure Fw (s:St):Prop where
 tab:s.tab.length<=1000
 av:s.av.length<=1000
 post:s.post.length<=1000
 book:s.book.length<=1000
 ak:s.ak.length<=1000
 parts:∀ p∈s.post,p.tot.parts.length<=1000
def YW (w:World) (s:St) (e:Ending) (w':World):Prop:=∃ h:Sv,e=.returned h.val/\lJ (w.heap.size+2) w' h s/\Below w.heap.size w w'
end Bl
theorem NH (s:Bl.St) (h:Bl.Sv) (w:World) (hL:Bl.kW w h s) (hF:Bl.Fw s) :
  Calls Tryz.prog 17 #[h.val] w (Bl.YW w s):=by
 have HL:=Lh hL;have HF:=Lh hF;have HX:=Lh hL.next;obtain ⟨rs,hP,hE⟩:=hL.post;have HP:=Lh hP;have HE:=Lh hE
 have HFa:Hid (∀ r∈rs,kQ (fun b=>b < w.heap.size) r.parts.ao r.parts.n):=Lh fun r hr=>by
  obtain ⟨i,hi,rfl⟩:=List.getElem_of_mem hr;exact (hE.each i hi).parts.inp
 have hn0:h.tab.n<=1000:=by have:=hL.tab.len;have:=hF.tab;omega
 have hn1:h.av.n<=1000:=by have:=hL.av.len;have:=hF.av;omega
 have hn2:h.post.n<=1000:=by have:=hP.len;have:=hE.len;have:=hF.post;omega
 have hn3:h.book.n<=1000:=by have:=hL.book.len;have:=hF.book;omega
 have hn4:h.ak.n<=1000:=by have:=hL.ak.len;have:=hF.ak;omega
 have HN:=Lh (And.intro hn0 (And.intro hn1 (And.intro hn2 (And.intro hn3 hn4))));clear hn0 hn1 hn3 hn4;obtain ⟨U,hU,hB,k0,k1,hs⟩:=Bl.U7 w (.cells #[.slice h.tab.ao h.tab.n h.tab.cap,.slice h.av.ao h.av.n h.av.cap,.slice h.post.ao h.post.n h.post.cap,.slice h.book.ao h.book.n h.book.cap,.slice h.ak.ao h.ak.n h.ak.cap,.int .i64 h.next] 30) (.cells #[.slice none 0 0,.slice none 0 0,.slice none 0 0,.slice none 0 0,.slice none 0 0,.int .i64 0] 30);have Vr:Hid (Bl.Cn w U h):=Lh ⟨hB,k0,k1⟩;have HS:Hid (U.heap.size=w.heap.size+2):=Lh hs;obtain ⟨x0,x1,x2,x3,x4,x5⟩:=Vr.out.var.cells;clear k0 k1 hL hF hP hE hB hs;unfold Bl.Sv.val Bl.sl;go_enter Tryz.func17,Tryz.ntmps17;go_wp2_with fail;clear hU;refine (DL s.tab h.tab.ao h.tab.n h.tab.cap U (HL.out.tab.below Vr.out.dx) HN.out.1).mono ?_;intro e w1 q1;obtain ⟨RX,c1,rfl,l1,i1,b1⟩:=q1.ls (HL.out.tab.below Vr.out.dx);have iA:=Lh ((Vr.out.below b1).set0 ⟨RX,h.tab.n,c1⟩)
 have lK:Hid (Bl.Lp (fun b=>w.heap.size+2<=b) (w1.setCell ⟨w.heap.size,0,none⟩ (.slice RX h.tab.n c1)) ⟨⟨RX,h.tab.n,c1⟩,Bl.z0,Bl.z0,Bl.z0,Bl.z0,h.next⟩ ⟨s.tab,[],[],[],[],s.next⟩):=Lh (by
  have z:=Bl.Lp.nils (fun b=>w.heap.size+2<=b) w1 HX.out HL.out.fit;refine Bl.Lp.kp ⟨l1,z.av,z.post,z.book,z.ak,z.next,z.fit,?_,z.pY,z.jW,z.jg,z.eY⟩ (Bl.Cn.kp w w1 0 _);exact fun hn b off e=>by have:=i1 hn b off e;have:=HS.out;show w.heap.size+2<=b;omega)
 have hfz:=(Vr.out.below b1).var.frozen 0;obtain ⟨v0,v1,v2,v3,v4,v5⟩:=(Vr.out.below b1).var.cells;obtain ⟨u1,hu1⟩:∃ u1,w1.setCell ⟨w.heap.size,0,none⟩ (.slice RX h.tab.n c1)=u1:=⟨_,rfl⟩;rw [hu1] at iA lK;obtain ⟨y0,y1,y2,y3,y4,y5⟩:=iA.out.var.cells;clear l1 i1 b1 q1 x0 x1 x2 x3 x4 x5;go_wp2_with fail;clear hu1 hfz v0 v1 v2 v3 v4 v5;refine (DC s.av h.av.ao h.av.n h.av.cap u1 (HL.out.av.below iA.out.dx) HN.out.2.1).mono ?_;intro e w2 q2;obtain ⟨Ud,c2,rfl,l2,i2,b2⟩:=q2.ls (HL.out.av.below iA.out.dx);have iK:=Lh ((iA.out.below b2).set1 ⟨Ud,h.av.n,c2⟩)
 have HL2:Hid (Bl.Lp (fun b=>w.heap.size+2<=b) (w2.setCell ⟨w.heap.size,1,none⟩ (.slice Ud h.av.n c2)) ⟨⟨RX,h.tab.n,c1⟩,⟨Ud,h.av.n,c2⟩,Bl.z0,Bl.z0,Bl.z0,h.next⟩ ⟨s.tab,s.av,[],[],[],s.next⟩):=Lh (by
  have z:=lK.out.below b2;refine Bl.Lp.kp ⟨z.tab,l2,z.post,z.book,z.ak,z.next,z.fit,z.jf,?_,z.jW,z.jg,z.eY⟩ (Bl.Cn.kp w w2 1 _);exact fun hn b off e=>by have:=i2 hn b off e;have:=iA.out.zr.lt;show w.heap.size+2<=b;omega)
 have hfz:=(iA.out.below b2).var.frozen 1;obtain ⟨v0,v1,v2,v3,v4,v5⟩:=(iA.out.below b2).var.cells;obtain ⟨u2,hu2⟩:∃ u2,w2.setCell ⟨w.heap.size,1,none⟩ (.slice Ud h.av.n c2)=u2:=⟨_,rfl⟩;rw [hu2] at iK HL2;obtain ⟨x0,x1,x2,x3,x4,x5⟩:=iK.out.var.cells;clear l2 i2 b2 q2 y0 y1 y2 y3 y4 y5;go_wp2_with fail;clear hu2 hfz v0 v1 v2 v3 v4 v5;refine (DF rs h.post.ao h.post.n h.post.cap u2 (HP.out.below iK.out.dx) HN.out.2.2.1).mono ?_;intro e w3 q3;obtain ⟨Ue,c3,rfl,o3,p3,b3⟩:=q3.own (HP.out.below iK.out.dx) HN.out.2.2.1;have jJ:=Lh ((iK.out.below b3).set2 ⟨Ue,h.post.n,c3⟩);have HLo:Hid (w.heap.size+2<=u2.heap.size):=Lh (by have:=iK.out.zr.lt;omega);have vX:Hid (h.post.n=rs.length):=Lh HP.out.len
 have HR3:Hid (Bl.Cr w (w3.setCell ⟨w.heap.size,2,none⟩ (.slice Ue h.post.n c3)) ⟨⟨RX,h.tab.n,c1⟩,⟨Ud,h.av.n,c2⟩,⟨Ue,h.post.n,c3⟩,h.book,h.ak,h.next⟩ s u2.heap.size 0 rs):=Lh (by
  have hlo:=HLo.out;refine ⟨jJ.out,(HL2.out.lt.below b3).kp (jN.set _ (fun z=>by have:=z.1;omega) _ _),Pd.rW o3 (by omega) _ _,fun hp=>?_,?_,HP.out.short,fun r hr=>(HFa.out r hr).mono fun b hb=>by omega,fun i _ hi=>absurd hi (Nat.not_lt_zero _),hlo⟩
  ·
   have:=p3 (by have:=vX.out;omega);exact ⟨this.1,by rw [vN];exact this.2⟩
  · exact HE.out.below (bU (aj iK.out.dx b3) (Nat.le_refl _) _ _))
 have hfz:=(iK.out.below b3).var.frozen 2;obtain ⟨v0,v1,v2,v3,v4,v5⟩:=(iK.out.below b3).var.cells;obtain ⟨u3,hu3⟩:∃ u3,w3.setCell ⟨w.heap.size,2,none⟩ (.slice Ue h.post.n c3)=u3:=⟨_,rfl⟩;rw [hu3] at jJ HR3;obtain ⟨y0,y1,y2,y3,y4,y5⟩:=jJ.out.var.cells;clear o3 p3 b3 q3 x0 x1 x2 x3 x4 x5;go_wp2_with fail;clear hu3 hfz v0 v1 v2 v3 v4 v5 y0 y1 y2 y3 y4 y5 jJ;obtain ⟨g1,hg1⟩:∃ g1,u2.heap.size=g1:=⟨_,rfl⟩;rw [hg1] at HR3 HLo;clear hg1
 go_loopw [3,4,20] (fun _ _ j wr=>∃ (k:Nat) (qs:List Pd.T),k<=h.post.n/\j=.int .i64 k/\Hid (qs.length=h.post.n)/\Hid (Bl.Cr w wr ⟨⟨RX,h.tab.n,c1⟩,⟨Ud,h.av.n,c2⟩,⟨Ue,h.post.n,c3⟩,h.book,h.ak,h.next⟩ s g1 k qs)) (fun _ _ j _=>h.post.n - (intOf j).toNat)
 case atStart=>exact ⟨0,rs,by omega,rfl,Lh vX.out.symm,HR3⟩
 case round =>
  clear HR3;rename World=>wz
  obtain ⟨k,qs,hk,rfl,HQ,HR⟩:=hrel;obtain ⟨x0,x1,x2,x3,x4,x5⟩:=HR.out.cn.var.cells;by_cases hlt:k < h.post.n
  ·
   have hkq : k < qs.length := HQ.out ▸ hlt;obtain ⟨e3,hgl⟩ := HR.out.here (by omega);have e3' : Ue = some ⟨g1,0,none⟩ := e3;subst e3';clear e3;obtain ⟨hat,hfr,_⟩ := Pd.dH (show Pd.Own wz g1 (.slice (some ⟨g1,0,none⟩) h.post.n c3) qs from HR.out.own) k hkq;have HKs : Hid (k < s.post.length) := Lh (HR.out.each.len ▸ hkq);have HG := Lh hgl;have HK := Lh hkq;obtain ⟨pa,hpa⟩ : ∃ pa,(qs[k]'hkq).parts = pa := ⟨_,rfl⟩;have c8 : wz.cell? ⟨g1,k * 12 + 8,none⟩ = some (.slice pa.ao pa.n pa.cap) := by rw [<- hpa]; exact hat.c8
   have O7 : Hid (Pt.Ls wz pa.ao pa.n pa.cap (s.post[k]'HKs.out).tot.parts) := Lh (by rw [<- hpa]; exact (HR.out.each.each k hkq).parts)
   have XH:Hid (pa.n<=1000):=Lh (by
    have h1:=O7.out.len;have h2:=HF.out.parts _ (List.getElem_mem HKs.out);omega)
   have HPa:=Lh hpa;clear hat hgl hpa hfr;go_wp2_with fail;refine (DI _ pa.ao pa.n pa.cap wz O7.out XH.out).mono ?_;intro e w4 q4;obtain ⟨bo4,c4,rfl,l4,i4,b4⟩:=q4.ls O7.out;have hR4:=HR.out.below b4;have HR4:=Lh (hR4.put HK.out (x:=⟨bo4,pa.n,c4⟩) l4 (i4.mono (by have:=HG.out;omega)));obtain ⟨hat,hfr,_⟩:=Pd.dH (show Pd.Own w4 g1 (.slice (some ⟨g1,0,none⟩) h.post.n c3) qs from hR4.own) k HK.out;have c8':w4.cell? ⟨g1,k*12+8,none⟩=some (.slice pa.ao pa.n pa.cap):=by rw [<- HPa.out];exact hat.c8
   have z8:=hfr (k*12+8);clear hat hfr hR4 l4 i4 b4 q4 c8 x0 x1 x2 x3 x4 x5;go_wp2_with fail;go_roundw
   case rel=>exact ⟨k+1,_,by omega,by go_num,Lh (by rw [List.length_set];exact HQ.out),HR4⟩
   case measure=>simp [intOf];omega
  ·
   obtain rfl:k=h.post.n:=by omega
   have HD:=Lh (HR.out.done (by rw [HQ.out];exact Nat.le_refl _));have HC:=Lh HR.out.cn;go_wp2_with fail;refine (DJ s.book h.book.ao h.book.n h.book.cap wz (HL.out.book.below HC.out.dx) HN.out.2.2.2.1).mono ?_;intro e w5 q5;obtain ⟨YX,c5,rfl,l5,i5,b5⟩:=q5.ls (HL.out.book.below HC.out.dx);have oq:=Lh ((HC.out.below b5).UR ⟨YX,h.book.n,c5⟩)
   have OY:Hid (Bl.Lp (fun b=>w.heap.size+2<=b) (w5.setCell ⟨w.heap.size,3,none⟩ (.slice YX h.book.n c5)) ⟨⟨RX,h.tab.n,c1⟩,⟨Ud,h.av.n,c2⟩,⟨Ue,h.post.n,c3⟩,⟨YX,h.book.n,c5⟩,Bl.z0,h.next⟩ ⟨s.tab,s.av,s.post,s.book,[],s.next⟩):=Lh (by
    have z:=HD.out.below b5;refine Bl.Lp.kp ⟨z.tab,z.av,z.post,l5,z.ak,z.next,z.fit,z.jf,z.pY,z.jW,?_,z.eY⟩ (Bl.Cn.kp w w5 3 _);exact fun hn b off e=>by have:=i5 hn b off e;have:=HC.out.zr.lt;show w.heap.size+2<=b;omega)
   have hfz:=(HC.out.below b5).var.frozen 3;obtain ⟨v0,v1,v2,v3,v4,v5⟩:=(HC.out.below b5).var.cells;obtain ⟨u5,OX⟩:∃ u5,w5.setCell ⟨w.heap.size,3,none⟩ (.slice YX h.book.n c5)=u5:=⟨_,rfl⟩;rw [OX] at oq OY;obtain ⟨y0,y1,y2,y3,y4,y5⟩:=oq.out.var.cells;clear l5 i5 b5 q5 x0 x1 x2 x3 x4 x5;go_wp2_with fail;clear OX hfz v0 v1 v2 v3 v4 v5;refine (DK s.ak h.ak.ao h.ak.n h.ak.cap u5 (HL.out.ak.below oq.out.dx) HN.out.2.2.2.2).mono ?_;intro e w6 q6;obtain ⟨bo6,c6,rfl,l6,i6,b6⟩:=q6.ls (HL.out.ak.below oq.out.dx);have HC6:=Lh ((oq.out.below b6).E8 ⟨bo6,h.ak.n,c6⟩)
   have YZ:Hid (Bl.Lp (fun b=>w.heap.size+2<=b) (w6.setCell ⟨w.heap.size,4,none⟩ (.slice bo6 h.ak.n c6)) ⟨⟨RX,h.tab.n,c1⟩,⟨Ud,h.av.n,c2⟩,⟨Ue,h.post.n,c3⟩,⟨YX,h.book.n,c5⟩,⟨bo6,h.ak.n,c6⟩,h.next⟩ s):=Lh (by
    have z:=OY.out.below b6;refine Bl.Lp.kp ⟨z.tab,z.av,z.post,z.book,l6,z.next,z.fit,z.jf,z.pY,z.jW,z.jg,?_⟩ (Bl.Cn.kp w w6 4 _);exact fun hn b off e=>by have:=i6 hn b off e;have:=oq.out.zr.lt;show w.heap.size+2<=b;omega)
   have hfz:=(oq.out.below b6).var.frozen 4;obtain ⟨v0,v1,v2,v3,v4,v5⟩:=(oq.out.below b6).var.cells;obtain ⟨u6,hu6⟩:∃ u6,w6.setCell ⟨w.heap.size,4,none⟩ (.slice bo6 h.ak.n c6)=u6:=⟨_,rfl⟩;rw [hu6] at HC6 YZ;have XI:Bl.At u6 w.heap.size ⟨⟨RX,h.tab.n,c1⟩,⟨Ud,h.av.n,c2⟩,⟨Ue,h.post.n,c3⟩,⟨YX,h.book.n,c5⟩,⟨bo6,h.ak.n,c6⟩,h.next⟩:=HC6.out.var;have Y0:Bl.At u6 (w.heap.size+1) Bl.iy:=HC6.out.zr;clear l6 i6 b6 q6 y0 y1 y2 y3 y4 y5;go_wp2_with (first | ((with_reducible apply Bl.aI XI);rfl;rfl;rfl)|((with_reducible apply Bl.aU (h:=⟨⟨RX,h.tab.n,c1⟩,⟨Ud,h.av.n,c2⟩,⟨Ue,h.post.n,c3⟩,⟨YX,h.book.n,c5⟩,⟨bo6,h.ak.n,c6⟩,h.next⟩) Y0);rfl;rfl;rfl;rfl));refine bodyPost_ret (Bl.kZ Tryz.results17 rfl (HC6.out.zr.lay _)) rfl ⟨_,rfl,?_,Bl.dM HC6.out.dx (by omega) _⟩;exact (YZ.out.kp (jN.row u6 (by omega) _)).liesA
end Go.Proofs.YtpfdnemaaeolcaaGreat
