import Derived.Deep.RegionHeld3
import Derived.Lib.QuietBelow
import Derived.Deep.RegionLaw
import Derived.Deep.DeepCutAuto
import Derived.Deep.CutBlock
import Derived.Test.YtpfdnemaaeolcaaGreatShelf
import Derived.Lib.Overlaps
import Derived.Lib.JoinLaws
import Derived.Lib.SliceRun
import Derived.Test.YtpfdnemaaeolcaaGreatZIb1
import Derived.Test.YtpfdnemaaeolcaaGreatZIb2
import Derived.Test.YtpfdnemaaeolcaaGreatZIb3
import Derived.Test.YtpfdnemaaeolcaaGreatZIb5
import Derived.Test.YtpfdnemaaeolcaaGreatZIb6
import Derived.Test.YtpfdnemaaeolcaaGreatZIb7
import Derived.Test.YtpfdnemaaeolcaaGreatZIb8
variable {w:Go.World} {B n cap g:Nat} {s:ByteArray} {i x:Int} {ao:Option Go.Addr}
set_option maxHeartbeats 8000000
namespace Go.Proofs.YtpfdnemaaeolcaaGreat
open Go.RowKit
open Mem
open Go.Sort (grow)
theorem wN (rs:List Sr.T) (ao:Option Addr) (n cap:Nat) (w0 w:World) (hw:Below w0.heap.size w0 w) (hR:Sr.Ls w ao n cap rs) :
  Calls Tryz.prog 29 #[.slice ao n cap] w fun e w'=>e=.returned (.bool (Se.aA rs))/\Below w0.heap.size w0 w':=by
 have HW:=Lh hw;have HR:=Lh hR;have HN:=Lh hR.len;have hcap:=hR.reach;have hfit:=hR.fits;clear hw hR;by_cases h8:8 < n
 ·
  have HT:=Lh (Se.tO (l:=rs) (HN.out▸h8));go_enter Tryz.func29,Tryz.ntmps29;go_wp2;go_ret;exact ⟨ay HT.out.symm,HW.out⟩
 ·
  have HT:=Lh (Se.qC (l:=rs) (by have:=HN.out;omega));go_enter Tryz.func29,Tryz.ntmps29;go_wp2
  go_loopw [3,4,10] (fun _ _ i wr=>∃ k:Nat,k<=n/\i=.int .i64 k/\Hid (Se.dN (Se.bO rs k) (rs.drop k)=Se.dN none rs)/\Hid (Below w.heap.size w wr)) (fun _ _ i _=>n - (intOf i).toNat)
  case atStart=>exact ⟨0,by omega,rfl,Lh rfl,Lh (Below.refl _ _)⟩
  case round =>
   obtain ⟨k,hk,rfl,HK,HB⟩:=hrel;by_cases hlt:k < n
   ·
    obtain ⟨b,off,rfl⟩:=HR.out.at (by omega);have hkr:k < rs.length:=HN.out▸hlt;obtain ⟨r,hr⟩:∃ r,rs[k]=r:=⟨_,rfl⟩;have hrow:=(HR.out.row k hkr).below HB.out;have bX:=Lh (Se.qA rs k hkr);rw [hr] at hrow bX;have hsh:Sr.Short r:=HR.out.short r (hr▸List.getElem_mem hkr);obtain ⟨g0,g1,g2,g3⟩:=hrow;obtain ⟨W,hW,hbW,hA⟩:=Sr.bZ wr r;have dz:=Lh (aj HB.out hbW);clear hbW;unfold Sr.C at hA;obtain ⟨a0,a1,a2,a3⟩:=hA;have k0:=cell_regrown a0;have k1:=cell_regrown a1;have k2:=cell_regrown a2;have k3:=cell_regrown a3;have c1:=Np r hsh;clear hsh hr;cases he:Se.sound r
    ·
     rw [he] at c1
     have HO:Hid (Se.ok (Se.bO rs k) r=false):=by
      show _=_;unfold Se.ok;rw [he];rfl
     clear he;go_wp2;refine wp_region_quiet_below (by kernel_rfl) (by kernel_rfl) ?_
     repeat (first | go_big_quiet_step (first | (go_at_call 72;exact c1 _ _ _)) | quiet_step (first | (go_at_call 72;exact c1 _ _ _)))
     refine wpQuiet_nil ?_;intro _ hw';obtain ⟨⟨dq,osq⟩,hw''⟩:=hw';subst hw'';have cO:=Lh (aj dz.out (below_regrown W dq osq));go_wp2;go_ret;exact ⟨ay (by rw [HT.out,<- HK.out,bX.out,HO.out,Bool.false_and]),aj HW.out cO.out⟩
    ·
     rw [he] at c1;by_cases hk0:k=0
     ·
      subst hk0;simp only [Nat.zero_mul,Nat.add_zero] at g0 g1 g2 g3
      have HO:Hid (Se.ok (Se.bO rs 0) r=true):=by
       show _=_;unfold Se.ok Se.bO;rw [he];rfl
      clear he;go_wp2;refine wp_region_quiet_below (by kernel_rfl) (by kernel_rfl) ?_
      repeat (first | go_big_quiet_step (first | (go_at_call 72;exact c1 _ _ _)) | quiet_step (first | (go_at_call 72;exact c1 _ _ _)))
      refine wpQuiet_nil ?_;intro _ hw';obtain ⟨⟨dq,osq⟩,hw''⟩:=hw';subst hw'';have cO:=Lh (aj dz.out (below_regrown W dq osq));go_wp2;go_roundw
      case rel=>exact ⟨1,by omega,rfl,Lh (by rw [<- HK.out,bX.out,HO.out,Bool.true_and]),cO⟩
      case measure=>simp [intOf];omega
     ·
      obtain ⟨j,rfl⟩:∃ j,k=j+1:=⟨k - 1,by omega⟩;have hjr:j < rs.length:=by omega
      obtain ⟨q,hq⟩:∃ q,rs[j]=q:=⟨_,rfl⟩;have hrow2:=(HR.out.row j hjr).below dz.out;rw [hq] at hrow2;obtain ⟨f0,f1,f2,f3⟩:=hrow2;have m0:=cell_regrown f0;have m1:=cell_regrown f1;have m2:=cell_regrown f2;have m3:=cell_regrown f3
      have HO:Hid (Se.ok (Se.bO rs (j+1)) r=Op.bytesLess q.name.toList r.name.toList):=by
       show _=_;unfold Se.ok;rw [he,Se.CX hjr hq];rfl
      have hjs:((j+1:Nat):Int) - 1=(j:Int):=by omega
      clear he hq hk0;cases hlt2:Op.bytesLess q.name.toList r.name.toList
      ·
       rw [hlt2] at HO;go_wp2;refine wp_region_quiet_below (by kernel_rfl) (by kernel_rfl) ?_
       repeat (first | go_big_quiet_step (first | (go_at_call 72;exact c1 _ _ _)) | quiet_step (first | (go_at_call 72;exact c1 _ _ _)))
       refine wpQuiet_nil ?_;intro _ hw';obtain ⟨⟨dq,osq⟩,hw''⟩:=hw';subst hw'';have cO:=Lh (aj dz.out (below_regrown W dq osq));go_wp2;go_ret;exact ⟨ay (by rw [HT.out,<- HK.out,bX.out,HO.out,Bool.false_and]),aj HW.out cO.out⟩
      ·
       rw [hlt2] at HO;go_wp2;refine wp_region_quiet_below (by kernel_rfl) (by kernel_rfl) ?_
       repeat (first | go_big_quiet_step (first | (go_at_call 72;exact c1 _ _ _)) | quiet_step (first | (go_at_call 72;exact c1 _ _ _)))
       refine wpQuiet_nil ?_;intro _ hw';obtain ⟨⟨dq,osq⟩,hw''⟩:=hw';subst hw'';have cO:=Lh (aj dz.out (below_regrown W dq osq));go_wp2;go_roundw
       case rel=>exact ⟨j+1+1,by omega,by go_num,Lh (by rw [<- HK.out,bX.out,HO.out,Bool.true_and]),cO⟩
       case measure=>simp [intOf];omega
   ·
    obtain rfl:k=n:=by omega
    go_wp2;go_ret;exact ⟨ay (by rw [HT.out,<- HK.out,List.drop_eq_nil_of_le (Nat.le_of_eq HN.out.symm)];rfl),aj HW.out HB.out⟩
theorem Sr.jh (n:Nat) (hn:n<=1000) (u:World):(Instr.makeSlice 25 (.int .i64 0) (.int .i64 ((n:Int)+1))).run Tryz.prog u =
  .ok (.slice (some ⟨u.heap.size,0,none⟩) 0 (n+1)) (u.alloc (.cells (Sr.zeros (n+1)) 77)):=by
 obtain ⟨i0,hi,hz0,hz1,hz2⟩:=info_parts Sr.info;have h:=run_make (P:=Tryz.prog) u 25 77 i0 Sr.zeroV Tryz.underlying25 hi hz0 .i64 .i64 0 ((n:Int)+1) (by omega) (by omega) (by rw [hz2];omega) (by omega);rw [hz1,show ((n:Int)+1).toNat=n+1 from by omega,Sr.made] at h;exact h
theorem Sr.eT (u:World) (B c:Nat) (hB:B<=u.heap.size) (hc:c<=1000):Sr.Own (u.alloc (.cells (Sr.zeros c) 77)) B (.slice (some ⟨u.heap.size,0,none⟩) 0 c) [] :=
 ⟨rfl,.inr ⟨u.heap.size,c,Sr.zeros c,rfl,hB,heap_alloc_new u _,Nat.zero_le _,by have:maxLen=9223372036854775807:=rfl;omega,by unfold Sr.zeros;rw [List.size_toArray,Sr.aB,List.length_replicate],rfl⟩⟩
theorem Ro (rs:List Sr.T) (ao:Option Addr) (n cap:Nat) (r:Sr.T) (w:World) (hR:Sr.Ls w ao n cap rs) (hn:n < 8) :
  Calls Tryz.prog 130 #[.slice ao n cap,Sr.val r] w fun e w'=>∃ v,e=.returned v/\Sr.Own w' w.heap.size v (Se.dF rs r)/\Below w.heap.size w w':=by
 have HR:=Lh hR;have HN:=Lh hR.len;have hcap:=hR.reach;have hfit:=hR.fits;clear hR;unfold Sr.val;go_enter Tryz.func130,Tryz.ntmps130;go_wp2
 go_loopw [5] (fun i wr=>∃ k:Nat,k<=n/\i=.int .i64 k/\Hid (k+Se.spot r.name (rs.drop k)=Se.spot r.name rs)/\Hid (Below w.heap.size w wr)/\Hid (Sr.C wr w.heap.size r)) (fun i _=>n - (intOf i).toNat)
 case atStart=>exact ⟨0,by omega,rfl,Lh (Nat.zero_add _),Lh (Sr.aC w r),Lh (Sr.dO w r)⟩
 case round =>
  rename World=>wz
  obtain ⟨k,hk,rfl,HK,HB,KZ⟩:=hrel;have hC:=KZ.out;unfold Sr.C at hC;obtain ⟨a0,a1,a2,a3⟩:=hC;have l0:=cell_regrown a0;have l1:=cell_regrown a1;have l2:=cell_regrown a2;have l3:=cell_regrown a3;by_cases hlt:k < n
  ·
   obtain ⟨b,off,rfl⟩:=HR.out.at (by omega);have hkr:k < rs.length:=HN.out▸hlt;obtain ⟨q,hq⟩:∃ q,rs[k]=q:=⟨_,rfl⟩;have hrow:=(HR.out.row k hkr).below HB.out;have bX:=Lh (Se.mU r.name rs k hkr);rw [hq] at hrow bX;obtain ⟨g0,g1,g2,g3⟩:=hrow;have k0:=cell_regrown g0;have k1:=cell_regrown g1;have k2:=cell_regrown g2;have k3:=cell_regrown g3;clear hq;unfold Se.lt at bX;cases hqr:Op.bytesLess q.name.toList r.name.toList
   ·
    rw [hqr,if_neg (by simp)] at bX;have oW:Hid (Se.spot r.name rs=k):=Lh (by rw [<- HK.out,bX.out];rfl);go_wp2;refine wp_region_quiet_below (by kernel_rfl) (by kernel_rfl) ?_
    repeat (first | go_big_quiet_step (fail) | quiet_step (fail))
    refine wpQuiet_nil ?_;intro _ hw';obtain ⟨⟨dq,osq⟩,hw''⟩:=hw';subst hw'';have oo:=Lh (aj HB.out (below_regrown wz dq osq));have fM:=Lh (KZ.out.below (below_regrown wz dq osq));clear l0 l1 l2 l3 a0 a1 a2 a3 k0 k1 k2 k3 g0 g1 g2 g3 hqr;generalize grow (redrawn wz dq) osq=x at *;have HP:Hid (Se.dF rs r=rs.take k++r::rs.drop k):=Lh (by unfold Se.dF;rw [oW.out]);have BK:=Lh (HR.out.below oo.out);obtain ⟨hs1,lD⟩:=BK.out.to k (by omega);obtain ⟨mO,cap2,hs2,hR2⟩:=BK.out.from k (by omega)
    obtain ⟨j,hj⟩:∃ j,n - k=j:=⟨_,rfl⟩;rw [hj] at hs2 hR2;have HR1:=Lh lD;have HR2:=Lh hR2;have hjb:j<=8:=by omega
    have hkb:k<=8:=by omega
    have hmk:=Sr.jh n (by omega);clear lD hR2 hj;have hB1:Below x.heap.size x (x.alloc (.cells (Sr.zeros (n+1)) 77)):=(Below.refl _ _).alloc (Nat.le_refl _) _;have HB1:=Lh hB1;clear hB1;go_wp2_with (at_builtin;go_must (refine Sr.aG _ rfl (.tmp 27) (.tmp 30) rfl x.heap.size (.slice (some ⟨x.heap.size,0,none⟩) 0 (n+1)) [] rfl (Sr.eT x x.heap.size (n+1) (Nat.le_refl _) (by omega)) (some ⟨b,off,none⟩) k cap (rs.take k) rfl HR1.out.len HR1.out.nil (HR1.out.below HB1.out).seg (by simp only [List.length_nil];omega) (by simp) ?_));intro v1 y1 o1 vI _;have hb1:=HB1.out.grown vI HB1.out.size (Sr.bK (Sr.eT x x.heap.size (n+1) (Nat.le_refl _) (by omega)));have lY:Hid (∀ o,Sr.Own (y1.alloc o) x.heap.size v1 ([]++rs.take k)):=fun o=>Sr.bA o1 o
    have oQ:=Lh hb1;have hC:=fM.out.below hb1;unfold Sr.C at hC;obtain ⟨a0,a1,a2,a3⟩:=hC;have hsz1:x.heap.size<=y1.heap.size:=hb1.size;clear o1 vI hb1;go_wp2_with (at_builtin;go_must (refine Sr.aG _ rfl (.tmp 32) (.tmp 34) rfl x.heap.size v1 ([]++rs.take k) rfl (lY.out _) (some ⟨y1.heap.size,0,none⟩) 1 1 [r] rfl rfl (fun h=>by cases h) (Sr.bB (heap_alloc_new y1 _)) (by rw [List.nil_append,<- HR1.out.len];omega) (by simp;omega) ?_));intro v2 y2 o2 tu _;have hb2:=(oQ.out.alloc oQ.out.size (Sr.block r)).grown tu (oQ.out.alloc oQ.out.size (Sr.block r)).size (Sr.bK (lY.out (Sr.block r)));have lX:=Lh o2;have mP:=Lh hb2;clear o2 tu hb2 a0 a1 a2 a3;go_wp2_with (at_builtin;go_must (refine Sr.aG _ rfl (.tmp 36) (.tmp 39) rfl x.heap.size v2 ([]++rs.take k++[r]) rfl lX.out mO j cap2 (rs.drop k) rfl HR2.out.len HR2.out.nil (HR2.out.below mP.out).seg (by rw [List.nil_append,List.length_append,<- HR1.out.len,List.length_singleton];omega) mP.out.size ?_));intro v3 y3 o3 ou _;have hb3:=mP.out.grown ou mP.out.size (Sr.bK lX.out);have ow:=Lh o3;have xR:=Lh hb3;clear o3 ou hb3;go_wp2;go_ret;exact ⟨v3,rfl,by rw [HP.out];exact Sr.bD ow.out oo.out.size,aj oo.out xR.out⟩
   ·
    rw [hqr,if_pos rfl] at bX;go_wp2;refine wp_region_quiet_below (by kernel_rfl) (by kernel_rfl) ?_
    repeat (first | go_big_quiet_step (fail) | quiet_step (fail))
    refine wpQuiet_nil ?_;intro _ hw';obtain ⟨⟨dq,osq⟩,hw''⟩:=hw';subst hw'';have cO:=Lh (aj HB.out (below_regrown wz dq osq));go_wp2;go_roundw
    case rel=>exact ⟨k+1,by omega,by go_num,Lh (by rw [<- HK.out,bX.out];omega),cO,Lh (KZ.out.below (below_regrown wz dq osq))⟩
    case measure=>simp [intOf];omega
  ·
   obtain rfl:k=n:=by omega
   have oW:Hid (Se.spot r.name rs=k):=Lh (by rw [<- HK.out,List.drop_eq_nil_of_le (Nat.le_of_eq HN.out.symm)];rfl);go_wp2;refine wp_region_quiet_below (by kernel_rfl) (by kernel_rfl) ?_
   repeat (first | go_big_quiet_step (fail) | quiet_step (fail))
   refine wpQuiet_nil ?_;intro _ hw';obtain ⟨⟨dq,osq⟩,hw''⟩:=hw';subst hw'';have oo:=Lh (aj HB.out (below_regrown wz dq osq));have fM:=Lh (KZ.out.below (below_regrown wz dq osq));clear l0 l1 l2 l3 a0 a1 a2 a3;generalize grow (redrawn wz dq) osq=x at *;have HP:Hid (Se.dF rs r=rs.take k++r::rs.drop k):=Lh (by unfold Se.dF;rw [oW.out]);have BK:=Lh (HR.out.below oo.out);obtain ⟨hs1,lD⟩:=BK.out.to k (by omega);obtain ⟨mO,cap2,hs2,hR2⟩:=BK.out.from k (by omega)
   obtain ⟨j,hj⟩:∃ j,k - k=j:=⟨_,rfl⟩;rw [hj] at hs2 hR2;have HR1:=Lh lD;have HR2:=Lh hR2;have hjb:j<=8:=by omega
   have hkb:k<=8:=by omega
   have hmk:=Sr.jh k (by omega);clear lD hR2 hj;have hB1:Below x.heap.size x (x.alloc (.cells (Sr.zeros (k+1)) 77)):=(Below.refl _ _).alloc (Nat.le_refl _) _;have HB1:=Lh hB1;clear hB1;go_wp2_with (at_builtin;go_must (refine Sr.aG _ rfl (.tmp 27) (.tmp 30) rfl x.heap.size (.slice (some ⟨x.heap.size,0,none⟩) 0 (k+1)) [] rfl (Sr.eT x x.heap.size (k+1) (Nat.le_refl _) (by omega)) ao k cap (rs.take k) rfl HR1.out.len HR1.out.nil (HR1.out.below HB1.out).seg (by simp only [List.length_nil];omega) (by simp) ?_));intro v1 y1 o1 vI _;have hb1:=HB1.out.grown vI HB1.out.size (Sr.bK (Sr.eT x x.heap.size (k+1) (Nat.le_refl _) (by omega)));have lY:Hid (∀ o,Sr.Own (y1.alloc o) x.heap.size v1 ([]++rs.take k)):=fun o=>Sr.bA o1 o
   have oQ:=Lh hb1;have hC:=fM.out.below hb1;unfold Sr.C at hC;obtain ⟨a0,a1,a2,a3⟩:=hC;have hsz1:x.heap.size<=y1.heap.size:=hb1.size;clear o1 vI hb1;go_wp2_with (at_builtin;go_must (refine Sr.aG _ rfl (.tmp 32) (.tmp 34) rfl x.heap.size v1 ([]++rs.take k) rfl (lY.out _) (some ⟨y1.heap.size,0,none⟩) 1 1 [r] rfl rfl (fun h=>by cases h) (Sr.bB (heap_alloc_new y1 _)) (by rw [List.nil_append,<- HR1.out.len];omega) (by simp;omega) ?_));intro v2 y2 o2 tu _;have hb2:=(oQ.out.alloc oQ.out.size (Sr.block r)).grown tu (oQ.out.alloc oQ.out.size (Sr.block r)).size (Sr.bK (lY.out (Sr.block r)));have lX:=Lh o2;have mP:=Lh hb2;clear o2 tu hb2 a0 a1 a2 a3;go_wp2_with (at_builtin;go_must (refine Sr.aG _ rfl (.tmp 36) (.tmp 39) rfl x.heap.size v2 ([]++rs.take k++[r]) rfl lX.out mO j cap2 (rs.drop k) rfl HR2.out.len HR2.out.nil (HR2.out.below mP.out).seg (by rw [List.nil_append,List.length_append,<- HR1.out.len,List.length_singleton];omega) mP.out.size ?_));intro v3 y3 o3 ou _;have hb3:=mP.out.grown ou mP.out.size (Sr.bK lX.out);have ow:=Lh o3;have xR:=Lh hb3;clear o3 ou hb3;go_wp2;go_ret;exact ⟨v3,rfl,by rw [HP.out];exact Sr.bD ow.out oo.out.size,aj oo.out xR.out⟩
def Xy (w:World) (rs:List Sr.T) (s:ByteArray) (m:Int) (e:Ending) (w':World):Prop:=∃ v,e=.returned (.tuple #[v,.int .i64 (Se.eX rs s m)])/\Sr.Own w' w.heap.size v (Se.jT rs s m)/\Below w.heap.size w w'
def Xz (w:World) (rs:List Sr.T) (s:ByteArray) (e:Ending) (w':World):Prop:=∃ v,e=.returned (.tuple #[v,.int .i64 (Se.mV rs s)])/\Sr.Own w' w.heap.size v (Se.sQ rs s)/\Below w.heap.size w w'
def TakeE (w:World) (rs:List Sr.T) (s:ByteArray) (e:Ending) (w':World):Prop:=∃ v,e=.returned (.tuple #[v,.int .i64 (Se.takeN rs s),.int .i64 (Se.iw rs s)])/\Sr.Own w' w.heap.size v (Se.pJ rs s)/\Below w.heap.size w w'
theorem Rq (rs:List Sr.T) (s:ByteArray) (m:Int) (ao:Option Addr) (n cap:Nat) (w:World) (hR:Sr.Ls w ao n cap rs) (hs:s.size<=140737488355328) :
  Calls Tryz.prog 86 #[.slice ao n cap,.string s,.int .i64 m] w (Xy w rs s m):=by
 have HR:=Lh hR;have HN:=Lh hR.len;have HS:=Lh hs;have hcap:=hR.reach;have hfit:=hR.fits;clear hR hs;go_enter Tryz.func86,Tryz.ntmps86;go_wp2_with fail;refine (wN rs ao n cap _ _ (Below.refl _ _) HR.out).mono ?_;rintro e w1 ⟨rfl,b1⟩;have HB1:=Lh b1;clear b1;cases hT:Se.aA rs
 ·
  have HP:=Lh (Se.Px (s:=s) (n:=m) hT);clear hT;go_wp2_with fail;go_ret2;exact ⟨_,by rw [HP.out.1];rfl,by rw [HP.out.2];exact Sr.aN _ _,HB1.out⟩
 ·
  have HT:=Lh hT;clear hT;go_wp2_with fail;refine (FN s _ _ HB1.out HS.out).mono ?_;rintro e w2 ⟨rfl,b2⟩;have HB2:=Lh b2;clear b2;cases hn:Rn.name (txt s)
  ·
   have HP:=Lh (Se.Md (n:=m) HT.out hn);clear hn;go_wp2_with fail;go_ret2;exact ⟨_,by rw [HP.out.1];rfl,by rw [HP.out.2];exact Sr.aN _ _,HB2.out⟩
  ·
   have Rl:=Lh hn;clear hn;go_wp2_with fail;refine (zN m _).mono ?_;rintro e w3 ⟨rfl,rfl⟩;cases hl:Se.lim m
   ·
    have HP:=Lh (Se.Py HT.out Rl.out hl);clear hl;go_wp2_with fail;go_ret2;exact ⟨_,by rw [HP.out.1];rfl,by rw [HP.out.2];exact Sr.aN _ _,HB2.out⟩
   ·
    have HLm:=Lh hl;clear hl;go_wp2_with fail;refine (wM rs s ao n cap _ _ HB2.out (HR.out.below HB2.out)).mono ?_;rintro e w4 ⟨rfl,b4⟩;have pR:=Lh b4;have HI:Hid (Se.ix s rs<=n):=Lh (by have:=Se.qD s rs;have:=HN.out;omega);clear b4;obtain ⟨i,hi⟩:∃ i,Se.ix s rs=i:=⟨_,rfl⟩;have FV:=Lh hi;rw [hi] at HI;rw [hi];clear hi;have hin:=HI.out;by_cases hlt:i < n
    ·
     have HP:=Lh (Se.Il HT.out Rl.out HLm.out (by rw [FV.out];exact HN.out▸hlt));go_wp2_with fail;go_ret2;exact ⟨_,by rw [HP.out.1];rfl,by rw [HP.out.2];exact Sr.aN _ _,pR.out⟩
    ·
     have cK:Hid (¬ Se.ix s rs < rs.length):=Lh (by rw [FV.out];exact HN.out▸hlt);by_cases h8:n=8
     ·
      have hq:((n:Int)==8)=true:=beq_iff_eq.2 (by omega);have HP:=Lh (Se.Me HT.out Rl.out HLm.out cK.out (by have:=HN.out;omega));clear h8;go_wp2_with fail;go_ret2;exact ⟨_,by rw [HP.out.1];rfl,by rw [HP.out.2];exact Sr.aN _ _,pR.out⟩
     ·
      have hq:((n:Int)==8)=false:=beq_eq_false_iff_ne.2 (by omega);have Vk:Hid (n < 8):=Lh (by have h1:=((Se.aJ rs).1 HT.out).1;have:=HN.out;omega);have HP:=Lh (Se.Kq HT.out Rl.out HLm.out cK.out (by have:=Vk.out;have:=HN.out;omega));clear h8;go_wp2_with fail;refine (Ro rs ao n cap ⟨s,1,m,false⟩ _ (HR.out.below pR.out) Vk.out).mono ?_;rintro e w5 ⟨v,rfl,o5,b5⟩;have HO:=Lh (Sr.bD o5 pR.out.size);have tZ:=Lh (aj pR.out b5);clear o5 b5;go_wp2_with fail;go_ret2;exact ⟨v,by rw [HP.out.1];rfl,by rw [HP.out.2];exact HO.out,tZ.out⟩
def Z9 (rs:List Sr.T) (s:ByteArray):Int:=if Se.mV rs s=0 then (Se.ix s rs:Nat) else 0
theorem zO (rs:List Sr.T) (s:ByteArray) (ao:Option Addr) (n cap:Nat) (w0 w:World) (hw:Below w0.heap.size w0 w) (hR:Sr.Ls w ao n cap rs) :
  Calls Tryz.prog 131 #[.slice ao n cap,.string s] w fun e w'=>e=.returned (.tuple #[.int .i64 (Z9 rs s),.int .i64 (Se.mV rs s)])/\Below w0.heap.size w0 w':=by
 have HW:=Lh hw;have HR:=Lh hR;have HN:=Lh hR.len;have hcap:=hR.reach;have hfit:=hR.fits;clear hR hw;go_enter Tryz.func131,Tryz.ntmps131;go_wp2_with fail;refine (wN rs ao n cap _ _ (Below.refl _ _) HR.out).mono ?_;rintro e w1 ⟨rfl,b1⟩;have HB1:=Lh b1;clear b1;cases hT:Se.aA rs
 ·
  have HP:=Lh (Se.Ym (s:=s) hT);clear hT;go_wp2_with fail;go_ret2;exact ⟨by unfold Z9;rw [HP.out];rfl,aj HW.out HB1.out⟩
 ·
  have HT:=Lh hT;clear hT;go_wp2_with fail;refine (wM rs s ao n cap _ _ HB1.out (HR.out.below HB1.out)).mono ?_;rintro e w2 ⟨rfl,b2⟩;have HB2:=Lh b2;have HI:Hid (Se.ix s rs<=n):=Lh (by have:=Se.qD s rs;have:=HN.out;omega);clear b2;by_cases hlt:Se.ix s rs < rs.length
  ·
   have hO:=Se.dH hlt;have FX:=Lh hlt;have Lc:0 < n:=by have:=HN.out;omega
   obtain ⟨b,off,rfl⟩:=HR.out.at Lc;have hrow:=(HR.out.row (Se.ix s rs) hlt).below HB2.out;rw [<- hO] at hrow;obtain ⟨r,hr⟩:∃ r,Se.own rs s=r:=⟨_,rfl⟩;have sD:=Lh hr;rw [hr] at hrow;clear hO hr;have hin:Se.ix s rs < n:=by have:=HN.out;omega
   clear hlt;obtain ⟨i,hi⟩:∃ i,Se.ix s rs=i:=⟨_,rfl⟩;have FV:=Lh hi;rw [hi] at hrow hin;rw [hi];clear hi HI;obtain ⟨g0,g1,g2,g3⟩:=hrow;have hq:((i:Int)==(n:Int))=false:=beq_eq_false_iff_ne.2 (by omega);cases hsh:r.shut
   ·
    rw [hsh] at g3;have HP:=Lh (Se.un_ok HT.out FX.out (by rw [sD.out];exact hsh));clear hsh;go_wp2_with fail;go_ret2;exact ⟨by unfold Z9;rw [HP.out,FV.out];rfl,aj HW.out HB2.out⟩
   ·
    rw [hsh] at g3;have HP:=Lh (Se.Uq HT.out FX.out (by rw [sD.out];exact hsh));clear hsh;go_wp2_with fail;go_ret2;exact ⟨by unfold Z9;rw [HP.out];rfl,aj HW.out HB2.out⟩
  ·
   have HP:=Lh (Se.Uo HT.out hlt);have FV:Hid (Se.ix s rs=n):=Lh (by have:=Se.qD s rs;have:=HN.out;omega);rw [FV.out];have hq:((n:Int)==(n:Int))=true:=beq_self_eq_true _;clear hlt;go_wp2_with fail;go_ret2;exact ⟨by unfold Z9;rw [HP.out];rfl,aj HW.out HB2.out⟩
theorem BN (rs:List Sr.T) (ao:Option Addr) (n cap:Nat) (w:World) (hR:Sr.Ls w ao n cap rs) (hn:n<=1000) :
  Calls Tryz.prog 132 #[.slice ao n cap] w fun e w'=>e=.returned (.slice (some ⟨w.heap.size,0,none⟩) n n)/\Sr.Block w' w.heap.size rs/\Below w.heap.size w w':=by
 have HR:=Lh hR;have hcap:=hR.reach;have hfit:=hR.fits;have hmk:=Sr.make n (by omega);have eD:=Sr.aZ w n;have hbel0:Below w.heap.size w (w.alloc (.cells (Sr.zeros n) 77)):=(Below.refl _ _).alloc (Nat.le_refl _) _;obtain ⟨W1,hcp,hblk,hbel,hsz⟩:=Sr.copy (w.alloc (.cells (Sr.zeros n) 77)) w.heap.size [] n ao n cap rs (by rw [List.append_nil];exact eD) hR.len ((hR.below hbel0).seg);rw [List.length_nil,Nat.add_zero] at hcp;rw [List.append_nil] at hblk;have HB1:=Lh (hbel _ _ hbel0 (Nat.le_refl _));have gV:=Lh hblk;clear hblk hbel eD hbel0 hR;go_enter Tryz.func132,Tryz.ntmps132;go_wp2;go_ret;exact ⟨rfl,gV.out,HB1.out⟩
namespace Sr
theorem BO (r:T) (p:Nat) (x:Value) (hp:p < 4):∀ (M:List T) (k:Nat) (hk:k < M.length),rv r=(rv M[k]).set p x->(M.set k r).flatMap rv=(M.flatMap rv).set (k*4+p) x
 | a::l,0,_,h=>by
  have h':rv r=(rv a).set p x:=h;rw [List.set_cons_zero,List.flatMap_cons,List.flatMap_cons,Nat.zero_mul,Nat.zero_add,List.set_append_left _ _ (by rw [aM];exact hp),h']
 | a::l,k+1,hk,h=>by
  have ih:=BO r p x hp l k (by simpa using hk) (by simpa using h);rw [List.set_cons_succ,List.flatMap_cons,List.flatMap_cons,List.set_append_right _ _ (by rw [aM];omega),aM,show (k+1)*4+p - 4=k*4+p by omega,ih]
theorem zP {M:List T} (h:Own w B (.slice (some ⟨g,0,none⟩) n cap) M) (k p:Nat) (hk:k < M.length) (hp:p < 4) (x:Value) (r:T) (hr:rv r=(rv M[k]).set p x) :
  Own (w.setCell ⟨g,k*4+p,none⟩ x) B (.slice (some ⟨g,0,none⟩) n cap) (M.set k r):=by
 rcases h.2 with ⟨h',_⟩ | ⟨g',cap',cur,h',hb,hg,hnc,hcm,hcs,htake⟩
 · cases h'
 ·
  simp only [Value.slice.injEq,Option.some.injEq,Addr.mk.injEq,and_true] at h';obtain ⟨e1,e2,e3⟩:=h';subst e1 e3;have h1:=heap_setCell_same _ g (k*4+p) _ _ x hg;refine ⟨by rw [aB],.inr ⟨g,cap,_,by rw [List.length_set,e2],hb,h1,by rw [List.length_set];exact hnc,hcm,by simpa using hcs,?_⟩⟩;rw [List.length_set,BO r p x hp M k hk hr];simp only [Array.toList_setIfInBounds];rw [<- htake];simp only [List.take_set]
theorem BP {M:List T} (h:Block w g M) (hB:B<=g) (hn:n=M.length) (hm:n<=100000):Own w B (.slice (some ⟨g,0,none⟩) n n) M:=by
 subst hn;exact ⟨by rw [aB],.inr ⟨g,M.length,_,rfl,hB,h,Nat.le_refl _,by have:maxLen=9223372036854775807:=rfl;omega,by rw [List.size_toArray,aB],List.take_of_length_le (by show (M.flatMap rv).length<=_;rw [aB];exact Nat.le_refl _)⟩⟩
end Sr
theorem XA {rs:List Sr.T} (h:Se.mV rs s=0):Z9 rs s=(Se.ix s rs:Nat):=if_pos h
theorem Ru (rs:List Sr.T) (s:ByteArray) (ao:Option Addr) (n cap:Nat) (w:World) (hR:Sr.Ls w ao n cap rs) :
  Calls Tryz.prog 88 #[.slice ao n cap,.string s] w (Xz w rs s):=by
 have HR:=Lh hR;have HN:=Lh hR.len;have hcap:=hR.reach;have hfit:=hR.fits;clear hR;go_enter Tryz.func88,Tryz.ntmps88;go_wp2_with fail;refine (zO rs s ao n cap _ _ (Below.refl _ _) HR.out).mono ?_;rintro e w1 ⟨rfl,b1⟩;have HB1:=Lh b1;clear b1;by_cases hE:Se.mV rs s=0
 ·
  have HE:=Lh hE;obtain ⟨hT,hlt,_⟩:=Se.AQ hE;have hn8:n<=8:=by have:=((Se.aJ rs).1 hT).1;have:=HN.out;omega
  have FX:=Lh hlt;have HO:=Lh (Se.mR hlt);rw [hE,XA hE];have hin:Se.ix s rs < n:=by have:=HN.out;omega
  obtain ⟨i,hi⟩:∃ i,Se.ix s rs=i:=⟨_,rfl⟩;have FV:=Lh hi;rw [hi] at hin HO;rw [hi];clear hi hE hT hlt;go_wp2_with fail;refine (BN rs ao n cap _ (HR.out.below HB1.out) (by omega)).mono ?_;rintro e w2 ⟨rfl,k2,b2⟩;have Lb:=Lh (Sr.BP (B:=w1.heap.size) k2 (Nat.le_refl _) HN.out (by omega));have HB2:=Lh (And.intro (aj HB1.out b2) HB1.out.size);have hkl:i < rs.length:=by have:=HN.out;omega
  obtain ⟨hAt,hfz,hge⟩:=Sr.dH Lb.out i hkl;obtain ⟨c0,c1,c2,c3⟩:=hAt;clear k2 b2 c0 c1 c2 hge;generalize w1.heap.size=g at *;have hf3:=hfz (i*4+3);clear hfz;go_wp2_with fail;go_ret2;refine ⟨_,by rw [HE.out];rfl,?_,bU HB2.out.1 HB2.out.2 _ _⟩;rw [Se.yP HE.out,FV.out];refine Sr.bD (Sr.zP Lb.out i 3 hkl (by omega) (.bool true) _ ?_) HB2.out.2;have hx:rs[i]=Se.own rs s:=Option.some.inj ((List.getElem?_eq_getElem hkl).symm.trans HO.out);rw [hx];rfl
 ·
  have HP:=Lh (Se.Ur hE);obtain ⟨e,he⟩:∃ e,Se.mV rs s=e:=⟨_,rfl⟩;have HE:=Lh he;have hne:(e != 0)=true:=bne_iff_ne.2 (he▸hE);rw [he];clear he hE;go_wp2_with fail;go_ret2;exact ⟨_,by rw [HE.out];rfl,by rw [HP.out];exact Sr.aN _ _,HB1.out⟩
theorem Rv (rs:List Sr.T) (s:ByteArray) (ao:Option Addr) (n cap:Nat) (w:World) (hR:Sr.Ls w ao n cap rs) :
  Calls Tryz.prog 169 #[.slice ao n cap,.string s] w (TakeE w rs s):=by
 have HR:=Lh hR;have HN:=Lh hR.len;have hcap:=hR.reach;have hfit:=hR.fits;clear hR;go_enter Tryz.func169,Tryz.ntmps169;go_wp2_with fail;refine (zO rs s ao n cap _ _ (Below.refl _ _) HR.out).mono ?_;rintro e w1 ⟨rfl,b1⟩;have HB1:=Lh b1;clear b1;by_cases hE:Se.mV rs s=0
 ·
  have HE:=Lh hE;obtain ⟨hT,hlt,_⟩:=Se.AQ hE;have hn8:n<=8:=by have:=((Se.aJ rs).1 hT).1;have:=HN.out;omega
  have hO:=Se.dH hlt;have HO:=Lh (Se.mR hlt);rw [hE,XA hE];have hin:Se.ix s rs < n:=by have:=HN.out;omega
  obtain ⟨b,off,rfl⟩:=HR.out.at (by omega);have hrow:=(HR.out.row (Se.ix s rs) hlt).below HB1.out;rw [<- hO] at hrow;obtain ⟨r,hr⟩:∃ r,Se.own rs s=r:=⟨_,rfl⟩;have sD:=Lh hr;have hsd:=Se.bL.1 (((Se.aJ rs).1 hT).2.1 _ (Se.dP hlt));rw [hr] at hrow hsd;have hlm:=Se.lQ.1 hsd.2.1;have hnx:=hsd.2.2;obtain ⟨i,hi⟩:∃ i,Se.ix s rs=i:=⟨_,rfl⟩;have FV:=Lh hi;rw [hi] at hin hrow HO;rw [hi];obtain ⟨g0,g1,g2,g3⟩:=hrow;clear hi hE hT hlt hO hr hsd;by_cases hf:r.limit < r.next
  ·
   have HP:=Lh (Se.wB HE.out (by rw [sD.out];exact hf));go_wp2_with fail;exact bodyPost_ret (by simp [results,Tryz.results169,go_sem];rfl) rfl ⟨_,by rw [HP.out.1,HP.out.2.1],by rw [HP.out.2.2];exact Sr.aN _ _,HB1.out⟩
  ·
   have HP:=Lh (Se.xY HE.out (by rw [sD.out];exact hf));go_wp2_with fail;refine (BN rs (some ⟨b,off,none⟩) n cap _ (HR.out.below HB1.out) (by omega)).mono ?_;rintro e w2 ⟨rfl,k2,b2⟩;have Lb:=Lh (Sr.BP (B:=w1.heap.size) k2 (Nat.le_refl _) HN.out (by omega));have HB2:=Lh (And.intro (aj HB1.out b2) HB1.out.size);have hkl:i < rs.length:=by have:=HN.out;omega
   obtain ⟨hAt,hfz,hge⟩:=Sr.dH Lb.out i hkl;obtain ⟨c0,c1,c2,c3⟩:=hAt;clear k2 b2 c0 c2 c3 hge g0 g1 g2 g3;generalize w1.heap.size=g at *;have hf3:=hfz (i*4+1);clear hfz;go_wp2_with fail;refine bodyPost_ret (by simp [results,Tryz.results169,go_sem];rfl) rfl ⟨_,by rw [HP.out.1,HP.out.2.1,sD.out],?_,bU HB2.out.1 HB2.out.2 _ _⟩;rw [HP.out.2.2,FV.out];refine Sr.bD (Sr.zP Lb.out i 1 hkl (by omega) _ _ ?_) HB2.out.2;have hx:rs[i]=r:=(Option.some.inj ((List.getElem?_eq_getElem hkl).symm.trans HO.out)).trans sD.out;rw [hx,sD.out];rfl
 ·
  have HP:=Lh (Se.CY hE);obtain ⟨e,he⟩:∃ e,Se.mV rs s=e:=⟨_,rfl⟩;have HE:=Lh he;have hne:(e != 0)=true:=bne_iff_ne.2 (he▸hE);rw [he];clear he hE;go_wp2_with fail;exact bodyPost_ret (by simp [results,Tryz.results169,go_sem];rfl) rfl ⟨_,by rw [HP.out.1,HP.out.2.1,HE.out],by rw [HP.out.2.2];exact Sr.aN _ _,HB1.out⟩
theorem frz (w:World) (r:Sr.T) (o:Nat):(Sr.box w r).frozen? ⟨w.heap.size,o,none⟩=false:=frozen_of_row (Sr.box w r) w.heap.size o _ _ (heap_alloc_new w _)
theorem Rw (rs:List Sr.T) (s:ByteArray) (ao:Option Addr) (n cap:Nat) (w0 w:World) (hw:Below w0.heap.size w0 w) (hR:Sr.Ls w ao n cap rs) :
  Calls Tryz.prog 139 #[.slice ao n cap,.string s] w fun e w'=>e=.returned (.tuple #[Sr.val (Se.own rs s),.bool (decide (Se.ix s rs < rs.length))])/\Below w0.heap.size w0 w':=by
 have HW:=Lh hw;have HR:=Lh hR;have HN:=Lh hR.len;have hcap:=hR.reach;have hfit:=hR.fits;clear hR hw;go_enter Tryz.func139,Tryz.ntmps139;go_wp2_with fail;refine (wM rs s ao n cap (Sr.box w Sr.zero) _ (Below.refl _ _) (HR.out.below (Sr.aC w Sr.zero))).mono ?_;rintro e w1 ⟨rfl,b1⟩;have hC:=(Sr.dO w Sr.zero).below b1;unfold Sr.C at hC;obtain ⟨a0,a1,a2,a3⟩:=hC;have hsz:w.heap.size < (Sr.box w Sr.zero).heap.size:=by rw [Sr.dh];omega
 have f0:=((aD b1).2 w.heap.size 0 hsz).trans (frz w Sr.zero 0);have f1:=((aD b1).2 w.heap.size 1 hsz).trans (frz w Sr.zero 1);have f2:=((aD b1).2 w.heap.size 2 hsz).trans (frz w Sr.zero 2);have f3:=((aD b1).2 w.heap.size 3 hsz).trans (frz w Sr.zero 3);have hB1:=aj (Sr.aC w Sr.zero) b1;have HB1:=Lh (And.intro (aj HW.out hB1) HW.out.size);have YO:=Lh hB1;clear b1 hsz hB1;by_cases hlt:Se.ix s rs < rs.length
 ·
  have hO:=Se.dH hlt;have hin:Se.ix s rs < n:=by have:=HN.out;omega
  obtain ⟨b,off,rfl⟩:=HR.out.at (by omega);have hrow:=(HR.out.row (Se.ix s rs) hlt).below YO.out;rw [<- hO] at hrow;have HD:=Lh (decide_eq_true hlt);obtain ⟨r,hr⟩:∃ r,Se.own rs s=r:=⟨_,rfl⟩;rw [hr] at hrow;have sD:=Lh hr;obtain ⟨i,hi⟩:∃ i,Se.ix s rs=i:=⟨_,rfl⟩;rw [hi] at hrow hin;rw [hi];obtain ⟨g0,g1,g2,g3⟩:=hrow;have hq:((i:Int)==(n:Int))=false:=beq_eq_false_iff_ne.2 (by omega);clear hlt hi hr hO;go_wp2_with fail;exact bodyPost_ret (v:=.tuple #[Sr.val r,.bool true]) (by simp [results,Sr.val,Tryz.results139,go_sem,a0,a1,a2,a3]) rfl ⟨by rw [sD.out,HD.out],bU (bU (bU (bU HB1.out.1 HB1.out.2 _ _) HB1.out.2 _ _) HB1.out.2 _ _) HB1.out.2 _ _⟩
 ·
  have hO:=Se.nL hlt;have sD:=Lh hO;have HD:=Lh (decide_eq_false hlt);have hix:Se.ix s rs=n:=by have:=Se.qD s rs;have:=HN.out;omega
  rw [hix];have hq:((n:Int)==(n:Int))=true:=beq_self_eq_true _;clear hlt hO hix;go_wp2_with fail;exact bodyPost_ret (v:=.tuple #[Sr.val Sr.zero,.bool false]) (by simp [results,Sr.val,Sr.zero,Tryz.results139,go_sem,a0,a1,a2,a3];rfl) rfl ⟨by rw [sD.out,HD.out],bU (bU (bU (bU HB1.out.1 HB1.out.2 _ _) HB1.out.2 _ _) HB1.out.2 _ _) HB1.out.2 _ _⟩
end Go.Proofs.YtpfdnemaaeolcaaGreat
namespace Go.Proofs.YtpfdnemaaeolcaaGreat.Bl
open Vt (Rt)
theorem fit_1:Fit 1:=⟨by omega,by omega⟩
theorem eF:Fit 0:=⟨by omega,by omega⟩
theorem Jh {L:List Sr.T} {m:Int} (hL:∀ r∈L,Sr.Short r) (hs:s.size<=140737488355328) (hm:Fit m):∀ r∈Se.jT L s m,Sr.Short r:=by
 intro r hr;unfold Se.jT at hr;split at hr
 ·
  rcases Se.fQ.1 hr with rfl | hr
  · exact ⟨hs,fit_1,hm⟩
  · exact hL r hr
 · cases hr
theorem Ji {L:List Sr.T} (hL:∀ r∈L,Sr.Short r):∀ r∈Se.sQ L s,Sr.Short r:=by
 intro r hr;unfold Se.sQ at hr;split at hr
 ·
  rename_i h;rcases Se.oM (Se.AQ h).2.1 r hr with rfl | hr
  ·
   have:=hL _ (Se.dP (Se.AQ h).2.1);exact ⟨this.1,this.2.1,this.2.2⟩
  · exact hL r hr
 · cases hr
theorem Jj {L:List Sr.T} (hL:∀ r∈L,Sr.Short r):∀ r∈Se.pJ L s,Sr.Short r:=by
 intro r hr;by_cases h:Se.mV L s=0
 ·
  by_cases k:(Se.own L s).limit < (Se.own L s).next
  ·
   rw [(Se.wB h k).2.2] at hr;cases hr
  ·
   rw [(Se.xY h k).2.2] at hr;obtain ⟨h1,h2,h3⟩:=Se.AQ h;rcases Se.oM h2 r hr with rfl | hr
   ·
    have:=hL _ (Se.dP h2);obtain ⟨k1,k2,k3,k4⟩:=Se.bL.1 (((Se.aJ L).1 h1).2.1 _ (Se.dP h2));have k5:=Se.lQ.1 k2;refine ⟨this.1,?_,this.2.2⟩;show -9223372036854775808<=(Se.own L s).next+1/\(Se.own L s).next+1<=9223372036854775807;omega
   · exact hL r hr
 ·
  rw [(Se.CY h).2.2] at hr;cases hr
theorem zQ {L:List Sr.T} (hL:∀ r∈L,Sr.Short r):Fit (Se.takeN L s):=by
 unfold Se.takeN;split
 ·
  rename_i h
  have h1:Se.mV L s=0:=by
   unfold Se.iw at h;split at h
   ·
    rename_i q;exact absurd h q
   ·
    rename_i q;exact Decidable.not_not.1 q
  exact (hL _ (Se.dP (Se.AQ h1).2.1)).2.1
 · exact eF
theorem Nq {L:List Rt} {r:Rt} (hL:∀ x∈L,Short x) (hr:Short r):∀ x∈Vt.pX L r,Short x:=by
 intro x hx;unfold Vt.pX at hx;split at hx
 ·
  unfold Vt.qB at hx;rcases List.mem_append.1 hx with h | h
  · exact hL x (List.mem_of_mem_take h)
  ·
   rcases List.mem_cons.1 h with rfl | h
   · exact hr
   · exact hL x (List.mem_of_mem_drop h)
 · cases hx
def FY (s:Bl.St) (r:Rt):Bl.St:=if Vt.iQ s.tab r=0 then ⟨Vt.pX s.tab r,s.av,s.post,s.book,s.ak,s.next⟩ else s
theorem Vl {s:Bl.St} {r:Rt} (h:Vt.iQ s.tab r=0):FY s r=⟨Vt.pX s.tab r,s.av,s.post,s.book,s.ak,s.next⟩:=if_pos h
theorem Vm {s:Bl.St} {r:Rt} (h:Vt.iQ s.tab r≠0):FY s r=s:=if_neg h
def zR (s:Bl.St) (i:Int):Bl.St:=if Sp.dU s.ak i=0 then ⟨s.tab,s.av,s.post,s.book,Sp.iX s.ak i,s.next⟩ else s
theorem yY {s:Bl.St} (h:Sp.dU s.ak i=0):zR s i=⟨s.tab,s.av,s.post,s.book,Sp.iX s.ak i,s.next⟩:=if_pos h
theorem Ry {s:Bl.St} (h:Sp.dU s.ak i≠0):zR s i=s:=if_neg h
def BQ (s:Bl.St) (i q:Int) (r:Rp.T):Bl.St:=if Sp.lI s.ak i q=0 then ⟨s.tab,s.av,s.post,s.book,Sp.keepR s.ak i q r.why r.num r.au,s.next⟩ else s
theorem vB {s:Bl.St} {q:Int} {r:Rp.T} (h:Sp.lI s.ak i q=0):BQ s i q r=⟨s.tab,s.av,s.post,s.book,Sp.keepR s.ak i q r.why r.num r.au,s.next⟩:=if_pos h
theorem Ld {s:Bl.St} {q:Int} {r:Rp.T} (h:Sp.lI s.ak i q≠0):BQ s i q r=s:=if_neg h
end Go.Proofs.YtpfdnemaaeolcaaGreat.Bl
set_option maxRecDepth 100000
set_option linter.unusedVariables false
namespace Go.Proofs.YtpfdnemaaeolcaaGreat
open Go.RowKit
open Mem
open Go.Sort (grow)
def Bl.uy (P:Nat->Prop) (w:World) (s:Bl.St) (r:Rp.T) (e:Ending) (w':World):Prop:=∃ h:Bl.Sv,e=.returned (.tuple #[h.val,Rp.val r])/\Bl.Lp (nw P w) w' h s/\Below w.heap.size w w'
def Bl.ListE (w:World) (h:Bl.Sv) (l:Sl) (n:Int) (e:Ending) (w':World):Prop:=((n=0/\e=.returned (.tuple #[Bl.Sv.val ⟨h.tab,l,h.post,h.book,h.ak,h.next⟩,Rp.val ⟨0,0,0⟩]))\/(n≠0/\e=.returned (.tuple #[h.val,Rp.val ⟨n,0,0⟩])))/\Below w.heap.size w w'
theorem FZ (h:Bl.Sv) (l:Sl) (n:Int) (w:World) :
  Calls Tryz.prog 87 #[h.val,.slice l.ao l.n l.cap,.int .i64 n] w (Bl.ListE w h l n):=by
 obtain ⟨U,hU,hA,hF⟩:=Bl.fr3 w h;have HA:=Lh hA;have HF:=Lh hF;by_cases h0:n=0
 ·
  subst h0;obtain ⟨x0,x1,x2,x3,x4,x5⟩:=hA.cells;have z1:=hA.frozen 1;have hA2:Bl.At (U.setCell ⟨w.heap.size,1,none⟩ (.slice l.ao l.n l.cap)) w.heap.size ⟨h.tab,l,h.post,h.book,h.ak,h.next⟩:=(Bl.bY hA 1 _).trans rfl;have hF2:Bl.Fr w (U.setCell ⟨w.heap.size,1,none⟩ (.slice l.ao l.n l.cap)) (w.heap.size+1) (w.heap.size+1+1):=hF.set (Nat.le_refl _) (by omega) _ _;have ko:=Lh hF2;have hS:=hF2.st;have hR:=hF2.MZ ⟨h.tab,l,h.post,h.book,h.ak,h.next⟩;clear hA hF hF2;unfold Bl.Sv.val Bl.sl;go_enter Tryz.func87,Tryz.ntmps87;go_wp2_with (first | ((with_reducible apply Bl.aI hA2);rfl;rfl;rfl)|((with_reducible apply Bl.aU (h:=⟨h.tab,l,h.post,h.book,h.ak,h.next⟩) hS);rfl;rfl;rfl;rfl)|((with_reducible apply Rp.aU (r:=⟨0,0,0⟩) hR);rfl;rfl;rfl;rfl));exact ko.out.ret Tryz.results87 ⟨h.tab,l,h.post,h.book,h.ak,h.next⟩ ⟨0,0,0⟩ rfl rfl rfl fun b=>⟨.inl ⟨rfl,rfl⟩,b⟩
 ·
  have hq:(n==0)=false:=beq_eq_false_iff_ne.2 h0;clear hA hF;unfold Bl.Sv.val Bl.sl;go_enter Tryz.func87,Tryz.ntmps87;go_wp2_with fail;refine Bl.jI (w.heap.size) (w.heap.size+1) (w.heap.size+1+1) h Bl.iy ⟨0,0,0⟩ (n) HA.out HF.out.st HF.out.rp (by omega) rfl rfl rfl rfl rfl rfl rfl rfl rfl rfl rfl rfl ?_ ?_ ?_ ?_ ?_ ?_ ?_ ?_ ?_ ?_ ?_
  · kernel_rfl
  · exact fun _ _ _ h=>h
  · exact fun _ _ _ h=>h
  · rfl
  · rfl
  · rfl
  · rfl
  · rfl
  · rfl
  · rfl
  intro w9 b9;go_wp2_with fail;exact (HF.out.below b9).ret Tryz.results87 h ⟨n,0,0⟩ rfl rfl rfl fun b=>⟨.inr ⟨h0,rfl⟩,b⟩
theorem Nr (P:Nat->Prop) (s:Bl.St) (h:Bl.Sv) (i:Int) (w:World) (hL:Bl.Lp P w h s) (hi:Fit i) :
  Calls Tryz.prog 92 #[h.val,.int .i64 i] w (Bl.uy P w (Bl.zR s i) ⟨Sp.dU s.ak i,0,0⟩):=by
 have HL:=Lh hL;have HH:=Lh hi;obtain ⟨U,hU,hA,hF⟩:=Bl.fr3 w h;have HA:=Lh hA;have HF:=Lh hF;have iB:=Lh hA.lt;obtain ⟨x0,x1,x2,x3,x4,x5⟩:=hA.cells;clear hA hF hL hi;unfold Bl.Sv.val Bl.sl;go_enter Tryz.func92,Tryz.ntmps92;go_wp2_with fail;clear hU;refine (Nk s.ak i h.ak.ao h.ak.n h.ak.cap _ (HL.out.ak.below HF.out.dx) HH.out).mono ?_;rintro e w1 ⟨v,rfl,o1,b1⟩;have hA1:=HA.out.below b1;have HA1:=Lh hA1;have jB:=Lh (HF.out.below b1);have lY:=Lh o1;have HB1:=Lh b1;obtain ⟨y0,y1,y2,y3,y4,y5⟩:=hA1.cells;have z:=hA1.frozen 4;clear x0 x1 x2 x3 x4 x5 o1 b1;by_cases h0:Sp.dU s.ak i=0
 ·
  have HP:=Lh (Bl.yY (s:=s) h0);have HE:=Lh h0;rw [h0];clear h0;obtain ⟨L,OZ⟩:∃ L,Sp.iX s.ak i=L:=⟨_,rfl⟩;have bT:=Lh (Sp.FT (i:=i) HL.out.ak.short);rw [OZ] at lY bT HP;clear OZ;obtain ⟨bo,bc,rfl,l1,i1⟩:=Sn.aX lY.out bT.out;obtain ⟨n1,hn1⟩:∃ n1,L.length=n1:=⟨_,rfl⟩;rw [hn1] at l1 ⊢;clear hn1;have wO:=Lh l1;have HI:=Lh (dZ (n:=n1) i1);clear l1 i1;have hA2:Bl.At (w1.setCell ⟨w.heap.size,4,none⟩ (.slice bo n1 bc)) w.heap.size ⟨h.tab,h.av,h.post,h.book,⟨bo,n1,bc⟩,h.next⟩:=(Bl.bY hA1 4 _).trans rfl;have hF2:=jB.out.set (g:=w.heap.size) (Nat.le_refl _) (by omega) 4 (.slice bo n1 bc);have ko:=Lh hF2;have hS:=hF2.st;have hR:=hF2.MZ ⟨h.tab,h.av,h.post,h.book,⟨bo,n1,bc⟩,h.next⟩;clear hA1 hF2;go_wp2_with (first | ((with_reducible apply Bl.aI hA2);rfl;rfl;rfl)|((with_reducible apply Bl.aU (h:=⟨h.tab,h.av,h.post,h.book,⟨bo,n1,bc⟩,h.next⟩) hS);rfl;rfl;rfl;rfl)|((with_reducible apply Rp.aU (r:=⟨0,0,0⟩) hR);rfl;rfl;rfl;rfl));refine ko.out.ret Tryz.results92 ⟨h.tab,h.av,h.post,h.book,⟨bo,n1,bc⟩,h.next⟩ ⟨0,0,0⟩ rfl rfl rfl fun b=>⟨_,by rw [HE.out],?_,b⟩
  rw [HP.out];have hl:=(HL.out.below b).wide w;have Vn:=HI.out.nw P (w:=w) (by have:=iB.out;omega);have hk:Kp U.heap.size w1 (Bl.fA (w1.setCell ⟨w.heap.size,4,none⟩ (.slice bo n1 bc)) (w.heap.size+1) (w.heap.size+1+1) ⟨h.tab,h.av,h.post,h.book,⟨bo,n1,bc⟩,h.next⟩ ⟨0,0,0⟩):=(Kp.set w1 iB.out _ _).trans (Bl.yx _ (by have:=HF.out.st.lt;omega) (by have:=HF.out.rp.lt;omega) _ _);exact ⟨hl.tab,hl.av,hl.post,hl.book,wO.out.kp HI.out hk,hl.next,hl.fit,hl.jf,hl.pY,hl.jW,hl.jg,Vn⟩
 ·
  have hq:(Sp.dU s.ak i==0)=false:=beq_eq_false_iff_ne.2 h0;have HP:=Lh (Bl.Ry (s:=s) h0);clear hA1;obtain ⟨E,hE⟩:∃ E,Sp.dU s.ak i=E:=⟨_,rfl⟩;rw [hE] at hq h0 ⊢;have HE:=Lh hE;clear hE lY;go_wp2_with fail;refine Bl.jI (w.heap.size) (w.heap.size+1) (w.heap.size+1+1) h Bl.iy ⟨0,0,0⟩ (E) HA1.out jB.out.st jB.out.rp (by omega) rfl rfl rfl rfl rfl rfl rfl rfl rfl rfl rfl rfl ?_ ?_ ?_ ?_ ?_ ?_ ?_ ?_ ?_ ?_ ?_
  · kernel_rfl
  · exact fun _ _ _ h=>h
  · exact fun _ _ _ h=>h
  · rfl
  · rfl
  · rfl
  · rfl
  · rfl
  · rfl
  · rfl
  intro w9 b9;go_wp2_with fail;exact (jB.out.below b9).ret Tryz.results92 h ⟨E,0,0⟩ rfl rfl rfl fun b=>⟨_,by rw [HE.out],by rw [HP.out];exact (HL.out.below b).wide w,b⟩
theorem Rz (P:Nat->Prop) (s:Bl.St) (h:Bl.Sv) (r:Vt.Rt) (w:World) (hL:Bl.Lp P w h s) (hi:Short r) :
  Calls Tryz.prog 89 #[h.val,oP r] w (Bl.uy P w (Bl.FY s r) ⟨Vt.iQ s.tab r,0,0⟩):=by
 have HL:=Lh hL;have HH:=Lh hi;obtain ⟨U,hU,hA,hF,iN⟩:=Bl.OV w h (.cells #[.string r.cat,.int .i64 r.y,.int .i64 r.m,.int .i64 r.d,.int .i64 r.bp] 52);have c0:U.cell? ⟨w.heap.size+1,0,none⟩=some (.string r.cat):=by rw [cell_of_row U _ 0 _ _ _ iN];rfl
 have c1:U.cell? ⟨w.heap.size+1,1,none⟩=some (.int .i64 r.y):=by rw [cell_of_row U _ 1 _ _ _ iN];rfl
 have c2:U.cell? ⟨w.heap.size+1,2,none⟩=some (.int .i64 r.m):=by rw [cell_of_row U _ 2 _ _ _ iN];rfl
 have c3:U.cell? ⟨w.heap.size+1,3,none⟩=some (.int .i64 r.d):=by rw [cell_of_row U _ 3 _ _ _ iN];rfl
 have c4:U.cell? ⟨w.heap.size+1,4,none⟩=some (.int .i64 r.bp):=by rw [cell_of_row U _ 4 _ _ _ iN];rfl
 clear iN;have HA:=Lh hA;have HF:=Lh hF;have iB:=Lh hA.lt;obtain ⟨x0,x1,x2,x3,x4,x5⟩:=hA.cells;clear hA hF hL hi;unfold Bl.Sv.val Bl.sl oP;go_enter Tryz.func89,Tryz.ntmps89;go_wp2_with fail;clear hU c0 c1 c2 c3 c4;refine (Vi s.tab h.tab.ao h.tab.n h.tab.cap r _ (HL.out.tab.below HF.out.dx) HH.out).mono ?_;rintro e w1 ⟨v,rfl,o1,b1⟩;have hA1:=HA.out.below b1;have HA1:=Lh hA1;have jB:=Lh (HF.out.below b1);have lY:=Lh o1;have HB1:=Lh b1;obtain ⟨y0,y1,y2,y3,y4,y5⟩:=hA1.cells;have z:=hA1.frozen 0;clear x0 x1 x2 x3 x4 x5 o1 b1;by_cases h0:Vt.iQ s.tab r=0
 ·
  have HP:=Lh (Bl.Vl (s:=s) h0);have HE:=Lh h0;rw [h0];clear h0;obtain ⟨L,OZ⟩:∃ L,Vt.pX s.tab r=L:=⟨_,rfl⟩;have bT:=Lh (Bl.Nq HL.out.tab.short HH.out);rw [OZ] at lY bT HP;clear OZ;obtain ⟨bo,bc,rfl,l1,i1⟩:=KT lY.out bT.out;obtain ⟨n1,hn1⟩:∃ n1,L.length=n1:=⟨_,rfl⟩;rw [hn1] at l1 ⊢;clear hn1;have wO:=Lh l1;have HI:=Lh (dZ (n:=n1) i1);clear l1 i1;have hA2:Bl.At (w1.setCell ⟨w.heap.size,0,none⟩ (.slice bo n1 bc)) w.heap.size ⟨⟨bo,n1,bc⟩,h.av,h.post,h.book,h.ak,h.next⟩:=(Bl.bY hA1 0 _).trans rfl;have hF2:=jB.out.set (g:=w.heap.size) (Nat.le_refl _) (by omega) 0 (.slice bo n1 bc);have ko:=Lh hF2;have hS:=hF2.st;have hR:=hF2.MZ ⟨⟨bo,n1,bc⟩,h.av,h.post,h.book,h.ak,h.next⟩;clear hA1 hF2;go_wp2_with (first | ((with_reducible apply Bl.aI hA2);rfl;rfl;rfl)|((with_reducible apply Bl.aU (h:=⟨⟨bo,n1,bc⟩,h.av,h.post,h.book,h.ak,h.next⟩) hS);rfl;rfl;rfl;rfl)|((with_reducible apply Rp.aU (r:=⟨0,0,0⟩) hR);rfl;rfl;rfl;rfl));refine ko.out.ret Tryz.results89 ⟨⟨bo,n1,bc⟩,h.av,h.post,h.book,h.ak,h.next⟩ ⟨0,0,0⟩ rfl rfl rfl fun b=>⟨_,by rw [HE.out],?_,b⟩
  rw [HP.out];have hl:=(HL.out.below b).wide w;have Vn:=HI.out.nw P (w:=w) (by have:=iB.out;omega);have hk:Kp U.heap.size w1 (Bl.fA (w1.setCell ⟨w.heap.size,0,none⟩ (.slice bo n1 bc)) (w.heap.size+1+1) (w.heap.size+1+1+1) ⟨⟨bo,n1,bc⟩,h.av,h.post,h.book,h.ak,h.next⟩ ⟨0,0,0⟩):=(Kp.set w1 iB.out _ _).trans (Bl.yx _ (by have:=HF.out.st.lt;omega) (by have:=HF.out.rp.lt;omega) _ _);exact ⟨wO.out.kp HI.out hk,hl.av,hl.post,hl.book,hl.ak,hl.next,hl.fit,Vn,hl.pY,hl.jW,hl.jg,hl.eY⟩
 ·
  have hq:(Vt.iQ s.tab r==0)=false:=beq_eq_false_iff_ne.2 h0;have HP:=Lh (Bl.Vm (s:=s) h0);clear hA1;obtain ⟨E,hE⟩:∃ E,Vt.iQ s.tab r=E:=⟨_,rfl⟩;rw [hE] at hq h0 ⊢;have HE:=Lh hE;clear hE lY;go_wp2_with fail;refine Bl.jI (w.heap.size) (w.heap.size+1+1) (w.heap.size+1+1+1) h Bl.iy ⟨0,0,0⟩ (E) HA1.out jB.out.st jB.out.rp (by omega) rfl rfl rfl rfl rfl rfl rfl rfl rfl rfl rfl rfl ?_ ?_ ?_ ?_ ?_ ?_ ?_ ?_ ?_ ?_ ?_
  · kernel_rfl
  · exact fun _ _ _ h=>h
  · exact fun _ _ _ h=>h
  · rfl
  · rfl
  · rfl
  · rfl
  · rfl
  · rfl
  · rfl
  intro w9 b9;go_wp2_with fail;exact (jB.out.below b9).ret Tryz.results89 h ⟨E,0,0⟩ rfl rfl rfl fun b=>⟨_,by rw [HE.out],by rw [HP.out];exact (HL.out.below b).wide w,b⟩
theorem Rp.Bk.cells {u:World} {r:Rp.T} (h:Rp.Bk u g r):u.cell? ⟨g,0,none⟩=some (.int .i64 r.why)/\u.cell? ⟨g,1,none⟩=some (.int .i64 r.num)/\u.cell? ⟨g,2,none⟩=some (.int .i64 r.au):=by
 refine ⟨?_,?_,?_⟩
 all_goals
  rw [cell_of_row u g _ _ _ _ h];rfl
def Bl.K8 (P:Nat->Prop) (w:World) (s:Bl.St) (e:Ending) (w':World):Prop:=∃ h:Bl.Sv,e=.returned h.val/\Bl.Lp (nw P w) w' h s/\Below w.heap.size w w'
theorem RA (P:Nat->Prop) (s:Bl.St) (h:Bl.Sv) (r:Ca.T) (q:Rp.T) (w:World) (hL:Bl.Lp P w h s) (h1:Fit r.ak) (h2:Fit r.seq) (hq:Rp.Short q) :
  Calls Tryz.prog 39 #[h.val,Ca.val r,Rp.val q] w (Bl.K8 P w (Bl.BQ s r.ak r.seq q)):=by
 have HL:=Lh hL;have HH:=Lh (And.intro h1 (And.intro h2 hq));obtain ⟨U,hU,hB,k0,k1,k2,k3,hs⟩:=Bl.al4 w (.cells #[.slice h.tab.ao h.tab.n h.tab.cap,.slice h.av.ao h.av.n h.av.cap,.slice h.post.ao h.post.n h.post.cap,.slice h.book.ao h.book.n h.book.cap,.slice h.ak.ao h.ak.n h.ak.cap,.int .i64 h.next] 30) (Ca.block r) (.cells #[.int .i64 q.why,.int .i64 q.num,.int .i64 q.au] 43) (.cells #[.slice none 0 0,.slice none 0 0,.slice none 0 0,.slice none 0 0,.slice none 0 0,.int .i64 0] 30);have hA:Bl.At U w.heap.size h:=k0;have hR:Rp.Bk U (w.heap.size+1+1) q:=k2;have hZ:Bl.At U (w.heap.size+1+1+1) Bl.iy:=k3;obtain ⟨x0,x1,x2,x3,x4,x5⟩:=hA.cells;have c0:U.cell? ⟨w.heap.size+1,0,none⟩=some (.int .i64 r.ak):=by rw [cell_of_row U _ 0 _ _ _ k1];rfl
 have c1:U.cell? ⟨w.heap.size+1,1,none⟩=some (.int .i64 r.seq):=by rw [cell_of_row U _ 1 _ _ _ k1];rfl
 have HA:=Lh hA;have HZ:=Lh hZ;have HB:=Lh hB;have HS:=Lh hs;clear k0 k1 k2 k3 hL h1 h2 hq hA hB hZ hs;unfold Bl.Sv.val Bl.sl Ca.val Rp.val;unfold Ca.block at hU;go_enter Tryz.func39,Tryz.ntmps39;go_wp2_with (first | ((with_reducible apply Rp.aI hR);rfl;rfl;rfl));clear hU;refine (Rm s.ak r.ak r.seq q h.ak.ao h.ak.n h.ak.cap _ (HL.out.ak.below HB.out) HH.out.1 HH.out.2.1 HH.out.2.2).mono ?_;rintro e w1 ⟨v,rfl,o1,b1⟩;have hA1:=HA.out.below b1;have hZ1:=HZ.out.below b1;have HB1:=Lh b1;have lY:=Lh o1;have z:=hA1.frozen 4;obtain ⟨y0,y1,y2,y3,y4,y5⟩:=hA1.cells;clear x0 x1 x2 x3 x4 x5 c0 c1 hR o1 b1;by_cases h0:Sp.lI s.ak r.ak r.seq=0
 ·
  have HP:=Lh (Bl.vB (s:=s) (r:=q) h0);rw [h0];clear h0;obtain ⟨L,OZ⟩:∃ L,Sp.keepR s.ak r.ak r.seq q.why q.num q.au=L:=⟨_,rfl⟩;have bT:=Lh (Sp.Jg HL.out.ak.short HH.out.1 HH.out.2.1 HH.out.2.2);rw [OZ] at lY bT HP;clear OZ;obtain ⟨bo,bc,rfl,l1,i1⟩:=Sn.aX lY.out bT.out;obtain ⟨n1,hn1⟩:∃ n1,L.length=n1:=⟨_,rfl⟩;rw [hn1] at l1 ⊢;clear hn1;have wO:=Lh l1;have HI:=Lh (dZ (n:=n1) i1);clear l1 i1;have hA2:Bl.At (w1.setCell ⟨w.heap.size,4,none⟩ (.slice bo n1 bc)) w.heap.size ⟨h.tab,h.av,h.post,h.book,⟨bo,n1,bc⟩,h.next⟩:=(Bl.bY hA1 4 _).trans rfl;have hZ2:Bl.At (w1.setCell ⟨w.heap.size,4,none⟩ (.slice bo n1 bc)) (w.heap.size+1+1+1) Bl.iy:=hZ1.away (by omega) _ _;have HZ2:=Lh hZ2;clear hA1 hZ1;go_wp2_with (first | ((with_reducible apply Bl.aI hA2);rfl;rfl;rfl)|((with_reducible apply Bl.aU (h:=⟨h.tab,h.av,h.post,h.book,⟨bo,n1,bc⟩,h.next⟩) hZ2);rfl;rfl;rfl;rfl));have b:Below w.heap.size w (Bl.lay (w1.setCell ⟨w.heap.size,4,none⟩ (.slice bo n1 bc)) (w.heap.size+1+1+1) ⟨h.tab,h.av,h.post,h.book,⟨bo,n1,bc⟩,h.next⟩):=Bl.dM (bU (aj HB.out HB1.out) (Nat.le_refl _) _ _) (by omega) _;refine bodyPost_ret (Bl.kZ Tryz.results39 rfl (HZ2.out.lay _)) rfl ⟨_,rfl,?_,b⟩;rw [HP.out];have hl:=(HL.out.below b).wide w;have Vn:=HI.out.nw P (w:=w) (by have:=HS.out;omega);have hk:=(Kp.set (A:=U.heap.size) (g:=w.heap.size) w1 (by have:=HS.out;omega) 4 (.slice bo n1 bc)).trans (Bl.Dv _ (g:=w.heap.size+1+1+1) (by have:=HS.out;omega) ⟨h.tab,h.av,h.post,h.book,⟨bo,n1,bc⟩,h.next⟩);exact ⟨hl.tab,hl.av,hl.post,hl.book,wO.out.kp HI.out hk,hl.next,hl.fit,hl.jf,hl.pY,hl.jW,hl.jg,Vn⟩
 ·
  have hq:(Sp.lI s.ak r.ak r.seq==0)=false:=beq_eq_false_iff_ne.2 h0;have HP:=Lh (Bl.Ld (s:=s) (r:=q) h0);have HZ1:=Lh hZ1;obtain ⟨E,hE⟩:∃ E,Sp.lI s.ak r.ak r.seq=E:=⟨_,rfl⟩;rw [hE] at hq h0 ⊢;clear hE lY;go_wp2_with (first | ((with_reducible apply Bl.aI hA1);rfl;rfl;rfl)|((with_reducible apply Bl.aU (h:=h) hZ1);rfl;rfl;rfl;rfl));have b:Below w.heap.size w (Bl.lay w1 (w.heap.size+1+1+1) h):=Bl.dM (aj HB.out HB1.out) (by omega) _;refine bodyPost_ret (Bl.kZ Tryz.results39 rfl (HZ1.out.lay _)) rfl ⟨_,rfl,?_,b⟩;rw [HP.out];exact (HL.out.below b).wide w
theorem Sp.F6 {i:Int}:∀ {l:List Sn.T},(∀ x∈l,x.id < i)->Sp.spot i l=l.length
 | [],_=>rfl
 | a::l,h=>by
  have h1:Sp.lt a.id i=true:=decide_eq_true (h a (by simp));have:=Sp.mU i (a::l) 0 (by simp);rw [List.drop_zero,List.getElem_cons_zero,if_pos h1] at this;rw [this,List.drop_succ_cons,List.drop_zero,Sp.F6 fun x hx=>h x (by simp [hx]),List.length_cons]
theorem Sp.RB {l:List Sn.T} (h:∀ x∈l,x.id < i):Sp.dF l (Sp.new i)=l++[Sp.new i]:=by
 have e:Sp.spot (Sp.new i).id l=l.length:=Sp.F6 h;unfold Sp.dF;rw [e,List.take_length,List.drop_length]
theorem Bl.join_step {s:Bl.St} (h:Bl.Right s) (h8:s.ak.length < 8) (hn:s.next < 1099511627776):Sp.kU s.ak s.next=0/\Sp.mY s.ak s.next=s.ak++[Sp.new s.next]:=by
 have hx: ¬ Sp.ix s.next s.ak < s.ak.length:=fun q=>by
  obtain ⟨r,hr,e⟩:=Sp.jR.1 q;have:=h.ids r hr;omega
 have:=Sp.KE (l:=s.ak) (i:=s.next) h.ak (by have:=h.next;omega) hx h8;rw [this.1,this.2];exact ⟨rfl,Sp.RB h.ids⟩
def Bl.xJ (s:Bl.St):Bl.St×Rp.T:=if 8<=s.ak.length\/1099511627776<=s.next then (s,⟨14,0,0⟩) else (Bl.joined s,⟨0,s.next,0⟩)
theorem Jk (ls:List Ba.T) (ao:Option Addr) (n cap:Nat) (w0 w:World) (hw:Below w0.heap.size w0 w) (hL:Ba.Ls w ao n cap ls) :
  Calls Tryz.prog 123 #[.slice ao n cap] w fun e w'=>e=.returned (.bool (Po.aA ls))/\Below w0.heap.size w0 w':=by
 have HW:=Lh hw;have HL:=Lh hL;have HN:=Lh hL.len;have hcap:=hL.reach;have hfit:=hL.fits;clear hw hL;go_enter Tryz.func123,Tryz.ntmps123;go_wp2_with fail
 go_loopw [3] (fun i wr=>∃ k:Nat,k<=n/\i=.int .i64 ((k+1:Nat):Int)/\Hid (∀ i,i < k->(hi:i+1 < ls.length)->Po.lt ls[i].aF ls[i+1].aF=true)/\Hid (Below w.heap.size w wr)) (fun i _=>n+1 - (intOf i).toNat)
 case atStart=>exact ⟨0,by omega,rfl,Lh (fun i hi=>by omega),Lh (Below.refl _ _)⟩
 case round =>
  rename World=>wz
  obtain ⟨k,hk,rfl,HK,HB⟩:=hrel;by_cases hlt:k+1 < n
  ·
   obtain ⟨b,off,rfl⟩:=HL.out.at (by omega);have hk1:k+1 < ls.length:=HN.out▸hlt;have hr1:=(HL.out.row k (by omega)).below HB.out;have hr2:=(HL.out.row (k+1) hk1).below HB.out;obtain ⟨x,hx⟩:∃ x,ls[k]=x:=⟨_,rfl⟩;obtain ⟨y,hy⟩:∃ y,ls[k+1]=y:=⟨_,rfl⟩;have HX:=Lh hx;have HY:=Lh hy;rw [hx] at hr1;rw [hy] at hr2;obtain ⟨g0,g1⟩:=hr1;obtain ⟨f0,f1⟩:=hr2;have k0:=cell_regrown g0;have l0:=cell_regrown f0;clear hx hy;cases hc:Op.bytesLess x.aF.toList y.aF.toList
   ·
    have HE:Hid (Po.aA ls=false):=Lh (Po.PK hk1 (by rw [HX.out,HY.out];exact hc));go_wp2;refine wp_region_quiet_below (by kernel_rfl) (by kernel_rfl) ?_
    repeat (first | go_big_quiet_step (fail) | quiet_step (fail))
    refine wpQuiet_nil ?_;intro _ hw';obtain ⟨⟨dq,osq⟩,hw''⟩:=hw';subst hw'';have cO:=Lh (aj HB.out (below_regrown wz dq osq));go_wp2;go_ret;exact ⟨ay HE.out.symm,aj HW.out cO.out⟩
   ·
    have HK2:Hid (∀ i,i < k+1->(hi:i+1 < ls.length)->Po.lt ls[i].aF ls[i+1].aF=true):=Lh (by
     intro i hi hil;by_cases e:i < k
     · exact HK.out i e hil
     ·
      obtain rfl:i=k:=by omega
      rw [HX.out,HY.out];exact hc)
    go_wp2;refine wp_region_quiet_below (by kernel_rfl) (by kernel_rfl) ?_
    repeat (first | go_big_quiet_step (fail) | quiet_step (fail))
    refine wpQuiet_nil ?_;intro _ hw';obtain ⟨⟨dq,osq⟩,hw''⟩:=hw';subst hw'';have cO:=Lh (aj HB.out (below_regrown wz dq osq));go_wp2;go_roundw
    case rel=>exact ⟨k+1,by omega,by go_num,HK2,cO⟩
    case measure=>simp [intOf];omega
  ·
   have HE:Hid (Po.aA ls=true):=Lh (Po.Mj fun i hi=>HK.out i (by have:=HN.out;omega) hi);have hnk:(n:Int)<=(k:Int)+1:=by omega
   go_wp2;go_ret;exact ⟨ay HE.out.symm,aj HW.out HB.out⟩
theorem zS (ls:List Ba.T) (c:ByteArray) (ao:Option Addr) (n cap:Nat) (w:World) (hL:Ba.Ls w ao n cap ls) (hS:Po.Sorted ls) :
  Calls Tryz.prog 125 #[.slice ao n cap,.string c] w fun e w'=>e=.returned (.int .i64 ((Po.spot c ls:Nat):Int))/\w'=w:=by
 have HL:=Lh hL;have HN:=Lh hL.len;have HS:=Lh hS;have HP:Hid (Po.spot c ls<=n):=Lh (by rw [hL.len];exact Po.oI c ls);have hcap:=hL.reach;have hfit:=hL.fits;clear hL hS;go_enter Tryz.func125,Tryz.ntmps125;go_wp2_with fail
 go_loopw [5,6,7] (fun a b _ wr=>∃ i j:Nat,i<=j/\j<=n/\a=.int .i64 i/\b=.int .i64 j/\wr=w/\Hid (i<=Po.spot c ls/\Po.spot c ls<=j)) (fun a b _ _=>(intOf b).toNat - (intOf a).toNat)
 case atStart=>exact ⟨0,n,by omega,by omega,rfl,rfl,rfl,Lh ⟨Nat.zero_le _,HP.out⟩⟩
 case round =>
  obtain ⟨i,j,hij,hj,rfl,rfl,rfl,HI⟩:=hrel;by_cases hlt:i < j
  ·
   obtain ⟨m,hm⟩:∃ m,i+(j - i) / 2=m:=⟨_,rfl⟩;have hm1:i<=m:=by omega
   have hm2:m < j:=by omega
   obtain ⟨b,off,rfl⟩:=HL.out.at (by omega);have hml:m < ls.length:=by have:=HN.out;omega
   have hrow:=HL.out.row m hml;have HU:Hid (Po.lt ls[m].aF c=true->m+1<=Po.spot c ls):=Lh (Po.U5 HS.out hml);have HD:Hid (Po.lt ls[m].aF c=false->Po.spot c ls<=m):=Lh (Po.MQ hml);obtain ⟨x,hx⟩:∃ x,ls[m]=x:=⟨_,rfl⟩;rw [hx] at hrow HU HD;clear hx;obtain ⟨r0,r1⟩:=hrow
   have hq:((j:Int) - (i:Int)).tdiv 2=(m:Int) - (i:Int):=by
    rw [Int.tdiv_eq_ediv_of_nonneg (by omega)];omega
   have hq':((j:Int) - (i:Int)) / 2=(m:Int) - (i:Int):=by omega
   have hsum:(i:Int)+((m:Int) - (i:Int))=(m:Int):=by omega
   clear hm;cases hc:Op.bytesLess x.aF.toList c.toList
   ·
    have HE:=Lh (HD.out hc);go_wp2_with fail;go_roundw
    case rel=>exact ⟨i,m,hm1,by omega,rfl,by go_num,trivial,Lh ⟨HI.out.1,HE.out⟩⟩
    case measure=>simp [intOf];omega
   ·
    have HE:=Lh (HU.out hc);go_wp2_with fail;go_roundw
    case rel=>exact ⟨m+1,j,by omega,hj,by go_num,rfl,trivial,Lh ⟨HE.out,HI.out.2⟩⟩
    case measure=>simp [intOf];omega
  ·
   obtain rfl:i=j:=by omega
   have HE:Hid (Po.spot c ls=i):=Lh (Nat.le_antisymm HI.out.2 HI.out.1);go_wp2_with fail;go_ret;exact ⟨by rw [HE.out];rfl,rfl⟩
theorem RD (ls:List Ba.T) (c:ByteArray) (ao:Option Addr) (n cap:Nat) (w:World) (hL:Ba.Ls w ao n cap ls) (hS:Po.Sorted ls) :
  Calls Tryz.prog 159 #[.slice ao n cap,.string c] w fun e w'=>e=.returned (.bool (Po.has c ls))/\w'=w:=by
 have HL:=Lh hL;have HN:=Lh hL.len;have HP:=Lh (zS ls c ao n cap w hL hS);have HH:=Lh (Po.l7 c ls);have hcap:=hL.reach;have hfit:=hL.fits;clear hL hS;obtain ⟨s,hs⟩:∃ s,Po.spot c ls=s:=⟨_,rfl⟩;rw [hs] at HP HH;clear hs;go_enter Tryz.func159,Tryz.ntmps159;go_wp2_with fail;refine HP.out.mono ?_;rintro e w1 ⟨rfl,rfl⟩;rename World=>u
 by_cases hlt:s < n
 ·
  obtain ⟨b,off,rfl⟩:=HL.out.at (by omega);have hsl:s < ls.length:=HN.out▸hlt;have hrow:=HL.out.row s hsl;have HV:Hid (Po.has c ls=decide (ls[s].aF=c)):=Lh (by rw [HH.out,List.getElem?_eq_getElem hsl]);obtain ⟨x,hx⟩:∃ x,ls[s]=x:=⟨_,rfl⟩;rw [hx] at hrow HV;clear hx;obtain ⟨r0,r1⟩:=hrow;by_cases e:x.aF=c
  ·
   have q0:(x.aF.toList==c.toList)=true:=beq_iff_eq.2 (by rw [e]);have HE:Hid (Po.has c ls=true):=Lh (by rw [HV.out];exact decide_eq_true e);clear e;go_wp2_with fail;go_ret;exact ⟨ay HE.out.symm,rfl⟩
  ·
   have q0:(x.aF.toList==c.toList)=false:=beq_eq_false_iff_ne.2 fun h=>e (Vt.gM h)
   have HE:Hid (Po.has c ls=false):=Lh (by rw [HV.out];exact decide_eq_false e);clear e;go_wp2_with fail;go_ret;exact ⟨ay HE.out.symm,rfl⟩
 ·
  have HE:Hid (Po.has c ls=false):=Lh (by rw [HH.out,List.getElem?_eq_none (by rw [<- HN.out];omega)]);go_wp2_with fail;go_ret;exact ⟨ay HE.out.symm,rfl⟩
end Go.Proofs.YtpfdnemaaeolcaaGreat
namespace Go.Proofs.YtpfdnemaaeolcaaGreat.Ba
open Go.RowKit
theorem F7 {xs:List T} (h:Own w B (.slice ao n cap) xs) (hn:0 < n):∃ g,ao=some ⟨g,0,none⟩:=by
 rcases h.2 with ⟨h',h2⟩ | ⟨g,c,cur,h',_⟩
 ·
  cases h'
  omega
 ·
  cases h'
  exact ⟨g,rfl⟩
theorem zT {vg:Nat} {M:List T} (h:Own w B (.slice (some ⟨vg,0,none⟩) n cap) M):vg < w.heap.size:=by
 rcases h.2 with ⟨h',h0⟩ | ⟨g',c',cu,h',_,hg,_⟩
 · cases h'
 ·
  simp only [Value.slice.injEq,Option.some.injEq,Addr.mk.injEq,and_true] at h';obtain ⟨hl,_⟩:=Array.getElem?_eq_some_iff.1 hg;rw [h'.1];exact hl
end Go.Proofs.YtpfdnemaaeolcaaGreat.Ba
namespace Go.Proofs.YtpfdnemaaeolcaaGreat
open Go.RowKit
open Mem
open Go.Sort (grow heap_grow_old putRowK flatK HoldsK)
def F8 (x y:Ba.T):Int:=Lib.compareBytes x.aF.data.toList y.aF.data.toList
theorem vJ (x y:Ba.T):ltOf F8 x y=Po.lt x.aF y.aF:=by
 unfold ltOf F8 Po.lt;rw [Po.QO,tl,tl];rfl
theorem Vo:Go.Sort.SWO (ltOf F8) where
 irrefl x:=by rw [vJ];exact Po.lt_irrefl _
 trans x y z h1 h2:=by
  rw [vJ] at *;exact Po.lt_trans h1 h2
 ntrans x y z h1 h2:=by
  rw [vJ] at *;rcases Po.fq y.aF z.aF with h | h | h
  ·
   rw [h2] at h;cases h
  ·
   rw [<- h];exact h1
  ·
   rw [Bool.eq_false_iff];intro k;have:=Po.lt_trans k h;rw [h1] at this;cases this
theorem Jl (x y:Ba.T) (w:World):Calls Tryz.prog 161 #[.agg #[.string x.aF,.int .i64 x.dG],.agg #[.string y.aF,.int .i64 y.dG]] w fun e w'=>e=.returned (.int .i64 (F8 x y))/\∃ q os',w'=grow (w.drewN q) os':=by
 have hcon:∀ W',Calls Tryz.prog 178 #[.string x.aF,.string y.aF] W' fun e w'=>e=.returned (.int .i64 (F8 x y))/\w'=W':=fun W'=>Tryz.strings_Compare x.aF y.aF W'
 generalize F8 x y=r at hcon ⊢;go_enter Tryz.func161,Tryz.ntmps161;go_wp2_with (go_at_call 178;refine (hcon _).mono ?_;rintro e w' ⟨rfl,rfl⟩);go_ret;exact ⟨rfl,0,_,by rw [Go.Sort.alloc_eq_grow,Go.Sort.alloc_eq_grow,Go.Sort.grow_grow];rfl⟩
theorem RF (blk off size:Nat) (w:World):CmpLays Tryz.prog 161 #[] Ba.rv 2 F8 blk off size w :=
 fun _ _ _ _ x y=>Jl x y _
theorem Vp (w:World):(isAgg 81).run Tryz.prog w=.ok true w:=Tryz.isAgg81 w
theorem Ns {M:List Ba.T} (h:Ba.Own w B (.slice (some ⟨g,0,none⟩) n cap) M):HoldsK Ba.rv 2 w g 0 M.toArray:=by
 intro t ht;rw [Go.Sort.size_flatK] at ht;rw [Go.Sort.get_flatK _ _ _ _ ht];have ht':t < M.length*2:=by simpa using ht
 obtain ⟨k,p,rfl,hp⟩:∃ k p,t=k*2+p/\p < 2:=⟨t / 2,t % 2,by omega,by omega⟩;have hk:k < M.length:=by omega
 obtain ⟨⟨c0,c1⟩,hf,_⟩:=Ba.dH h k hk
 have e:M.toArray[k]! =M[k]:=by
  rw [getElem!_pos M.toArray k (by simpa using hk)]
  simp
 rw [show (k*2+p) / 2=k by omega,show (k*2+p) % 2=p by omega,e,Nat.zero_add];refine ⟨?_,hf _⟩;rcases (show p=0\/p=1 by omega) with rfl | rfl
 · exact c0
 · exact c1
theorem Jm {m:Nat} {M:List Ba.T} (d:Array Ba.T) (os:Array Obj) (h:Ba.Own w B (.slice (some ⟨g,0,none⟩) n cap) M) (hs:d.size=M.length):Ba.Own (sortWorldK Ba.rv 2 w g 0 m d os) B (.slice (some ⟨g,0,none⟩) n cap) d.toList:=by
 rcases h.2 with ⟨h',_⟩ | ⟨g',cap',cur,h',hb,hg,hnc,hcm,hcs,htake⟩
 · cases h'
 ·
  simp only [Value.slice.injEq,Option.some.injEq,Addr.mk.injEq,and_true] at h';obtain ⟨e1,e2,e3⟩:=h';subst e1 e3
  have hlt:g < w.heap.size:=by
   obtain ⟨hl,_⟩:=Array.getElem?_eq_some_iff.1 hg;exact hl
  have hg':(sortWorldK Ba.rv 2 w g 0 m d os).heap[g]? =some (.cells (Go.Sort.putCells id 0 (flatK Ba.rv 2 d) cur) 81 (0,0)):=by
   unfold sortWorldK;rw [heap_grow_old _ _ (by simpa [putRowK] using hlt)];show ((w.heap.modify g (Go.Sort.onCells _)))[g]? =_;rw [Array.getElem?_modify,if_pos rfl,hg];rfl
  have hdl:d.toList.length=M.length:=by simpa using hs
  refine ⟨by rw [Ba.aB],.inr ⟨g,cap,_,by rw [hdl,e2],hb,hg',by rw [hdl];exact hnc,hcm,by simp [Go.Sort.putCells,hcs],?_⟩⟩;rw [hdl];apply List.ext_getElem?;intro t;by_cases ht:t < M.length*2
  ·
   obtain ⟨k,p,rfl,hp⟩:∃ k p,t=k*2+p/\p < 2:=⟨t / 2,t % 2,by omega,by omega⟩;have hk:k < d.toList.length:=by omega
   have hkd:k < d.size:=by simpa using hk
   have hc:k*2+p < cur.size:=by omega
   rw [List.getElem?_take_of_lt ht,Ba.aS d.toList k p hk hp];unfold Go.Sort.putCells;rw [Array.getElem?_toList,Array.getElem?_mapIdx,Array.getElem?_eq_getElem hc,Option.map_some,if_pos ⟨Nat.zero_le _,by rw [Go.Sort.size_flatK];omega⟩,Nat.sub_zero,Go.Sort.get_flatK _ _ _ _ (by omega),show (k*2+p) / 2=k by omega,show (k*2+p) % 2=p by omega,getElem!_pos d k hkd];rcases (show p=0\/p=1 by omega) with rfl | rfl
   · rfl
   · rfl
  · rw [List.getElem?_eq_none (by rw [List.length_take];omega),List.getElem?_eq_none (by rw [Ba.aB,hdl];omega)]
theorem DV {m:Nat} {w0:World} (d:Array Ba.T) (os:Array Obj) (h:Below B w0 w) (hg:B<=g) (hlt:g < w.heap.size):Below B w0 (sortWorldK Ba.rv 2 w g 0 m d os):=by
 refine ⟨h.os,h.tape,h.output,?_,fun k hk=>?_⟩
 ·
  have:=h.size;simp [sortWorldK,putRowK];omega
 ·
  rw [<- h.block k hk];unfold sortWorldK;rw [heap_grow_old _ _ (by simp [putRowK];omega)];show ((w.heap.modify g (Go.Sort.onCells _)))[k]? =_;rw [Array.getElem?_modify,if_neg (by omega)]
theorem Nt (M:List Ba.T) (B n cap:Nat) (ao:Option Addr) (w0 w:World) (hw:Below B w0 w) (hO:Ba.Own w B (.slice ao n cap) M) (hn:n=M.length) (hm:n<=100000) :
  Calls Tryz.prog 160 #[.slice ao n cap,.func (.func 161) #[] #[]] w fun e w'=>e=.returned (.tuple #[]) /\
   ∃ D:Array Ba.T,Ba.Own w' B (.slice ao n cap) D.toList/\D.toList.Perm M/\D.size=M.length/\(∀ i j,i < j->j < D.size->Po.lt D[j]!.aF D[i]!.aF=false)/\Below B w0 w':=by
 by_cases h0:n=0
 ·
  subst h0;have e:M=[]:=List.length_eq_zero_iff.1 hn.symm;subst e;refine (AnyF.slices_SortFunc_none Tryz.sortB ao cap _ w).mono ?_;rintro e w' ⟨rfl,rfl⟩;exact ⟨rfl,#[],hO,List.Perm.refl _,rfl,fun i j h1 h2=>absurd h2 (by simp),hw⟩
 ·
  obtain ⟨g,rfl⟩:=Ba.F7 hO (by omega);have hB:=Ba.bK hO g rfl;have hlt:=Ba.zT hO;have hsz:M.toArray.size=n:=by simpa using hn.symm
  have eg:∀ args w,(callFunc 161 args).run Tryz.prog w=.ok (.enter 161 args) w:=enters_of Tryz.func161 (by kernel_rfl) rfl;have hcon:=AnyQ.slices_SortFunc Tryz.sortB 2 Vp Tryz.sizeOf81 Ba.rv (fun _=>rfl) (fun x v hv=>by unfold Ba.rv at hv;simp at hv;rcases hv with rfl | rfl <;> rfl) F8 Vo 161 #[] g 0 cap M.toArray w eg (RF g 0 _ w) (Ns hO) hlt (by omega);rw [hsz] at hcon;refine hcon.mono ?_;rintro e w' ⟨rfl,d,m,os,hp,hs,rfl⟩;have hds:d.size=n:=by rw [hp.1,hsz]
  refine ⟨rfl,d,Jm d os hO (by omega),?_,by omega,fun i j h1 h2=>?_,DV d os hw hB hlt⟩
  ·
   have:=hp.2.2;rw [<- hds,Array.extract_size,hds,<- hsz,Array.extract_size] at this;simpa using this
  ·
   have:=hs i j (Nat.zero_le _) h1 (by omega);rw [vJ] at this;exact this
end Go.Proofs.YtpfdnemaaeolcaaGreat
namespace Go.Proofs.YtpfdnemaaeolcaaGreat.Ba
open Go.RowKit
open Mem
theorem kH:∀ (M:List T) (o:Nat),(M.flatMap rv).take (o*2)=(M.take o).flatMap rv
 | [],o=>by simp
 | a::l,0=>by simp
 | a::l,o+1=>by
  rw [List.flatMap_cons,List.take_succ_cons,List.flatMap_cons,show (o+1)*2=(rv a).length+o*2 by rw [aM];omega,List.take_length_add_append,kH l o]
end Go.Proofs.YtpfdnemaaeolcaaGreat.Ba
namespace Go.Proofs.YtpfdnemaaeolcaaGreat
open Go.RowKit
open Mem
open Go.Sort (grow)
theorem BR (g n c k l c':Nat) (x:Int) (hx:x=(k:Int)) (hk:k+l=n) (hc:k+c'=c) (hl:0 < c') (hn:n<=c) (h63:c<=9223372036854775807) (u:World) :
  (Instr.slice 27 (.slice (some ⟨g,0,none⟩) n c) (some (.int .i64 x)) none none).run Tryz.prog u=.ok (.slice (some ⟨g,k*2,none⟩) l c') u:=by
 subst hx;rw [run_slice_l u 27 (some ⟨g,0,none⟩) n c Ba.und .i64 k (by omega) (by omega),Ba.size];have e1:n - k=l:=by omega
 have e2:c - k=c':=by omega
 have e3: ¬ c=k:=by omega
 simp [Result.andThen,sliced,e1,e2,e3,Addr.add];intro h;exact h.symm
theorem Vq (g n c k:Nat) (x:Int) (hx:x=(k:Int)) (hk:k<=c) (h63:c<=9223372036854775807) (u:World) :
  (Instr.slice 27 (.slice (some ⟨g,0,none⟩) n c) none (some (.int .i64 x)) none).run Tryz.prog u=.ok (.slice (some ⟨g,0,none⟩) k c) u:=by
 subst hx;rw [run_slice_h u 27 (some ⟨g,0,none⟩) n c Ba.und .i64 k (by omega) (by omega),Ba.size];simp [Result.andThen,sliced,Addr.add]
theorem mR {D:Array Ba.T} (h:Ba.Own w B (.slice (some ⟨g,0,none⟩) n cap) D.toList) (i:Nat) (hi:i < D.size):Ba.At w g (i*2) D[i]! /\(∀ o,w.frozen? ⟨g,o,none⟩=false):=by
 obtain ⟨h1,h2,_⟩:=Ba.dH h i (by simpa using hi);rw [getElem!_pos D i hi];rw [Array.getElem_toList] at h1;exact ⟨h1,h2⟩
theorem BU {M:List Ba.T} (h:Ba.Own w B (.slice ao n cap) M):n=M.length/\n<=cap/\cap<=9223372036854775807:=by
 rcases h.2 with ⟨h',h0⟩ | ⟨g',cap',cur,h',hb,hg,hnc,hcm,hcs,htake⟩
 ·
  cases h'
  omega
 ·
  simp only [Value.slice.injEq] at h';obtain ⟨_,e2,e3⟩:=h';subst e3;have:maxLen=9223372036854775807:=rfl;omega
theorem Jo (n:Nat):(Builtin.zeroCells Ba.zeroV.cells n).toList=(List.replicate n Ba.zero).flatMap Ba.rv:=by
 have h:=congrArg Array.toList (Ba.made n);unfold Ba.zeros at h;rw [List.toList_toArray] at h;exact h
theorem Jp {k:Nat} {M:List Ba.T} (h:Ba.Own w B (.slice (some ⟨g,0,none⟩) n cap) M) (hk:k < n) :
  ∃ w',(∀ ty c,(Builtin.clear_ #[27] ty #[.slice (some ⟨g,k*2,none⟩) (n - k) c]).run Tryz.prog w=.ok (.tuple #[]) w')/\Ba.Own w' B (.slice (some ⟨g,0,none⟩) k cap) (M.take k)/\(∀ w0,Below B w0 w->Below B w0 w'):=by
 rcases h.2 with ⟨h',_⟩ | ⟨g',cap',cur,h',hb,hg,hnc,hcm,hcs,htake⟩
 · cases h'
 ·
  simp only [Value.slice.injEq,Option.some.injEq,Addr.mk.injEq,and_true] at h';obtain ⟨e1,e2,e3⟩:=h';subst e1 e3;have hlen:((List.replicate (n - k) Ba.zero).flatMap Ba.rv).length=(n - k)*2:=by rw [Ba.aB,List.length_replicate]
  have hst:=run_storeCells_at Tryz.prog g (k*2) 81 ((List.replicate (n - k) Ba.zero).flatMap Ba.rv) 0 cur w hg (by rw [hlen];omega) (Ba.one_cell _);rw [Nat.add_zero] at hst;obtain ⟨m,hm⟩:∃ m,n - k=m+1:=⟨n - k - 1,by omega⟩;have hz:∀ u,(zeroValue 81).run Tryz.prog u=.ok Ba.zeroV u:=Tryz.zeroValue81;refine ⟨w.setRow g (cur.toList.take (k*2)++(List.replicate (n - k) Ba.zero).flatMap Ba.rv++cur.toList.drop (k*2+((List.replicate (n - k) Ba.zero).flatMap Ba.rv).length)).toArray,fun ty c=>?_,?_,fun w0 hw=>below_setRow hw hb _⟩
  ·
   rw [hm] at hst ⊢;simp only [Builtin.clear_,Sem.run_bind,Sem.run_pure,run_underlying Tryz.underlying27,Result.andThen_ok,List.getElem?_toArray,List.getElem?_cons_zero,hz,Jo,hst]
  ·
   have hkl:(M.take k).length=k:=by rw [List.length_take];omega
   refine ⟨by rw [Ba.aB],.inr ⟨g,cap,_,by rw [hkl],hb,setRow_heap w g _ _ 81 _ hg,by rw [hkl];omega,hcm,?_,?_⟩⟩
   ·
    rw [List.size_toArray,List.length_append,List.length_append,List.length_take,List.length_drop,hlen,Array.length_toList,hcs];simp only [Nat.min_def];split <;> omega
   · rw [hkl,List.toList_toArray,List.append_assoc,List.take_left' (by rw [List.length_take,Array.length_toList,hcs];simp only [Nat.min_def];split <;> omega),<- Ba.kH,<- htake,List.take_take,Nat.min_eq_left (by omega)]
theorem RG {r s:Ba.T} (h0:r.aF=s.aF) (h1:r.dG=s.dG):r=s:=by
 cases r
 cases s
 simp only at h0 h1;subst h0 h1;rfl
theorem Nu {D dk:Array Ba.T} {k:Nat} (h:Lib.CompInv D D.size k dk):Lib.compactUpTo D D.size=dk.toList.take k:=by
 apply List.ext_getElem?;intro j;have hk:=h.lt;have hs:=h.size;by_cases hj:j < k
 · rw [h.low j hj,List.getElem?_take_of_lt hj,Array.getElem?_toList,getElem!_pos dk j (by omega),Array.getElem?_eq_getElem]
 · rw [List.getElem?_eq_none (by rw [h.len];omega),List.getElem?_eq_none (by rw [List.length_take];omega)]
theorem F9 {D:Array Ba.T} (h:∀ j,j < D.size->Lib.keeps D j=true):Lib.compactUpTo D D.size=D.toList:=by
 rw [Lib.compactUpTo_all D _ h,Lib.range_map_get]
theorem DW (D:Array Ba.T) (B n cap:Nat) (ao:Option Addr) (w0 w:World) (hw:Below B w0 w) (hO:Ba.Own w B (.slice ao n cap) D.toList) (hn:n=D.size) (hm:n<=100000) :
  Calls Tryz.prog 162 #[.slice ao n cap] w fun e w'=>∃ k:Nat,e=.returned (.slice ao k cap)/\Ba.Own w' B (.slice ao k cap) (Lib.compactUpTo D D.size)/\Below B w0 w':=by
 have HW:=Lh hw;have HO:=Lh hO;have HN:=Lh hn;obtain ⟨hx,hfit,hcap⟩:=BU hO;clear hx;clear hw hO hn;by_cases h2:n < 2
 ·
  have HA:=Lh (F9 (D:=D) fun j hj=>Lib.keeps_lt_one D j (by have:=HN.out;omega));go_enter Tryz.func162,Tryz.ntmps162;go_wp2_with fail;go_ret;exact ⟨n,rfl,by rw [HA.out];exact HO.out,HW.out⟩
 ·
  obtain ⟨g,rfl⟩:=Ba.F7 HO.out (by omega);have HG:Hid (B<=g):=Lh (Ba.bK HO.out g rfl);go_enter Tryz.func162,Tryz.ntmps162;go_wp2_with fail
  go_loopw [3] (fun i wr=>∃ k:Nat,k+1<=n/\i=.int .i64 ((k+1:Nat):Int)/\Hid (∀ j,j < k+1->Lib.keeps D j=true)/\Hid (Ba.Own wr B (.slice (some ⟨g,0,none⟩) n cap) D.toList/\Below B w0 wr)) (fun i _=>n+1 - (intOf i).toNat)
  case atStart=>exact ⟨0,by omega,rfl,Lh (fun j hj=>Lib.keeps_lt_one D j hj),Lh ⟨HO.out,HW.out⟩⟩
  case round =>
   rename World=>wz
   obtain ⟨k,hk,rfl,HK,H⟩:=hrel;by_cases hlt:k+1 < n
   ·
    have hk1:k+1 < D.size:=HN.out▸hlt;obtain ⟨hr1,_⟩:=mR H.out.1 k (by omega);obtain ⟨hr2,_⟩:=mR H.out.1 (k+1) hk1;obtain ⟨s,hs⟩:∃ s,D[k]! =s:=⟨_,rfl⟩;obtain ⟨r,hr⟩:∃ r,D[k+1]! =r:=⟨_,rfl⟩;have HR:=Lh (And.intro hr hs);rw [hs] at hr1;rw [hr] at hr2;clear hs hr;obtain ⟨g0,g1⟩:=hr1;obtain ⟨f0,f1⟩:=hr2;have g0':=cell_regrown g0;have g1':=cell_regrown g1;have OT:=cell_regrown f0;have OU:=cell_regrown f1;clear g0 g1 f0 f1
    have BX:Hid (r≠s->∀ j,j < k+1+1->Lib.keeps D j=true):=Lh fun hne j hj=>by
     by_cases e:j=k+1
     ·
      subst e;exact Lib.keeps_pos (by rw [Nat.add_sub_cancel,HR.out.1,HR.out.2];exact hne)
     · exact HK.out j (by omega)
    by_cases e0:r.aF=s.aF
    ·
     have q0:(r.aF.toList==s.aF.toList)=true:=beq_iff_eq.2 (by rw [e0]);by_cases e1:r.dG=s.dG
     ·
      have q1:(r.dG==s.dG)=true:=beq_iff_eq.2 e1;have HD:Hid (Lib.keeps D (k+1)=false):=Lh (Lib.keeps_neg (by omega) (by rw [Nat.add_sub_cancel,HR.out.1,HR.out.2];exact RG e0 e1));have Vr:Hid (Lib.CompInv D (k+1+0+1) (k+1) D):=Lh (Lib.CompInv.start HK.out HD.out);have hsl:=BR g n cap (k+1) (n - (k+1)) (cap - (k+1)) ((k:Int)+1) (by omega) (by omega) (by omega) (by omega) (by omega) hcap;obtain ⟨L,hL⟩:∃ L,n - (k+1)=L:=⟨_,rfl⟩;obtain ⟨C,hC⟩:∃ C,cap - (k+1)=C:=⟨_,rfl⟩;obtain ⟨o,ho⟩:∃ o,(k+1)*2=o:=⟨_,rfl⟩;rw [hL,hC,ho] at hsl;have O1:C<=9223372036854775807:=by omega
      have hLC:L<=C:=by omega
      have hL1:k+1+L<=n:=by omega
      have hL2:n<=k+1+L:=by omega
      have HOo:=Lh ho;clear e0 e1 HD BX hC hL ho;go_wp2_with fail;refine wp_region_quiet_below (by kernel_rfl) (by kernel_rfl) ?_
      repeat (first | go_big_quiet_step (fail) | quiet_step (fail))
      refine wpQuiet_nil ?_;intro _ hw';obtain ⟨⟨dq,osq⟩,hw''⟩:=hw';subst hw'';have HV:Hid (Ba.Own (grow (redrawn wz dq) osq) B (.slice (some ⟨g,0,none⟩) n cap) D.toList/\Below B w0 (grow (redrawn wz dq) osq)):=Lh ⟨Ba.own_below H.out.1 (below_regrown wz dq osq),H.out.2.trans ((below_regrown wz dq osq).mono (Nat.le_trans HG.out (Nat.le_of_lt (Ba.zT H.out.1))))⟩;generalize grow (redrawn wz dq) osq=wv at *;clear g0' g1' OT OU q0 q1 H;go_wp2_with fail
      go_loopw [3,5] (fun a b wr=>∃ (kk j:Nat) (dk:Array Ba.T),a=.int .i64 kk/\b=.int .i64 ((j+1:Nat):Int)/\j+1<=L/\kk < n/\Hid (Lib.CompInv D (k+1+j+1) kk dk)/\Hid (Ba.Own wr B (.slice (some ⟨g,0,none⟩) n cap) dk.toList/\Below B w0 wr)) (fun _ b _=>L+1 - (intOf b).toNat)
      case atStart=>exact ⟨k+1,0,D,by go_num,rfl,by omega,hlt,Vr,HV⟩
      case round =>
       clear HV Vr hsl;rename World=>wy
       obtain ⟨kk,j,dk,rfl,rfl,hj,hkk,HI,H⟩:=hrel;have oj1:(k+1+j)*2=o+j*2:=by have:=HOo.out;omega
       have oj2:(k+1+(j+1))*2=o+(j+1)*2:=by have:=HOo.out;omega
       have hds:dk.size=n:=by rw [HI.out.size,HN.out]
       have hkm:=HI.out.lt;by_cases hlt2:j+1 < L
       ·
        obtain ⟨hu1,hfz⟩:=mR H.out.1 (k+1+j) (by omega);obtain ⟨hu2,_⟩:=mR H.out.1 (k+1+(j+1)) (by omega);obtain ⟨hu3,_⟩:=mR H.out.1 kk (by omega);rw [HI.out.high (k+1+j) (by omega),oj1] at hu1;rw [HI.out.high (k+1+(j+1)) (by omega),oj2] at hu2;clear oj1 oj2;obtain ⟨v,hv⟩:∃ v,D[k+1+j]! =v:=⟨_,rfl⟩;obtain ⟨u,hu⟩:∃ u,D[k+1+(j+1)]! =u:=⟨_,rfl⟩;have HUV:=Lh (And.intro hu hv);rw [hv] at hu1;rw [hu] at hu2;generalize dk[kk]! =old at hu3;clear hu hv;obtain ⟨g0,g1⟩:=hu1;obtain ⟨f0,f1⟩:=hu2;have g0':=cell_regrown g0;have g1':=cell_regrown g1;have OT:=cell_regrown f0;have OU:=cell_regrown f1;have Le:Hid (u=v->Lib.CompInv D (k+1+(j+1)+1) kk dk):=Lh fun e=>HI.out.skip (Lib.keeps_neg (by omega) (by rw [show k+1+j+1=k+1+(j+1) by omega,HUV.out.1,show k+1+(j+1) - 1=k+1+j by omega,HUV.out.2];exact e))
        have Ga:Hid (u≠v->Lib.CompInv D (k+1+(j+1)+1) (kk+1) (dk.setIfInBounds kk u)):=Lh fun e=>by
         have h:=HI.out.keep (by rw [<- HN.out];omega) (Lib.keeps_pos (by rw [show k+1+j+1=k+1+(j+1) by omega,HUV.out.1,show k+1+(j+1) - 1=k+1+j by omega,HUV.out.2];exact e));rw [show k+1+j+1=k+1+(j+1) by omega,HUV.out.1] at h;exact h
        have O4:Hid (∀ wv,Below wy.heap.size wy wv->(wv.cell? ⟨g,kk*2,none⟩=some (.string old.aF)/\wv.cell? ⟨g,kk*2+1,none⟩=some (.int .i64 old.dG)/\(∀ o,wv.frozen? ⟨g,o,none⟩=false)/\wv.cell? ⟨g,o+(j+1)*2,none⟩=some (.string u.aF)/\wv.cell? ⟨g,o+(j+1)*2+1,none⟩=some (.int .i64 u.dG))/\Ba.Own wv B (.slice (some ⟨g,0,none⟩) n cap) dk.toList/\Below B w0 wv):=Lh fun wv hb=>by
         have hgl:g < wy.heap.size:=Ba.zT H.out.1;refine ⟨⟨?_,?_,fun o=>?_,?_,?_⟩,Ba.own_below H.out.1 hb,H.out.2.trans (hb.mono (Nat.le_trans HG.out (Nat.le_of_lt hgl)))⟩
         · rw [(aD hb).1 _ _ hgl];exact hu3.c0
         · rw [(aD hb).1 _ _ hgl];exact hu3.c1
         · rw [(aD hb).2 _ _ hgl];exact hfz o
         · rw [(aD hb).1 _ _ hgl];exact f0
         · rw [(aD hb).1 _ _ hgl];exact f1
        clear hu3 hfz g0 g1 f0 f1 HI H;have fin:u≠v->Hid (u≠v):=fun h=>Lh h
        have both:(u.aF=v.aF/\u.dG=v.dG)\/(u.aF=v.aF/\u.dG≠v.dG)\/u.aF≠v.aF:=by
         by_cases h0:u.aF=v.aF
         ·
          by_cases h1:u.dG=v.dG
          · exact .inl ⟨h0,h1⟩
          · exact .inr (.inl ⟨h0,h1⟩)
         · exact .inr (.inr h0)
        rcases both with ⟨e0,e1⟩ | ⟨e0,e1⟩ | e0
        ·
         have q0:(u.aF.toList==v.aF.toList)=true:=beq_iff_eq.2 (by rw [e0]);have q1:(u.dG==v.dG)=true:=beq_iff_eq.2 e1;have HE:=Lh (Le.out (RG e0 e1));clear e0 e1 fin Le Ga;go_wp2_with fail;refine wp_region_quiet_below (by kernel_rfl) (by kernel_rfl) ?_
         repeat (first | go_big_quiet_step (fail) | quiet_step (fail))
         refine wpQuiet_nil ?_;intro _ hw';obtain ⟨⟨dq,osq⟩,hw''⟩:=hw';subst hw'';have HV:=Lh (O4.out _ (below_regrown wy dq osq)).2;go_wp2_with fail;go_roundw
         case rel=>exact ⟨kk,j+1,dk,rfl,by go_num,by omega,hkk,HE,HV⟩
         case measure=>simp [intOf];omega
        ·
         have q0:(u.aF.toList==v.aF.toList)=true:=beq_iff_eq.2 (by rw [e0]);have q1:(u.dG==v.dG)=false:=beq_eq_false_iff_ne.2 e1;have HE:=Lh (Ga.out fun h=>e1 (by rw [h]));clear e0 e1 fin Le Ga;go_wp2_with fail;refine wp_region_quiet_below (by kernel_rfl) (by kernel_rfl) ?_
         repeat (first | go_big_quiet_step (fail) | quiet_step (fail))
         refine wpQuiet_nil ?_;intro _ hw';obtain ⟨⟨dq,osq⟩,hw''⟩:=hw';subst hw'';obtain ⟨⟨c0,c1,cf,c2,c3⟩,hV⟩:=O4.out _ (below_regrown wy dq osq);have HV:=Lh hV;clear hV g0' g1' OT OU;have cf0:=cf (kk*2);have cf1:=cf (kk*2+1);clear cf;generalize grow (redrawn wy dq) osq=wv at *
         have HP:Hid (Ba.Own ((wv.setCell ⟨g,kk*2,none⟩ (.string u.aF)).setCell ⟨g,kk*2+1,none⟩ (.int .i64 u.dG)) B (.slice (some ⟨g,0,none⟩) n cap) (dk.setIfInBounds kk u).toList/\Below B w0 ((wv.setCell ⟨g,kk*2,none⟩ (.string u.aF)).setCell ⟨g,kk*2+1,none⟩ (.int .i64 u.dG))):=Lh ⟨by
          have h:=Ba.rZ HV.out.1 kk (by rw [Array.length_toList,hds];exact hkk) u;rw [Array.toList_setIfInBounds];exact h,Ba.gL HV.out.2 HG.out kk _ _⟩
         go_wp2_with fail;go_roundw
         case rel=>exact ⟨kk+1,j+1,dk.setIfInBounds kk u,by go_num,by go_num,by omega,by omega,HE,HP⟩
         case measure=>simp [intOf];omega
        ·
         have q0:(u.aF.toList==v.aF.toList)=false:=beq_eq_false_iff_ne.2 fun h=>e0 (Vt.gM h)
         have HE:=Lh (Ga.out fun h=>e0 (by rw [h]));clear e0 fin Le Ga;go_wp2_with fail;refine wp_region_quiet_below (by kernel_rfl) (by kernel_rfl) ?_
         repeat (first | go_big_quiet_step (fail) | quiet_step (fail))
         refine wpQuiet_nil ?_;intro _ hw';obtain ⟨⟨dq,osq⟩,hw''⟩:=hw';subst hw'';obtain ⟨⟨c0,c1,cf,c2,c3⟩,hV⟩:=O4.out _ (below_regrown wy dq osq);have HV:=Lh hV;clear hV g0' g1' OT OU;have cf0:=cf (kk*2);have cf1:=cf (kk*2+1);clear cf;generalize grow (redrawn wy dq) osq=wv at *
         have HP:Hid (Ba.Own ((wv.setCell ⟨g,kk*2,none⟩ (.string u.aF)).setCell ⟨g,kk*2+1,none⟩ (.int .i64 u.dG)) B (.slice (some ⟨g,0,none⟩) n cap) (dk.setIfInBounds kk u).toList/\Below B w0 ((wv.setCell ⟨g,kk*2,none⟩ (.string u.aF)).setCell ⟨g,kk*2+1,none⟩ (.int .i64 u.dG))):=Lh ⟨by
          have h:=Ba.rZ HV.out.1 kk (by rw [Array.length_toList,hds];exact hkk) u;rw [Array.toList_setIfInBounds];exact h,Ba.gL HV.out.2 HG.out kk _ _⟩
         go_wp2_with fail;go_roundw
         case rel=>exact ⟨kk+1,j+1,dk.setIfInBounds kk u,by go_num,by go_num,by omega,by omega,HE,HP⟩
         case measure=>simp [intOf];omega
       ·
        obtain rfl:j+1=L:=by omega
        clear oj1 oj2;have hnn:k+1+j+1=D.size:=by rw [<- HN.out];omega
        have HI2:Hid (Lib.compactUpTo D D.size=dk.toList.take kk):=Lh (Nu (by have h:=HI.out;rw [hnn] at h;exact h));obtain ⟨W,hcl,hW1,hW2⟩:=Jp H.out.1 hkk;have HW1:=Lh hW1;have HW2:=Lh (hW2 w0 H.out.2);have hs1:=BR g n cap kk (n - kk) (cap - kk) (kk:Int) rfl (by omega) (by omega) (by omega) (by omega) hcap;have hs2:=Vq g n cap kk (kk:Int) rfl (by omega) hcap;clear hW1 hW2 HI H;go_wp2_with fail;go_ret;exact ⟨kk,rfl,by rw [HI2.out];exact HW1.out,HW2.out⟩
     ·
      have q1:(r.dG==s.dG)=false:=beq_eq_false_iff_ne.2 e1;have HE:=Lh (BX.out fun h=>e1 (by rw [h]));clear e0 e1;go_wp2_with fail;refine wp_region_quiet_below (by kernel_rfl) (by kernel_rfl) ?_
      repeat (first | go_big_quiet_step (fail) | quiet_step (fail))
      refine wpQuiet_nil ?_;intro _ hw';obtain ⟨⟨dq,osq⟩,hw''⟩:=hw';subst hw'';have HV:Hid (Ba.Own (grow (redrawn wz dq) osq) B (.slice (some ⟨g,0,none⟩) n cap) D.toList/\Below B w0 (grow (redrawn wz dq) osq)):=Lh ⟨Ba.own_below H.out.1 (below_regrown wz dq osq),H.out.2.trans ((below_regrown wz dq osq).mono (Nat.le_trans HG.out (Nat.le_of_lt (Ba.zT H.out.1))))⟩;go_wp2_with fail;go_roundw
      case rel=>exact ⟨k+1,by omega,by go_num,HE,HV⟩
      case measure=>simp [intOf];omega
    ·
     have q0:(r.aF.toList==s.aF.toList)=false:=beq_eq_false_iff_ne.2 fun h=>e0 (Vt.gM h)
     have HE:=Lh (BX.out fun h=>e0 (by rw [h]));clear e0;go_wp2_with fail;refine wp_region_quiet_below (by kernel_rfl) (by kernel_rfl) ?_
     repeat (first | go_big_quiet_step (fail) | quiet_step (fail))
     refine wpQuiet_nil ?_;intro _ hw';obtain ⟨⟨dq,osq⟩,hw''⟩:=hw';subst hw'';have HV:Hid (Ba.Own (grow (redrawn wz dq) osq) B (.slice (some ⟨g,0,none⟩) n cap) D.toList/\Below B w0 (grow (redrawn wz dq) osq)):=Lh ⟨Ba.own_below H.out.1 (below_regrown wz dq osq),H.out.2.trans ((below_regrown wz dq osq).mono (Nat.le_trans HG.out (Nat.le_of_lt (Ba.zT H.out.1))))⟩;go_wp2_with fail;go_roundw
     case rel=>exact ⟨k+1,by omega,by go_num,HE,HV⟩
     case measure=>simp [intOf];omega
   ·
    obtain rfl:k+1=n:=by omega
    have HA:=Lh (F9 (D:=D) fun j hj=>HK.out j (by have:=HN.out;omega));go_wp2_with fail;go_ret;exact ⟨k+1,by go_num,by rw [HA.out];exact H.out.1,H.out.2⟩
theorem Po.RH {bs ls:List Ba.T} (hS:Po.Sorted bs):∀ x∈bs++Po.news bs ls,∀ y∈bs++Po.news bs ls,x.aF=y.aF->x=y:=by
 intro x hx y hy e;rcases List.mem_append.1 hx with h | h
 ·
  rcases List.mem_append.1 hy with k | k
  ·
   obtain ⟨p1,_⟩:=Po.look hS h rfl;obtain ⟨p2,_⟩:=Po.look hS k e.symm;rw [<- p1,<- p2]
  ·
   have h1:=(Po.rX hS y.aF).2 ⟨x,h,e⟩;rw [(Po.kY.1 k).2.1] at h1;cases h1
 ·
  rcases List.mem_append.1 hy with k | k
  ·
   have h1:=(Po.rX hS x.aF).2 ⟨y,k,e.symm⟩;rw [(Po.kY.1 h).2.1] at h1;cases h1
  · exact RG e (by rw [(Po.kY.1 h).1,(Po.kY.1 k).1])
theorem Po.Gb {bs ls:List Ba.T} {D:Array Ba.T} (hS:Po.Sorted bs) (hp:D.toList.Perm (bs++Po.news bs ls)) (hs:∀ i j,i < j->j < D.size->Po.lt D[j]!.aF D[i]!.aF=false):Po.Dw bs ls (Lib.compactUpTo D D.size):=by
 have hmem:∀ i,i < D.size->D[i]! ∈bs++Po.news bs ls:=fun i hi=>by
  rw [<- hp.mem_iff,getElem!_pos D i hi]
  simp
 obtain ⟨h1,h2⟩:=Po.vE D hs (fun i j hi hj e=>Po.RH hS _ (hmem i hi) _ (hmem j hj) e) D.size (Nat.le_refl _);refine Po.MS hS h1 fun x=>?_
 rw [h2 x,<- hp.mem_iff];constructor
 ·
  rintro ⟨i,hi,rfl⟩;rw [getElem!_pos D i hi]
  simp
 ·
  intro hx;obtain ⟨i,hi,e⟩:=List.getElem_of_mem hx;have hi':i < D.size:=by simpa using hi
  exact ⟨i,hi',by rw [getElem!_pos D i hi'];simpa using e⟩
theorem Po.uD {bs:List Ba.T}:∀ {ls:List Ba.T},(∀ r∈ls,Ba.Short r)->∀ r∈Po.news bs ls,Ba.Short r
 | [],_,r,h=>by cases h
 | x::l,hs,r,h=>by
  unfold Po.news at h;split at h
  · exact Po.uD (fun y hy=>hs y (by simp [hy])) r h
  ·
   rcases List.mem_cons.1 h with rfl | h
   · exact ⟨(hs x (by simp)).1,⟨by show (-9223372036854775808:Int)<=0;omega,by show (0:Int)<=9223372036854775807;omega⟩⟩
   · exact Po.uD (fun y hy=>hs y (by simp [hy])) r h
theorem Gc {M:List Ba.T} (h:Ba.Own w B (.slice ao n cap) M):n=M.length:=(BU h).1
theorem Gd (bs ls:List Ba.T) (ao bo:Option Addr) (n ca k0 cb:Nat) (w:World) (hB:Ba.Ls w ao n ca bs) (hL:Ba.Ls w bo k0 cb ls) (hS:Po.Sorted bs) (hn:n<=1000) (hk0:k0<=1000) :
  Calls Tryz.prog 124 #[.slice ao n ca,.slice bo k0 cb] w fun e w'=>∃ (v:Value) (M:List Ba.T),e=.returned v/\Ba.Own w' w.heap.size v M/\Po.Dw bs ls M/\(∀ r∈M,Ba.Short r)/\M.length<=2000/\Below w.heap.size w w':=by
 have YP:=Lh hB;have HL:=Lh hL;have HN:=Lh hB.len;have lC:=Lh hL.len;have HS:=Lh hS;have hca:=hB.reach;have hna:=hB.fits;have hcb:=hL.reach;have OQ:=hL.fits;have hmk:=Ba.make n (by omega);have eD:=Ba.aZ w n;have hbel0:Below w.heap.size w (w.alloc (.cells (Ba.zeros n) 81)):=(Below.refl _ _).alloc (Nat.le_refl _) _;obtain ⟨W1,hcp,hblk,hbel,hsz⟩:=Ba.copy (w.alloc (.cells (Ba.zeros n) 81)) w.heap.size [] n ao n ca bs (by rw [List.append_nil];exact eD) hB.len ((hB.below hbel0).seg);rw [List.length_nil,Nat.add_zero] at hcp;rw [List.append_nil] at hblk;have HB1:=Lh (hbel _ _ hbel0 (Nat.le_refl _))
 have lY:Hid (Ba.Own W1 w.heap.size (.slice (some ⟨w.heap.size,0,none⟩) n n) (bs++Po.news bs (ls.take 0))):=Lh (by
  rw [List.take_zero,Po.news,List.append_nil];exact Ba.fG hblk (Nat.le_refl _) hB.len (by omega))
 clear hB hL hS eD hbel0 hblk hbel hsz;go_enter Tryz.func124,Tryz.ntmps124;go_wp2_with fail;clear hcp hmk
 go_loopw [5,7,16] (fun t _ i wr=>∃ (k:Nat) (vo:Option Addr) (q vc:Nat),k<=k0/\i=.int .i64 k/\t=.slice vo q vc/\Hid (Below w.heap.size w wr)/\Hid (Ba.Own wr w.heap.size (.slice vo q vc) (bs++Po.news bs (ls.take k)))) (fun _ _ i _=>k0 - (intOf i).toNat)
 case atStart=>exact ⟨0,_,n,n,by omega,rfl,rfl,HB1,lY⟩
 case round =>
  clear HB1 lY;rename World=>wz
  obtain ⟨k,vo,q,vc,hk,rfl,rfl,HB,HO⟩:=hrel;by_cases hlt:k < k0
  ·
   obtain ⟨lb,loff,rfl⟩:=HL.out.at (by omega);have hkl:k < ls.length:=lC.out▸hlt;have hrow:=(HL.out.row k hkl).below HB.out;have bX:=Lh (Po.MR bs ls k hkl)
   have xK:Hid ((bs++Po.news bs (ls.take k)).length<=2000):=Lh (by
    rw [List.length_append];have h1:=Po.zK bs (ls.take k);rw [List.length_take] at h1;have h2:=HN.out;omega)
   obtain ⟨x,hx⟩:∃ x,ls[k]=x:=⟨_,rfl⟩;rw [hx] at hrow bX;clear hx;obtain ⟨r0,r1⟩:=hrow;obtain ⟨W,hW,hbW,hA⟩:=Ba.bZ wz x;have dz:=Lh (aj HB.out hbW);have HOW:=Lh (Ba.own_below HO.out hbW);unfold Ba.C at hA;obtain ⟨a0,a1⟩:=hA;clear hbW;go_wp2_with fail;refine (RD bs x.aF ao n ca W (YP.out.below dz.out) HS.out).mono ?_;rintro e w2 ⟨rfl,hw2⟩;have hw3:=hw2.symm;clear hw2;subst hw3;clear hW;cases hh:Po.has x.aF bs
   ·
    rw [hh,if_neg (by simp)] at bX;have hsz2:w.heap.size<=W.heap.size:=dz.out.size;clear hh;go_wp2_with (at_builtin;go_must (refine Ba.aG _ rfl (.tmp 25) (.tmp 29) rfl w.heap.size (.slice vo q vc) (bs++Po.news bs (ls.take k)) rfl (Ba.bA HOW.out _) (some ⟨W.heap.size,0,none⟩) 1 1 [⟨x.aF,0⟩] rfl rfl (fun h=>by cases h) (Ba.bB (heap_alloc_new W _)) (by have:=xK.out;omega) (by simp;omega) ?_));intro v1 w3 o1 vI _;have HB3:Hid (Below w.heap.size w w3):=Lh ((aL dz.out _).grown vI (by simp;omega) (Ba.bK HOW.out))
    try rw [List.append_assoc] at o1
    rw [<- bX.out] at o1;have ow:=Lh o1
    obtain ⟨va,q2,vc2,hv1⟩:∃ va q2 vc2,v1=.slice va q2 vc2:=by
     rcases o1.2 with ⟨h',_⟩ | ⟨g',cap',cur,h',_⟩
     · exact ⟨_,_,_,h'⟩
     · exact ⟨_,_,_,h'⟩
    subst hv1;clear vI o1 hsz2;go_wp2_with fail;go_roundw
    case rel=>exact ⟨k+1,va,q2,vc2,by omega,by go_num,rfl,HB3,ow⟩
    case measure=>simp [intOf];omega
   ·
    rw [hh,if_pos rfl,List.append_nil] at bX;have ow:Hid (Ba.Own W w.heap.size (.slice vo q vc) (bs++Po.news bs (ls.take (k+1)))):=Lh (by rw [bX.out];exact HOW.out);clear hh;go_wp2_with fail;go_roundw
    case rel=>exact ⟨k+1,vo,q,vc,by omega,by go_num,rfl,dz,ow⟩
    case measure=>simp [intOf];omega
  ·
   obtain rfl:k=k0:=by omega
   have ow:Hid (Ba.Own wz w.heap.size (.slice vo q vc) (bs++Po.news bs ls)):=Lh (by have h:=HO.out;rw [List.take_of_length_le (Nat.le_of_eq lC.out.symm)] at h;exact h);have HQ:=Lh (Gc ow.out)
   have xK:Hid ((bs++Po.news bs ls).length<=2000):=Lh (by
    rw [List.length_append];have h1:=Po.zK bs ls;have h2:=HN.out;have h3:=lC.out;omega)
   have bT:Hid (∀ r∈bs++Po.news bs ls,Ba.Short r):=Lh (by
    intro r hr;rcases List.mem_append.1 hr with h | h
    · exact YP.out.short r h
    · exact Po.uD HL.out.short r h)
   have hq:q<=2000:=by have h1:=HQ.out;have h2:=xK.out;omega
   obtain ⟨h0,hh0⟩:∃ h0,w.heap.size=h0:=⟨_,rfl⟩;have HH0:=Lh hh0;rw [hh0] at ow HB;rw [hh0];clear hh0 HO;go_wp2_with fail;refine (Nt _ h0 q vc vo w _ HB.out ow.out HQ.out (by omega)).mono ?_;rintro e w2 ⟨rfl,D,o2,hp,hD,hs,b2⟩;have HO4:=Lh o2;have pR:=Lh b2;have YQ:=Lh (Po.Gb HS.out hp hs);have HD:Hid (q=D.size):=Lh (by rw [hD];exact HQ.out)
   have vK:Hid (∀ r∈Lib.compactUpTo D D.size,Ba.Short r):=Lh (by
    intro r hr;unfold Lib.compactUpTo at hr;obtain ⟨i,hi,rfl⟩:=List.mem_map.1 hr
    have hi':i < D.size:=by
     have:=(List.mem_filter.1 hi).1
     rwa [List.mem_range] at this
    apply bT.out;rw [<- hp.mem_iff,getElem!_pos D i hi']
    simp)
   have HLc:Hid ((Lib.compactUpTo D D.size).length<=2000):=Lh (by
    unfold Lib.compactUpTo;rw [List.length_map];have h1:=List.length_filter_le (Lib.keeps D) (List.range D.size);rw [List.length_range] at h1;have:=HD.out;omega)
   clear o2 b2 hp hD hs HB ow bT;go_wp2_with fail;refine (DW D h0 q vc vo w _ pR.out HO4.out HD.out (by omega)).mono ?_;rintro e w3 ⟨k3,rfl,o3,b3⟩;have Xr:=Lh o3;have tZ:=Lh b3;clear o3 b3 HO4 pR;go_wp2_with fail;go_ret;exact ⟨_,_,rfl,by rw [HH0.out];exact Xr.out,YQ.out,vK.out,HLc.out,by rw [HH0.out];exact tZ.out⟩
theorem zU (h:Mn.Fit x):both (Mn.dG x) (Mn.err x)=both x 0:=by rw [Mn.jk h,Mn.Ku h]
theorem zV (h: ¬ Mn.Fit x):both (Mn.dG x) (Mn.err x)=both 0 7:=by rw [Mn.xZ h,Mn.Us h]
theorem pq (a b:Int) (w:World) (ha:Mn.Fit a) (hb:Mn.Fit b) :
  Calls Tryz.prog 126 #[.int .i64 a,.int .i64 b] w fun e w'=>e=both (Mn.dG (a+b)) (Mn.err (a+b))/\w'=w:=by
 obtain ⟨ha0,ha1⟩:=ha;obtain ⟨hb0,hb1⟩:=hb;go_enter Tryz.func126,Tryz.ntmps126;by_cases hf:Mn.Fit (a+b)
 ·
  rw [zU hf];obtain ⟨hf0,hf1⟩:=hf;by_cases h1:0 < b
  ·
   have h2: ¬ 9223372036854775807 - b < a:=by omega
   have h3: ¬ b < 0:=by omega
   go_wp2;go_ret2;exact ⟨rfl,rfl⟩
  ·
   by_cases h3:b < 0
   ·
    have h2: ¬ a < -9223372036854775808 - b:=by omega
    go_wp2;go_ret2;exact ⟨rfl,rfl⟩
   ·
    go_wp2;go_ret2;exact ⟨rfl,rfl⟩
 ·
  rw [zV hf];by_cases h1:0 < b
  ·
   have h2:9223372036854775807 - b < a:=by unfold Mn.Fit at hf;omega
   clear hf;go_wp2;go_ret2;exact ⟨rfl,rfl⟩
  ·
   have h3:b < 0:=by unfold Mn.Fit at hf;omega
   have h2:a < -9223372036854775808 - b:=by unfold Mn.Fit at hf;omega
   clear hf;go_wp2;go_ret2;exact ⟨rfl,rfl⟩
theorem Lf (a b:Int) (w:World) (ha:Mn.Fit a) (hb:Mn.Fit b) :
  Calls Tryz.prog 122 #[.int .i64 a,.int .i64 b] w fun e w'=>e=both (Mn.dG (a - b)) (Mn.err (a - b))/\w'=w:=by
 obtain ⟨ha0,ha1⟩:=ha;obtain ⟨hb0,hb1⟩:=hb;go_enter Tryz.func122,Tryz.ntmps122;by_cases hf:Mn.Fit (a - b)
 ·
  rw [zU hf];obtain ⟨hf0,hf1⟩:=hf;by_cases h1:0 < b
  ·
   have h2: ¬ a < -9223372036854775808+b:=by omega
   have h3: ¬ b < 0:=by omega
   go_wp2;go_ret2;exact ⟨rfl,rfl⟩
  ·
   by_cases h3:b < 0
   ·
    have h2: ¬ 9223372036854775807+b < a:=by omega
    go_wp2;go_ret2;exact ⟨rfl,rfl⟩
   ·
    go_wp2;go_ret2;exact ⟨rfl,rfl⟩
 ·
  rw [zV hf];by_cases h1:0 < b
  ·
   have h2:a < -9223372036854775808+b:=by unfold Mn.Fit at hf;omega
   clear hf;go_wp2;go_ret2;exact ⟨rfl,rfl⟩
  ·
   have h3:b < 0:=by unfold Mn.Fit at hf;omega
   have h2:9223372036854775807+b < a:=by unfold Mn.Fit at hf;omega
   clear hf;go_wp2;go_ret2;exact ⟨rfl,rfl⟩
theorem Gf (a b:Int) (w:World) (ha:Mn.Fit a) (hb:Mn.Fit b) :
  Calls Tryz.prog 195 #[.int .i64 a,.int .i64 b] w fun e w'=>e=.returned (.bool (decide (Mn.Fit (a*b))))/\w'=w:=by
 obtain ⟨ha0,ha1⟩:=ha;obtain ⟨hb0,hb1⟩:=hb;go_enter Tryz.func195,Tryz.ntmps195;by_cases ha:a=0
 ·
  subst ha;go_wp2;go_ret;exact ⟨ay (by rw [Int.zero_mul];rfl),rfl⟩
 by_cases hb:b=0
 ·
  subst hb;go_wp2;go_ret;exact ⟨ay (by rw [Int.mul_zero];rfl),rfl⟩
 have ha':(a==0)=false:=by simpa using ha
 have hb':(b==0)=false:=by simpa using hb
 by_cases h1:0 < a
 ·
  by_cases h2:0 < b
  ·
   have HQ:=Lh (Mn.Ut a b h1 h2);have HM:=Lh (Mn.mul_pos h1 h2);have hqb:=Mn.yQ 9223372036854775807 b (by omega) hb;by_cases hq:a<=(9223372036854775807:Int).tdiv b
   ·
    go_wp2;go_ret;refine ⟨ay (decide_eq_true ?_).symm,rfl⟩;have hm:=HM.out;have hr:=HQ.out.1 hq;exact ⟨by omega,by omega⟩
   ·
    go_wp2;go_ret;refine ⟨ay (decide_eq_false fun hf=>?_).symm,rfl⟩;have hr:=HQ.out.2;unfold Mn.Fit at hf;omega
  ·
   have HQ:=Lh (Mn.Kw a b h1);have HM:=Lh (Mn.Yn h1 (show b < 0 by omega));have hqb:=Mn.EJ 9223372036854775808 a (by omega) h1;by_cases hq: -(9223372036854775808:Int).tdiv a<=b
   ·
    go_wp2;go_ret;refine ⟨ay (decide_eq_true ?_).symm,rfl⟩;have hm:=HM.out;have hr:=HQ.out.1 hq;exact ⟨by omega,by omega⟩
   ·
    go_wp2;go_ret;refine ⟨ay (decide_eq_false fun hf=>?_).symm,rfl⟩;have hr:=HQ.out.2;unfold Mn.Fit at hf;omega
 ·
  by_cases h2:0 < b
  ·
   have HQ:=Lh (Mn.Uu a b h2);have HM:=Lh (Mn.Yo (show a < 0 by omega) h2);have hqb:=Mn.EJ 9223372036854775808 b (by omega) h2;by_cases hq: -(9223372036854775808:Int).tdiv b<=a
   ·
    go_wp2;go_ret;refine ⟨ay (decide_eq_true ?_).symm,rfl⟩;have hm:=HM.out;have hr:=HQ.out.1 hq;exact ⟨by omega,by omega⟩
   ·
    go_wp2;go_ret;refine ⟨ay (decide_eq_false fun hf=>?_).symm,rfl⟩;have hr:=HQ.out.2;unfold Mn.Fit at hf;omega
  ·
   have HQ:=Lh (Mn.Uv a b (show b < 0 by omega));have HM:=Lh (Mn.Yp (show a < 0 by omega) (show b < 0 by omega));have hqb:=Mn.yQ 9223372036854775807 b (by omega) hb;by_cases hq:(9223372036854775807:Int).tdiv b<=a
   ·
    go_wp2;go_ret;refine ⟨ay (decide_eq_true ?_).symm,rfl⟩;have hm:=HM.out;have hr:=HQ.out.1 hq;exact ⟨by omega,by omega⟩
   ·
    go_wp2;go_ret;refine ⟨ay (decide_eq_false fun hf=>?_).symm,rfl⟩;have hr:=HQ.out.2;unfold Mn.Fit at hf;omega
theorem Vs (a b:Int) (w:World) (ha:Mn.Fit a) (hb:Mn.Fit b) :
  Calls Tryz.prog 181 #[.int .i64 a,.int .i64 b] w fun e w'=>e=both (Mn.dG (a*b)) (Mn.err (a*b))/\w'=w:=by
 by_cases hf:Mn.Fit (a*b)
 ·
  rw [zU hf];go_enter Tryz.func181,Tryz.ntmps181;go_wp2_with fail;refine (Gf a b _ ha hb).mono ?_;rintro e _ ⟨rfl,rfl⟩;rw [decide_eq_true hf];obtain ⟨hf0,hf1⟩:=hf;clear ha hb;go_wp2;go_ret2;exact ⟨rfl,rfl⟩
 ·
  rw [zV hf];go_enter Tryz.func181,Tryz.ntmps181;go_wp2_with fail;refine (Gf a b _ ha hb).mono ?_;rintro e _ ⟨rfl,rfl⟩;rw [decide_eq_false hf];clear hf ha hb;go_wp2;go_ret2;exact ⟨rfl,rfl⟩
def YR (w:World) (b l:List Ba.T) (e:Ending) (w':World):Prop:=∃ v,e=.returned (.tuple #[v,.int .i64 (Po.jw b l)])/\Ba.Own w' w.heap.size v (Po.vk b l)/\Below w.heap.size w w'
structure Nv (w wr:World) (vo:Option Addr) (q vc:Nat) (M:List Ba.T):Prop where
 dx:Below w.heap.size w wr
 own:Ba.Own wr w.heap.size (.slice vo q vc) M
 sh:∀ r∈M,Ba.Short r
section
variable {w wr v:World} {vo:Option Addr} {q vc:Nat} {M:List Ba.T}
theorem Nv.below (h:Nv w wr vo q vc M) (b:Below wr.heap.size wr v):Nv w v vo q vc M:=⟨aj h.dx b,Ba.own_below h.own b,h.sh⟩
theorem Nv.len (h:Nv w wr vo q vc M):q=M.length/\q<=vc/\vc<=9223372036854775807/\Ba.Ls wr vo q vc M:=by
 obtain ⟨ao,cap,e,hL,_⟩:=Ba.aX h.own h.sh;simp only [Value.slice.injEq] at e;obtain ⟨e1,e2,e3⟩:=e;subst e1 e3;rw [<- e2] at hL;exact ⟨e2,hL.fits,hL.reach,hL⟩
theorem Nv.at (h:Nv w wr vo q vc M) (k:Nat) (hk:k < M.length):∃ b,vo=some ⟨b,0,none⟩/\w.heap.size<=b/\Ba.At wr b (k*2) M[k]/\(∀ o,wr.frozen? ⟨b,o,none⟩=false):=by
 obtain ⟨ao,cap,e,hL,hg⟩:=Ba.aX h.own h.sh;simp only [Value.slice.injEq] at e;obtain ⟨e1,e2,e3⟩:=e;subst e1 e3;obtain ⟨b,off,hb⟩:=hL.at (by omega);obtain ⟨b',hb',hB⟩:=hg _ hb;rw [hb'] at hb;subst hb;obtain ⟨h1,h2,h3⟩:=Ba.dH h.own k hk;exact ⟨b',rfl,hB,h1,h2⟩
theorem Nv.put (h:Nv w wr vo q vc M) {b:Nat} (hv:vo=some ⟨b,0,none⟩) (hb:w.heap.size<=b) (k p:Nat) (hk:k < M.length) (hp:p < 2) (x:Value) (r:Ba.T) (hr:Ba.rv r=(Ba.rv M[k]).set p x) (hs:Ba.Short r):Nv w (wr.setCell ⟨b,k*2+p,none⟩ x) vo q vc (M.set k r):=by
 subst hv;refine ⟨bU h.dx hb _ _,Ba.jo h.own k p hk hp x r hr,?_⟩;intro a ha;rcases List.mem_or_eq_of_mem_set ha with ha | rfl
 · exact h.sh a ha
 · exact hs
end
theorem zW (h:Mn.err x=0):Mn.Fit x:=by
 unfold Mn.err at h;split at h
 · assumption
 · omega
theorem Po.kI {c:ByteArray} (hc:c.size<=140737488355328):∀ {M:List Ba.T},(∀ r∈M,Ba.Short r)->Ba.Short (Po.part c M)
 | [],_=>⟨hc,⟨by show (-9223372036854775808:Int)<=0;omega,by show (0:Int)<=_;omega⟩⟩
 | a::l,hs=>by
  unfold Po.part;split
  · exact Po.kI hc fun x hx=>hs x (by simp [hx])
  ·
   split
   · exact hs a (by simp)
   · exact ⟨hc,⟨by show (-9223372036854775808:Int)<=0;omega,by show (0:Int)<=_;omega⟩⟩
theorem Po.sG {c:ByteArray} (hc:c.size<=140737488355328):∀ {M:List Ba.T},(∀ r∈M,Ba.Short r)->∀ r∈Po.ins c M,Ba.Short r
 | [],_,r,hr=>by
  obtain rfl:=List.mem_singleton.1 hr;exact ⟨hc,⟨by show (-9223372036854775808:Int)<=0;omega,by show (0:Int)<=_;omega⟩⟩
 | a::l,hs,r,hr=>by
  unfold Po.ins at hr;split at hr
  ·
   rcases List.mem_cons.1 hr with rfl | hr
   · exact hs _ (by simp)
   · exact Po.sG hc (fun x hx=>hs x (by simp [hx])) r hr
  ·
   split at hr
   · exact hs r hr
   ·
    rcases List.mem_cons.1 hr with rfl | hr
    · exact ⟨hc,⟨by show (-9223372036854775808:Int)<=0;omega,by show (0:Int)<=_;omega⟩⟩
    · exact hs r hr
end Go.Proofs.YtpfdnemaaeolcaaGreat
