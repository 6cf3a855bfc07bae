import Derived.Test.YtpfdnemaaeolcaaGreatRows
import Derived.WalkKit
import Derived.WalkLawsBesides
import Derived.Laws.BitsAllLaws
import Derived.Deep.QuietTactic
import Derived.BigQuiet
import Derived.WalkSmall
import Derived.WalkSpells
import Derived.Lib.Hide
import Derived.Lib.OthersKept
import Derived.Laws.Strings3
import Derived.Laws.Runes
import Derived.Laws.Concat
import Derived.Deep.RegionHeld3
import Derived.Maps.AppendAt
import Derived.Laws.AppendOwnNone
import Derived.Laws.Rows
import Derived.Laws.CopyOwn
import Derived.Laws.MakeOwn
import Derived.Laws.BytesArg
import Derived.Lib.Zigzag
import Derived.Lib.VarintBits
import Derived.Lib.QuietBelow
import Derived.RegionTactic
variable {bs r l rs:List UInt8} {w v w0:Go.World} {u n cap b p f k o off g:Nat} {ao:Option Go.Addr} {x:UInt8} {most a lo hi:Int}
set_option maxHeartbeats 8000000
namespace Go.Proofs.YtpfdnemaaeolcaaGreat
theorem Lh {p: Prop} (h : p) : Go.RowKit.Hid p := h
end Go.Proofs.YtpfdnemaaeolcaaGreat
namespace Go.Proofs.YtpfdnemaaeolcaaGreat
open Go.RowKit
theorem ay {a b:Bool} (h:a=b):Ending.returned (.bool a)=.returned (.bool b):=by rw [h]
theorem eP {b:Int} (h:a=b):Ending.returned (.int .i64 a)=.returned (.int .i64 b):=by rw [h]
def both (v e:Int):Ending:=.returned (.tuple #[.int .i64 v,.int .i64 e])
theorem CQ {b c d:Int} (h:a=b) (k:c=d):both a c=both b d:=by rw [h,k]
def Fit (x:Int):Prop:= -9223372036854775808<=x/\x<=9223372036854775807
theorem jr (h:(Lit.int .i64 a).wf=true):Fit a:=by
 simpa [Lit.wf,IntKind.min,IntKind.max,IntKind.signed,IntKind.bits,Fit] using h
end Go.Proofs.YtpfdnemaaeolcaaGreat
namespace Go.Proofs.YtpfdnemaaeolcaaGreat.Pk
def zz (n:Int):Nat:=if n < 0 then (-2*n - 1).toNat else (2*n).toNat
def uz (u:Nat):Int:=if u % 2=1 then -((u / 2:Nat):Int) - 1 else ((u / 2:Nat):Int)
theorem uz_zz (n:Int):uz (zz n)=n:=by
 unfold uz zz;split <;> split <;> omega
theorem zz_uz (u:Nat):zz (uz u)=u:=by
 unfold uz zz;split <;> split <;> omega
theorem O8 {n:Int} (h:Fit n):zz n < 18446744073709551616:=by
 unfold Fit at h;unfold zz;split <;> omega
theorem Yc (h:u < 18446744073709551616):Fit (uz u):=by
 unfold uz Fit;split <;> omega
def vW:Nat->Nat->List UInt8
 | 0,_=>[]
 | f+1,u=>if u < 128 then [UInt8.ofNat u] else UInt8.ofNat (u % 128+128)::vW f (u / 128)
def vb (u:Nat):List UInt8:=vW 10 u
theorem uP (h:u < 128):vW (f+1) u=[UInt8.ofNat u]:=by rw [vW,if_pos h]
theorem uQ (h: ¬ u < 128):vW (f+1) u=UInt8.ofNat (u % 128+128)::vW f (u / 128):=by rw [vW,if_neg h]
theorem xV:∀ (f u:Nat),(vW f u).length<=f
 | 0,_=>Nat.le_refl _
 | f+1,u=>by
  rw [vW];split
  · simp
  ·
   simp
   exact xV f _
theorem CS:1<=(vW (f+1) u).length:=by
 rw [vW];split <;> simp
def lim (c:Nat):Nat:=2*128 ^ (10 - c)
theorem Kg:lim 1=18446744073709551616:=by decide
theorem Kh:lim 10=2:=by decide
theorem Ev {c:Nat} (h:c < 10):lim c=128*lim (c+1):=by
 unfold lim;rw [show 10 - c=(10 - (c+1))+1 by omega,Nat.pow_succ,Nat.mul_comm (128 ^ (10 - (c+1))) 128,<- Nat.mul_assoc,<- Nat.mul_assoc,Nat.mul_comm 2 128]
def wd (u:Nat):Nat:=(vb u).length
def rd:Nat->Nat->List UInt8->Int ⊕ (Nat×Nat)
 | _,_,[]=>.inl 3
 | k,u,x::l=>if k=9/\1 < x.toNat then .inl 4 else if 128<=x.toNat then rd (k+1) (u+x.toNat % 128*128 ^ k) l else if x.toNat=0/\0 < k then .inl 4 else .inr (u+x.toNat*128 ^ k,k+1)
def num (l:List UInt8):Int ⊕ (Nat×Nat):=rd 0 0 l
theorem Hy (k u:Nat):rd k u []=.inl 3:=rfl
theorem O9 (h:k=9) (hx:1 < x.toNat):rd k u (x::l)=.inl 4:=by rw [rd,if_pos ⟨h,hx⟩]
theorem jO (h: ¬ (k=9/\1 < x.toNat)) (hx:128<=x.toNat):rd k u (x::l)=rd (k+1) (u+x.toNat % 128*128 ^ k) l:=by rw [rd,if_neg h,if_pos hx]
theorem kL (hx:x.toNat=0) (hk:0 < k):rd k u (x::l)=.inl 4:=by rw [rd,if_neg (by omega),if_neg (by omega),if_pos ⟨hx,hk⟩]
theorem iO (h: ¬ (k=9/\1 < x.toNat)) (hx:x.toNat < 128) (h0: ¬ (x.toNat=0/\0 < k)):rd k u (x::l)=.inr (u+x.toNat*128 ^ k,k+1):=by rw [rd,if_neg h,if_neg (by omega),if_neg h0]
theorem kS (h:n < 256):(UInt8.ofNat n).toNat=n:=by
 simp
 omega
theorem Xg:∀ (f k u a:Nat) (r:List UInt8),k+f=10->u < 128 ^ f->(1<=f->u < 2*128 ^ (9 - k))->(0 < k->0 < u)->1<=f->rd k a (vW f u++r)=.inr (a+u*128 ^ k,k+(vW f u).length)
 | 0,_,_,_,_,_,_,_,_,h=>by omega
 | f+1,k,u,a,r,hk,hu,h9,h0,_=>by
  by_cases hs:u < 128
  ·
   rw [uP hs,List.cons_append,List.nil_append,iO (by
    rintro ⟨rfl,hx⟩;rw [kS (by omega)] at hx;have:=h9 (by omega);omega) (by rw [kS (by omega)];exact hs) (by
    rw [kS (by omega)];intro h;have:=h0 h.2;omega),kS (by omega)]
   simp
  ·
   have hf:1<=f:=by
    by_cases hf:1<=f
    · exact hf
    ·
     obtain rfl:f=0:=by omega
     simp at hu;omega
   rw [uQ hs,List.cons_append,jO (by
    rintro ⟨rfl,hx⟩;omega) (by rw [kS (by omega)];omega),kS (by omega)]
   have hp:128 ^ (9 - k)=128*128 ^ (9 - (k+1)):=by
    rw [show 9 - k=(9 - (k+1))+1 by omega,Nat.pow_succ,Nat.mul_comm]
   have h9':=h9 (by omega);rw [hp] at h9';rw [Nat.pow_succ] at hu;rw [Xg f (k+1) (u / 128) _ r (by omega) (by omega) (fun _=>by omega) (fun _=>by omega) hf]
   congr 1
   have e1:(u % 128+128) % 128=u % 128:=by omega
   rw [e1,List.length_cons,Nat.pow_succ];refine Prod.ext ?_ (by dsimp only;omega);dsimp only;have e2:u=u % 128+128*(u / 128):=by omega
   generalize 128 ^ k=P;rw [Nat.add_assoc]
   congr 1
   have e3:u % 128*P+u / 128*(P*128)=(u % 128+128*(u / 128))*P:=by
    rw [Nat.add_mul,Nat.mul_comm P 128,<- Nat.mul_assoc,Nat.mul_comm (u / 128) 128]
   rw [e3,<- e2]
theorem Pb (h:u < 18446744073709551616) (r:List UInt8):num (vb u++r)=.inr (u,wd u):=by
 unfold num vb wd;rw [Xg 10 0 u 0 r rfl (by omega) (fun _=>by omega) (fun h=>by omega) (by omega)];simp [vb]
theorem Xh:∀ (l:List UInt8) (k a v s:Nat),k<=9->rd k a l=.inr (v,s)->∃ u,v=a+u*128 ^ k/\l=vW (10 - k) u++l.drop (s - k)/\(vW (10 - k) u).length=s - k/\k < s/\u < 2*128 ^ (9 - k)/\(0 < k->0 < u)
 | [],k,a,v,s,_,h=>by
  rw [Hy] at h;cases h
 | x::l,k,a,v,s,hk,h=>by
  have hx:=UInt8.toNat_lt x;have hx256:x.toNat < 256:=hx;by_cases h9:k=9/\1 < x.toNat
  ·
   rw [O9 h9.1 h9.2] at h;cases h
  ·
   by_cases hm:128<=x.toNat
   ·
    rw [jO h9 hm] at h;obtain ⟨u,e1,e2,e3,e4,e5,e6⟩:=Xh l (k+1) _ v s (by omega) h;have e0:=e6 (by omega);have hf:10 - k=(9 - k)+1:=by omega
    have hn: ¬ (x.toNat % 128+128*u < 128):=by omega
    have ed:(x.toNat % 128+128*u) / 128=u:=by omega
    have em:(x.toNat % 128+128*u) % 128+128=x.toNat:=by omega
    have hv:vW (10 - k) (x.toNat % 128+128*u)=x::vW (10 - (k+1)) u:=by
     rw [hf,uQ hn,ed,em,show 10 - (k+1)=9 - k by omega]
     simp
    have hp:128 ^ (9 - k)=128*128 ^ (9 - (k+1)):=by
     rw [show 9 - k=(9 - (k+1))+1 by omega,Nat.pow_succ,Nat.mul_comm]
    refine ⟨x.toNat % 128+128*u,?_,?_,?_,by omega,?_,fun _=>by omega⟩
    ·
     rw [e1,Nat.pow_succ,Nat.add_mul,Nat.add_assoc]
     congr 2
     rw [Nat.mul_comm (128 ^ k) 128,<- Nat.mul_assoc,Nat.mul_comm u 128]
    · rw [hv,show s - k=(s - (k+1))+1 by omega,List.drop_succ_cons,List.cons_append,<- e2]
    ·
     rw [hv,List.length_cons,e3];omega
    ·
     rw [hp];omega
   ·
    by_cases hz:x.toNat=0/\0 < k
    ·
     rw [kL hz.1 hz.2] at h;cases h
    ·
     rw [iO h9 (by omega) hz] at h;injection h with h;injection h with e1 e2;subst e1 e2
     have hv:vW (10 - k) x.toNat=[x]:=by
      rw [show 10 - k=(9 - k)+1 by omega,uP (by omega)]
      simp
     have h1:1<=128 ^ (9 - k):=Nat.pos_of_ne_zero (by simp);refine ⟨x.toNat,rfl,?_,?_,by omega,?_,fun _=>by omega⟩
     ·
      rw [hv,show k+1 - k=1 by omega];rfl
     ·
      rw [hv]
      simp
     ·
      by_cases h99:k=9
      ·
       subst h99
       simp
       omega
      ·
       have:128 ^ (9 - k)=128*128 ^ (9 - k - 1):=by
        rw [show 9 - k=(9 - k - 1)+1 by omega,Nat.pow_succ,Nat.mul_comm]
        simp
       have h2:1<=128 ^ (9 - k - 1):=Nat.pos_of_ne_zero (by simp);omega
theorem Hz {s:Nat} (h:num l=.inr (u,s)):l=vb u++l.drop s/\wd u=s/\u < 18446744073709551616/\0 < s:=by
 obtain ⟨v,e1,e2,e3,e4,e5,_⟩:=Xh l 0 0 u s (by omega) h;simp at e1;subst e1;exact ⟨e2,by unfold wd vb;simpa using e3,by simpa using e5,e4⟩
end Go.Proofs.YtpfdnemaaeolcaaGreat.Pk
namespace Go.Proofs.YtpfdnemaaeolcaaGreat
open Go.RowKit
def txt (s:ByteArray):List UInt8:=s.data.toList
theorem dX (s:ByteArray):(txt s).length=s.size:=Array.length_toList
theorem oz {s t:ByteArray} (h:txt s=txt t):s=t:=by
 cases s;cases t
 simp only [txt] at h;exact congrArg ByteArray.mk (Array.toList_inj.1 h)
theorem tl (s:ByteArray):s.toList=txt s:=ByteArray.toList_eq s
end Go.Proofs.YtpfdnemaaeolcaaGreat
namespace Go.Proofs.YtpfdnemaaeolcaaGreat.Mem
open Go.RowKit
theorem aL (h:Below w0.heap.size w0 w) (o:Obj):Below w0.heap.size w0 (w.alloc o):=h.alloc h.size o
theorem aD {W w1:World} (hb:Below W.heap.size W w1):(∀ b o,b < W.heap.size->w1.cell? ⟨b,o,none⟩=W.cell? ⟨b,o,none⟩)/\(∀ b o,b < W.heap.size->w1.frozen? ⟨b,o,none⟩=W.frozen? ⟨b,o,none⟩) :=
 ⟨fun b o h=>hb.cell (p:=⟨b,o,none⟩) h,fun b o h=>hb.frozen (p:=⟨b,o,none⟩) h⟩
theorem aH {u:World} {v:Value} (h:u.cell? ⟨b,o,none⟩=some v):b < u.heap.size:=by
 by_cases k:b < u.heap.size
 · exact k
 ·
  exfalso;simp [World.cell?,Array.getElem?_eq_none (Nat.le_of_not_lt k)] at h
theorem aj {u:World} (h:Below w0.heap.size w0 u) (k:Below u.heap.size u v):Below w0.heap.size w0 v:=h.trans (k.mono h.size)
theorem bU {u:World} (h:Below w0.heap.size w0 u) (hp:w0.heap.size<=p) (o:Nat) (x:Value):Below w0.heap.size w0 (u.setCell ⟨p,o,none⟩ x):=h.setCell hp x
end Go.Proofs.YtpfdnemaaeolcaaGreat.Mem
namespace Go.Proofs.YtpfdnemaaeolcaaGreat.By
open Go.RowKit
open Mem
def bv (b:UInt8):Value:=.int .u8 (b.toNat:Int)
def Seg (w:World) (ao:Option Addr) (bs:List UInt8):Prop:=bs=[]\/∃ b off,ao=some ⟨b,off,none⟩/\∀ (k:Nat) (hk:k < bs.length),w.cell? ⟨b,off+k,none⟩=some (bv bs[k])
theorem Seg.below {w v:World} {ao:Option Addr} {rs:List UInt8} (h:Seg w ao rs) (k:Below w.heap.size w v):Seg v ao rs:=by
 rcases h with h | ⟨b,off,e,h⟩
 · exact .inl h
 · exact .inr ⟨b,off,e,fun i hi=>by rw [(aD k).1 _ _ (aH (h i hi))];exact h i hi⟩
structure Ls (w:World) (ao:Option Addr) (n cap:Nat) (rs:List UInt8):Prop where
 len:n=rs.length
 fits:n<=cap
 reach:cap<=9223372036854775807
 nil:ao=none->cap=0
 seg:Seg w ao rs
theorem Ls.below {w v:World} {ao:Option Addr} {n cap:Nat} {rs:List UInt8} (h:Ls w ao n cap rs) (k:Below w.heap.size w v):Ls v ao n cap rs:=⟨h.len,h.fits,h.reach,h.nil,h.seg.below k⟩
theorem Ls.at {w:World} {ao:Option Addr} {n cap:Nat} {rs:List UInt8} (h:Ls w ao n cap rs) (hn:0 < n):∃ b off,ao=some ⟨b,off,none⟩:=by
 rcases h.seg with e | ⟨b,off,e,_⟩
 ·
  have:=h.len;rw [e] at this;simp at this;omega
 · exact ⟨b,off,e⟩
theorem Ls.row (h:Ls w (some ⟨b,off,none⟩) n cap rs) (k:Nat) (hk:k < rs.length):w.cell? ⟨b,off+k,none⟩=some (bv rs[k]):=by
 rcases h.seg with e | ⟨b',off',e,hs⟩
 ·
  subst e;simp at hk
 ·
  cases e
  exact hs k hk
theorem dL (w:World):Ls w none 0 0 []:=⟨rfl,Nat.le_refl _,by omega,fun _=>rfl,.inl rfl⟩
theorem und:Tryz.prog.underlying 23=some (.slice (Tryz.prog.elem 23)):=by kernel_rfl
theorem size (u:World):(sizeOf (Tryz.prog.elem 23)).run Tryz.prog u=.ok 1 u:=by
 have h:(Tryz.prog.info? (Tryz.prog.elem 23)).map (·.size)=some 1:=by kernel_rfl
 obtain ⟨i,hi,hs⟩:=Option.map_eq_some_iff.1 h;simp [sizeOf,typeInfo,hi,hs]
theorem Ls.to (h:Ls w ao n cap rs) (k:Nat) (hk:k<=n) :
  (∀ u,(Instr.slice 23 (.slice ao n cap) none (some (.int .i64 (k:Int))) none).run Tryz.prog u=.ok (.slice ao k cap) u)/\Ls w ao k cap (rs.take k):=by
 have hl:=h.len;have hf:=h.fits;refine ⟨fun u=>?_,⟨by rw [List.length_take];omega,by omega,h.reach,h.nil,?_⟩⟩
 ·
  rw [run_slice_h u 23 ao n cap und .i64 k (by omega) (by omega),size];have e:Option.map (fun x:Addr=>x.add 0) ao=ao:=by cases ao <;> simp [Addr.add]
  simp [Result.andThen,sliced,e]
 ·
  rcases h.seg with e | ⟨b,off,e,hc⟩
  · exact .inl (by rw [e];simp)
  ·
   refine .inr ⟨b,off,e,fun j hj=>?_⟩;rw [List.length_take] at hj;rw [List.getElem_take];exact hc j (by omega)
theorem Ls.from (h:Ls w ao n cap rs) (k:Nat) (hk:k<=n) :
  ∃ mO cap2,(∀ u,(Instr.slice 23 (.slice ao n cap) (some (.int .i64 (k:Int))) none none).run Tryz.prog u=.ok (.slice mO (n - k) cap2) u)/\Ls w mO (n - k) cap2 (rs.drop k)/\(k < n->∀ b off,ao=some ⟨b,off,none⟩->mO=some ⟨b,off+k,none⟩):=by
 have hl:=h.len;have hf:=h.fits;refine ⟨if cap=k then ao else ao.map (·.add k),cap - k,fun u=>?_,⟨by rw [List.length_drop];omega,by omega,by have:=h.reach;omega,?_,?_⟩,fun hkn b off e=>by rw [if_neg (by omega),e];simp only [Option.map_some,Go.WideShapes.add_plain]⟩
 ·
  rw [run_slice_l u 23 ao n cap und .i64 k (by omega) (by omega),size];simp [Result.andThen,sliced]
 ·
  by_cases e:cap=k
  · omega
  ·
   rw [if_neg e];cases ao with
   | none=>have:=h.nil rfl;omega
   | some a=>exact fun k=>by cases k
 ·
  by_cases hkn:k=n
  · exact .inl (List.drop_eq_nil_of_le (by omega))
  ·
   rcases h.seg with e | ⟨b,off,rfl,hc⟩
   · exact .inl (by rw [e];simp)
   ·
    refine .inr ⟨b,off+k,?_,fun j hj=>?_⟩
    ·
     rw [if_neg (by omega)];simp only [Option.map_some,Go.WideShapes.add_plain]
    ·
     rw [List.length_drop] at hj;rw [List.getElem_drop,Nat.add_assoc];exact hc (k+j) (by omega)
theorem Ls.mid (h:Ls w ao n cap rs) (k m:Nat) (hkm:k<=m) (hm:m<=n) :
  ∃ mO cap2,(∀ u,(Instr.slice 23 (.slice ao n cap) (some (.int .i64 (k:Int))) (some (.int .i64 (m:Int))) none).run Tryz.prog u=.ok (.slice mO (m - k) cap2) u)/\Ls w mO (m - k) cap2 ((rs.take m).drop k):=by
 have hl:=h.len;have hf:=h.fits;refine ⟨if cap=k then ao else ao.map (·.add k),cap - k,fun u=>?_,⟨by rw [List.length_drop,List.length_take];omega,by omega,by have:=h.reach;omega,?_,?_⟩⟩
 ·
  rw [run_slice_lh u 23 ao n cap und .i64 .i64 k m (by omega) (by omega) (by omega),size];simp [Result.andThen,sliced]
 ·
  by_cases e:cap=k
  · omega
  ·
   rw [if_neg e];cases ao with
   | none=>have:=h.nil rfl;omega
   | some a=>exact fun k=>by cases k
 ·
  by_cases hkn:k=m
  · exact .inl (List.drop_eq_nil_of_le (by rw [List.length_take];omega))
  ·
   rcases h.seg with e | ⟨b,off,rfl,hc⟩
   · exact .inl (by rw [e];simp)
   ·
    refine .inr ⟨b,off+k,?_,fun j hj=>?_⟩
    ·
     rw [if_neg (by omega)];simp only [Option.map_some,Go.WideShapes.add_plain]
    ·
     rw [List.length_drop,List.length_take] at hj;rw [List.getElem_drop,List.getElem_take,Nat.add_assoc];exact hc (k+j) (by omega)
theorem one_cell (rs:List UInt8):∀ v∈rs.map bv,v.oneCell'=true:=by
 intro v hv;obtain ⟨r,_,rfl⟩:=List.mem_map.1 hv;rfl
theorem dA (h:∀ (k:Nat) (hk:k < rs.length),w.cell? ⟨b,off+k,none⟩=some (bv rs[k])) (j:Nat) (u:Value) (hu:(rs.map bv)[j]? =some u):w.cell? ((⟨b,off,none⟩:Addr).add j)=some u:=by
 obtain ⟨hj,e⟩:=List.getElem?_eq_some_iff.1 hu;rw [List.length_map] at hj;rw [List.getElem_map] at e;rw [Go.WideShapes.add_plain,h j hj,e]
def Block (w:World) (g:Nat) (bs:List UInt8):Prop:=w.heap[g]? =some (.cells (bs.map bv).toArray 5 (0,0))
theorem Block.row (h:Block w g bs) (k:Nat) (hk:k < bs.length):w.cell? ⟨g,k,none⟩=some (bv bs[k]):=by
 rw [cell_of_row w g _ _ _ _ h];simp [hk]
theorem Block.frozen {w:World} {g:Nat} {bs:List UInt8} (h:Block w g bs) (k:Nat):w.frozen? ⟨g,k,none⟩=false:=frozen_of_row w g k _ _ h
theorem Block.ls (h:Block w g bs) (hm:bs.length<=9223372036854775807):Ls w (some ⟨g,0,none⟩) bs.length bs.length bs :=
 ⟨rfl,Nat.le_refl _,hm,(fun k=>by cases k),.inr ⟨g,0,rfl,fun k hk=>by rw [Nat.zero_add];exact h.row k hk⟩⟩
theorem Block.store (h:Block w g bs) (k:Nat) (v:UInt8):Block (w.setCell ⟨g,k,none⟩ (bv v)) g (bs.set k v):=by
 have h1:=heap_setCell_same _ g k _ _ (bv v) h;unfold Block;rw [h1];simp only [List.setIfInBounds_toArray,List.map_set]
def zeros (n:Nat):Array Value:=((List.replicate n (0:UInt8)).map bv).toArray
theorem info:(Tryz.prog.info? 5).map (fun i=>(i.zero,i.size,i.bytes))=some (some (.int .u8 0),1,1):=by kernel_rfl
theorem made (n:Nat):madeCells (Value.int .u8 0).cells (n*1)=zeros n:=by
 apply Array.ext_getElem?;intro j;rw [Nat.mul_one];by_cases hj:j < n
 ·
  unfold madeCells zeros;rw [Array.getElem?_map,Array.getElem?_range,if_pos hj,List.getElem?_toArray,List.getElem?_map,List.getElem?_replicate,if_pos hj];simp only [Option.map_some];rw [show (Value.int .u8 0).cells.size=1 from rfl,Nat.mod_one];rfl
 ·
  rw [Array.getElem?_eq_none (by rw [size_madeCells];omega),Array.getElem?_eq_none];unfold zeros;rw [List.size_toArray,List.length_map,List.length_replicate];omega
theorem make (n:Nat) (hn:n<=140737488355328) (u:World):(Instr.makeSlice 23 (.int .i64 (n:Int)) (.int .i64 (n:Int))).run Tryz.prog u =
  .ok (.slice (some ⟨u.heap.size,0,none⟩) n n) (u.alloc (.cells (zeros n) 5)):=by
 obtain ⟨i0,hi,hz0,hz1,hz2⟩:=info_parts info;have h:=run_make (P:=Tryz.prog) u 23 5 i0 (.int .u8 0) Tryz.underlying23 hi hz0 .i64 .i64 (n:Int) (n:Int) (by omega) (Int.le_refl _) (by rw [hz2];omega) (by omega);rw [hz1,Int.toNat_natCast,made] at h;exact h
theorem aZ (u:World) (n:Nat):Block (u.alloc (.cells (zeros n) 5)) u.heap.size (List.replicate n 0):=heap_alloc_new u _
theorem lH:(Tryz.prog.info? 5).map (·.size)=some 1:=by kernel_rfl
theorem copy (u:World) (g o:Nat) (hd ts:List UInt8) (dCap:Nat) (ao:Option Addr) (n cap:Nat) (rs:List UInt8) (hb:Block u g (hd++List.replicate n 0++ts)) (ho:o=hd.length) (hn:n=rs.length) (hs:Seg u ao rs) (da:Option Addr) (hda:0 < n->da=some ⟨g,o,none⟩) :
  ∃ u',(Builtin.copy_ #[23,23] 3 #[.slice da (n+ts.length) dCap,.slice ao n cap]).run Tryz.prog u=.ok (goInt n) u'/\Block u' g (hd++rs++ts)/\(∀ B w0,Below B w0 u->B<=g->Below B w0 u')/\u'.heap.size=u.heap.size:=by
 obtain ⟨i0,hi,hiK⟩:=Option.map_eq_some_iff.1 lH;have hmin:Nat.min n (n+ts.length)=n:=Nat.min_eq_left (by omega);by_cases h0:n=0
 ·
  subst h0;have e:rs=[]:=List.length_eq_zero_iff.1 hn.symm;subst e;refine ⟨u,?_,by simpa using hb,fun _ _ h _=>h,rfl⟩;have hl:∀ (x:Addr),(loadCells x 0).run Tryz.prog u=.ok #[] u:=fun x=>by simpa using run_loadCells_list (P:=Tryz.prog) u x [] (by simp)
  cases ao <;> cases da <;> simp [Builtin.copy_,run_underlying Tryz.underlying23,Builtin.lenOf,Builtin.firstCells,sizeOf,typeInfo,hi,storeCells,hl]
 ·
  obtain rfl:=hda (by omega);rcases hs with e | ⟨b,off,rfl,hc⟩
  ·
   rw [e] at hn;exact absurd hn h0
  ·
   have hl:=run_loadCells_list (P:=Tryz.prog) u ⟨b,off,none⟩ (rs.map bv) (fun j v hv=>dA hc j v hv)
   have hst:=run_storeCells_at Tryz.prog g o 5 (rs.map bv) 0 _ u hb (by
    simp
    omega) (one_cell rs)
   have e:(((hd++List.replicate n (0:UInt8)++ts).map bv).toArray.toList.take (o+0)++rs.map bv++((hd++List.replicate n (0:UInt8)++ts).map bv).toArray.toList.drop (o+0+(rs.map bv).length))=(hd++rs++ts).map bv:=by
    rw [List.toList_toArray,Nat.add_zero,List.length_map,<- hn,ho];simp only [List.map_append,List.append_assoc]
    have e2:(hd.map bv++((List.replicate n (0:UInt8)).map bv++ts.map bv)).drop (hd.length+n)=ts.map bv:=by
     rw [<- List.append_assoc];exact List.drop_left' (by simp)
    rw [List.take_left' (by simp),e2]
   rw [e] at hst;refine ⟨u.setRow g ((hd++rs++ts).map bv).toArray,?_,setRow_heap u g _ _ 5 _ hb,fun B w0 h hB=>below_setRow h hB _,by simp [World.setRow]⟩;rw [List.length_map,<- hn] at hl;simp [Builtin.copy_,run_underlying Tryz.underlying23,Builtin.lenOf,Builtin.firstCells,sizeOf,typeInfo,hi,hiK,hmin,hl,hst]
end Go.Proofs.YtpfdnemaaeolcaaGreat.By
namespace Go.Proofs.YtpfdnemaaeolcaaGreat
open Go.RowKit
open Mem Pk
theorem Yd (n:Int):zz n=Lib.zigzag n:=by
 unfold zz Lib.zigzag;split <;> split <;> omega
theorem Ew (n:Int) (hn:Fit n) (w:World):Calls Tryz.prog 149 #[.int .i64 n] w fun e w'=>e=.returned (.int .u64 (zz n:Int))/\w'=w:=by
 unfold Fit at hn;by_cases h:n < 0
 ·
  have hz:=Lib.zigzag_neg hn.1 h;rw [<- Yd] at hz;have hm: ¬ IntKind.u64.signed=true:=by decide
  go_enter Tryz.func149,Tryz.ntmps149;go_wp2;go_ret;exact ⟨rfl,rfl⟩
 ·
  have hz:(zz n:Int)=n*2:=by
   unfold zz;rw [if_neg h];omega
  rw [hz];go_enter Tryz.func149,Tryz.ntmps149;go_wp2;go_ret;exact ⟨rfl,rfl⟩
theorem wY (h:u < 128):(vW (f+1) u).length=1:=by rw [uP h];rfl
theorem oC (h: ¬ u < 128):(vW (f+1) u).length=1+(vW f (u / 128)).length:=by rw [uQ h,List.length_cons];omega
theorem H8 (u:Nat) (hu:u < 18446744073709551616) (w:World):Calls Tryz.prog 150 #[.int .u64 (u:Int)] w fun e w'=>e=.returned (.int .i64 (wd u:Int))/\w'=w:=by
 have HU:=Lh hu;clear hu;go_enter Tryz.func150,Tryz.ntmps150;go_wp2
 go_loop [0,3] (fun x k=>∃ (c v:Nat),x=.int .u64 (v:Int)/\k=.int .i64 (c:Int)/\c<=10/\1<=c/\v < 18446744073709551616/\Hid (v < lim c)/\Hid (c+(vW (11 - c) v).length=wd u+1)) (fun _ k=>(10 - intOf k).toNat)
 case atStart=>exact ⟨1,u,rfl,rfl,by omega,by omega,HU.out,Lh (by rw [Kg];exact HU.out),Lh (by unfold wd vb;simp;omega)⟩
 case round =>
  obtain ⟨c,v,rfl,rfl,hc,hc1,hv,HV,HL⟩:=hrel;have HVn:=Lh hv;clear hv;by_cases hlt:v < 128
  ·
   have HE:Hid ((c:Int)=(wd u:Int)):=Lh (by
    have h:=HL.out;rw [show 11 - c=(10 - c)+1 by omega,wY hlt] at h;omega)
   have a1: ¬ (128:Int)<=(v:Int):=by omega
   go_wp2;go_ret;exact ⟨eP HE.out,rfl⟩
  ·
   have hi9:c < 10:=by
    by_cases h9:c < 10
    · exact h9
    ·
     obtain rfl:c=10:=by omega
     have:=HV.out;rw [Kh] at this;omega
   have H9:Hid (v / 128 < lim (c+1)):=Lh (by
    have:=HV.out;rw [Ev hi9] at this;omega)
   have HL2:Hid (c+1+(vW (11 - (c+1)) (v / 128)).length=wd u+1):=Lh (by
    have h:=HL.out;rw [show 11 - c=(11 - (c+1))+1 by omega,oC hlt] at h;omega)
   have a1:(128:Int)<=(v:Int):=by omega
   go_wp2;go_round
   case rel=>exact ⟨c+1,v / 128,by simp,by go_num,by omega,by omega,(by have:=HVn.out;omega),H9,HL2⟩
   case measure=>simp [intOf];omega
theorem Ye (v:Nat) (hv:v < 18446744073709551616):bits .and .u64 (v:Int) 127=((v % 128:Nat):Int):=by
 have h:=u64_and_nat v 127 hv (by omega);have e:v &&& 127=v % 128:=Nat.and_two_pow_sub_one_eq_mod v 7;rw [e] at h;exact h
theorem CU {pre:List UInt8} {L m i:Nat} (hm:m=bs.length) (hi:pre.length=i):(bs++pre++List.replicate (L+1) 0).set (m+i) x=bs++(pre++[x])++List.replicate L 0:=by
 rw [List.set_append_right _ _ (by rw [List.length_append];omega),List.length_append,<- hm,hi,Nat.sub_self,List.replicate_succ,List.set_cons_zero]
 simp
theorem uR (bs:List UInt8) (n:Int) (hn:Fit n) (ao:Option Addr) (m cap:Nat) (w:World) (hL:By.Ls w ao m cap bs) (hm:m<=1000000000000) :
  Calls Tryz.prog 110 #[.slice ao m cap,.int .i64 n] w fun e w'=>(∃ g,e=.returned (.slice (some ⟨g,0,none⟩) (m+wd (zz n)) (m+wd (zz n)))/\w.heap.size<=g/\By.Block w' g (bs++vb (zz n)))/\Below w.heap.size w w':=by
 have HF:=Lh hn;have HL:=Lh hL;have HLen:=Lh hL.len;obtain ⟨u,hu⟩:∃ u,zz n=u:=⟨_,rfl⟩;have hul:u < 18446744073709551616:=hu▸O8 hn;have HU:=Lh hu;obtain ⟨d,hd⟩:∃ d,wd u=d:=⟨_,rfl⟩;have AP:d<=10:=by rw [<- hd];exact xV 10 u
 have hd1:1<=d:=by rw [<- hd];exact CS
 have HD:=Lh hd;have hmk:=By.make (m+d) (by omega);rw [show ((m+d:Nat):Int)=(m:Int)+(d:Int) from by omega] at hmk;have hb0:=By.aZ w (m+d);rw [<- List.replicate_append_replicate] at hb0;have hB1:=(Below.refl w.heap.size w).alloc (Nat.le_refl _) (.cells (By.zeros (m+d)) 5);obtain ⟨W1,hcp,hblk,hbel,hsz⟩:=By.copy (w.alloc (.cells (By.zeros (m+d)) 5)) w.heap.size 0 [] (List.replicate d 0) (m+d) ao m cap bs (by simpa using hb0) rfl hL.len (hL.below hB1).seg (some ⟨w.heap.size,0,none⟩) (fun _=>rfl);rw [List.length_replicate] at hcp;rw [List.nil_append] at hblk;have HB1:=Lh (hbel _ _ hB1 (Nat.le_refl _));have gV:=Lh hblk;have hcap:=hL.reach;have HUl:=Lh hul;rw [hu,hd];clear hL hn hu hd hb0 hblk hbel hsz hB1 hul;go_enter Tryz.func110,Tryz.ntmps110;go_wp2_with fail;refine (Ew n HF.out w).mono ?_;rintro e w2 ⟨rfl,rfl⟩;rename World=>w
 rw [HU.out];go_wp2_with fail;refine (H8 u HUl.out w).mono ?_;rintro e w3 ⟨rfl,rfl⟩;rename World=>w
 rw [HD.out];go_wp2_with fail;clear hmk hcp
 go_loopw [5,7] (fun x k wr=>∃ (i v L:Nat) (pre:List UInt8),x=.int .u64 (v:Int)/\k=.int .i64 ((m:Int)+(i:Int))/\i+L+1=d/\Hid (v < 18446744073709551616/\v < lim (i+1))/\Hid (pre.length=i)/\Hid (vb u=pre++vW (10 - i) v)/\Hid ((vW (10 - i) v).length=L+1)/\Hid (By.Block wr w.heap.size (bs++pre++List.replicate (L+1) 0))/\Hid (Below w.heap.size w wr)) (fun _ k _=>m+d - (intOf k).toNat)
 case atStart=>exact ⟨0,u,d - 1,[],rfl,by go_num,by omega,Lh ⟨HUl.out,by rw [Kg];exact HUl.out⟩,Lh rfl,Lh rfl,Lh (by have h:=HD.out;unfold wd vb at h;rw [Nat.sub_zero,h];omega),Lh (by rw [List.append_nil,show d - 1+1=d by omega];exact gV.out),HB1⟩
 case round =>
  obtain ⟨i,v,L,pre,rfl,rfl,hil,HV,vX,HVb,lC,oh,HB⟩:=hrel
  have Xi:m+i < (bs++pre++List.replicate (L+1) (0:UInt8)).length:=by
   rw [List.length_append,List.length_append,List.length_replicate,<- HLen.out,vX.out];omega
  have hc:=oh.out.row (m+i) Xi;have hf:=oh.out.frozen (m+i);obtain ⟨z,hz⟩:∃ z,By.bv (bs++pre++List.replicate (L+1) (0:UInt8))[m+i]=z:=⟨_,rfl⟩;rw [hz] at hc;clear hz Xi;by_cases hL0:L=0
  ·
   subst hL0
   have HS:Hid (v < 128):=Lh (by
    by_cases hs:v < 128
    · exact hs
    ·
     have h:=lC.out;rw [show 10 - i=(9 - i)+1 by omega,oC hs] at h;by_cases h9:i=9
     ·
      have:=HV.out.2;rw [h9,Kh] at this;omega
     ·
      have:=CS (f:=8 - i) (u:=v / 128);rw [show 8 - i+1=9 - i by omega] at this;omega)
   have HW8:Hid (IntKind.u8.wrap (v:Int)=(v:Int)):=Lh (by
    rw [IntKind.wrap_u8];have:=HS.out;omega)
   have hw8:=HW8.out;have hdi:(m:Int)+(d:Int) - 1=(m:Int)+(i:Int):=by omega
   have a1: ¬ (m:Int)+(i:Int) < (m:Int)+(d:Int) - 1:=by omega
   go_wp2_with fail;go_ret;refine ⟨⟨w.heap.size,rfl,Nat.le_refl _,?_⟩,HB.out.setCell (p:=⟨w.heap.size,m+i,none⟩) (Nat.le_refl _) _⟩;have h:=oh.out.store (m+i) (UInt8.ofNat v);rw [CU HLen.out vX.out] at h
   have e1:By.bv (UInt8.ofNat v)=.int .u8 (v:Int):=by
    unfold By.bv;rw [kS (by have:=HS.out;omega)]
   rw [e1] at h
   have e2:vb u=pre++[UInt8.ofNat v]:=by
    rw [HVb.out,show 10 - i=(9 - i)+1 by omega,uP HS.out]
   rw [e2];simpa using h
  ·
   have HS:Hid (¬ v < 128):=Lh (fun hs=>by
    have h:=lC.out;rw [show 10 - i=(9 - i)+1 by omega,wY hs] at h;omega)
   obtain ⟨r,hr⟩:∃ r,v % 128=r:=⟨_,rfl⟩;obtain ⟨q,hq⟩:∃ q,v / 128=q:=⟨_,rfl⟩;have hr128:r < 128:=by omega
   have hand:=Ye v HV.out.1;rw [hr] at hand
   have hw8:IntKind.u8.wrap (r:Int)=(r:Int):=by
    rw [IntKind.wrap_u8];omega
   have hor:bits .or .u8 (r:Int) 128=(r:Int)+128:=u8_or128_right _ (by omega) (by omega);have hdiv:(v:Int) / 128=(q:Int):=by omega
   have HR:=Lh hr;have HQ:=Lh hq;obtain ⟨K,rfl⟩:∃ K,L=K+1:=⟨L - 1,by omega⟩
   have H9:Hid (q < 18446744073709551616/\q < lim (i+1+1)):=Lh (by
    have h1:=HV.out.1;have h2:=HV.out.2;rw [Ev (by omega)] at h2;omega)
   have HVb2:Hid (vb u=(pre++[UInt8.ofNat (r+128)])++vW (10 - (i+1)) q):=Lh (by
    rw [HVb.out,show 10 - i=(10 - (i+1))+1 by omega,uQ HS.out,HR.out,HQ.out,List.append_assoc];rfl)
   have HLn2:Hid ((vW (10 - (i+1)) q).length=K+1):=Lh (by
    have h:=lC.out;rw [show 10 - i=(10 - (i+1))+1 by omega,oC HS.out,HQ.out] at h;omega)
   have a1:(m:Int)+(i:Int) < (m:Int)+(d:Int) - 1:=by omega
   clear hr hq;go_wp2_with fail;go_roundw
   case rel =>
    refine ⟨i+1,q,K,pre++[UInt8.ofNat (r+128)],rfl,by go_num,by omega,H9,Lh (by rw [List.length_append,vX.out];rfl),HVb2,HLn2,Lh ?_,Lh (HB.out.setCell (p:=⟨w.heap.size,m+i,none⟩) (Nat.le_refl _) _)⟩;have h:=oh.out.store (m+i) (UInt8.ofNat (r+128));rw [CU HLen.out vX.out] at h
    have e1:By.bv (UInt8.ofNat (r+128))=.int .u8 ((r:Int)+128):=by
     unfold By.bv;rw [kS (by omega)]
     simp
    rw [e1] at h;exact h
   case measure=>simp [intOf];omega
theorem By.copyS (u:World) (g o:Nat) (hd ts:List UInt8) (dCap:Nat) (s:ByteArray) (n:Nat) (hb:By.Block u g (hd++List.replicate n 0++ts)) (ho:o=hd.length) (hn:n=s.size) (da:Option Addr) (hda:0 < n->da=some ⟨g,o,none⟩) :
  ∃ u',(Builtin.copy_ #[23,9] 3 #[.slice da (n+ts.length) dCap,.string s]).run Tryz.prog u=.ok (goInt n) u'/\By.Block u' g (hd++txt s++ts)/\(∀ B w0,Below B w0 u->B<=g->Below B w0 u')/\u'.heap.size=u.heap.size:=by
 obtain ⟨i0,hi,hiK⟩:=Option.map_eq_some_iff.1 By.lH;have hmin:Nat.min n (n+ts.length)=n:=Nat.min_eq_left (by omega)
 have hcells:List.take n (List.map (fun b:UInt8=>Value.int .u8 (b.toNat:Int)) s.data.toList)=(txt s).map By.bv:=by
  rw [List.take_of_length_le (by rw [List.length_map];show (txt s).length<=n;rw [dX];omega)];rfl
 by_cases h0:n=0
 ·
  subst h0;have e:txt s=[]:=List.length_eq_zero_iff.1 (by rw [dX];exact hn.symm);refine ⟨u,?_,by rw [e];simpa using hb,fun _ _ h _=>h,rfl⟩;cases da <;> simp [Builtin.copy_,run_underlying Tryz.underlying23,Builtin.lenOf,Builtin.firstCells,sizeOf,typeInfo,hi,storeCells,<- hn]
 ·
  obtain rfl:=hda (by omega)
  have hst:=run_storeCells_at Tryz.prog g o 5 ((txt s).map By.bv) 0 _ u hb (by
   simp [dX];omega) (By.one_cell (txt s))
  have e:(((hd++List.replicate n (0:UInt8)++ts).map By.bv).toArray.toList.take (o+0)++(txt s).map By.bv++((hd++List.replicate n (0:UInt8)++ts).map By.bv).toArray.toList.drop (o+0+((txt s).map By.bv).length))=(hd++txt s++ts).map By.bv:=by
   rw [List.toList_toArray,Nat.add_zero,List.length_map,dX,<- hn,ho];simp only [List.map_append,List.append_assoc]
   have e2:(hd.map By.bv++((List.replicate n (0:UInt8)).map By.bv++ts.map By.bv)).drop (hd.length+n)=ts.map By.bv:=by
    rw [<- List.append_assoc];exact List.drop_left' (by simp)
   rw [List.take_left' (by simp),e2]
  rw [e] at hst;refine ⟨u.setRow g ((hd++txt s++ts).map By.bv).toArray,?_,setRow_heap u g _ _ 5 _ hb,fun B w0 h hB=>below_setRow h hB _,by simp [World.setRow]⟩;obtain ⟨R,hR⟩:∃ R,((hd++txt s++ts).map By.bv).toArray=R:=⟨_,rfl⟩;rw [hR] at hst ⊢;simp [Builtin.copy_,run_underlying Tryz.underlying23,Builtin.lenOf,Builtin.firstCells,sizeOf,typeInfo,hi,hmin,<- hn,hcells,hst]
theorem LU (bs:List UInt8) (s:ByteArray) (hs:s.size<=1000000000000) (ao:Option Addr) (m cap:Nat) (w:World) (hL:By.Ls w ao m cap bs) (hm:m<=1000000000000) :
  Calls Tryz.prog 147 #[.slice ao m cap,.string s] w fun e w'=>(∃ g N,e=.returned (.slice (some ⟨g,0,none⟩) N N)/\N=(bs++vb (zz s.size)++txt s).length/\w.heap.size<=g/\By.Block w' g (bs++vb (zz s.size)++txt s))/\Below w.heap.size w w':=by
 have HL:=Lh hL;have HLen:=Lh hL.len;have hcap:=hL.reach;obtain ⟨z,hz⟩:∃ z,s.size=z:=⟨_,rfl⟩;have HZ:=Lh hz;rw [hz] at hs;clear hL;go_enter Tryz.func147,Tryz.ntmps147;go_wp2_with fail;refine (uR bs (z:Int) ⟨by omega,by omega⟩ ao m cap w HL.out hm).mono ?_;rintro e w1 ⟨⟨g,rfl,hg,hblk⟩,b1⟩;obtain ⟨d,hd⟩:∃ d,wd (zz (z:Int))=d:=⟨_,rfl⟩;have AP:d<=10:=by rw [<- hd];exact xV 10 _
 have HD:=Lh hd;rw [hd]
 have Xj:Hid ((bs++vb (zz (z:Int))).length=m+d):=Lh (by
  rw [List.length_append,<- HLen.out,<- hd];rfl)
 have gV:=Lh hblk;have HB1:=Lh b1;have hs1:=b1.size;clear hd hblk b1;obtain ⟨h,hh⟩:∃ h,m+d=h:=⟨_,rfl⟩;rw [hh];have hhb:h<=1000000000010:=by omega
 rw [hh] at Xj;clear hh;have hmk:=By.make (h+z) (by omega);rw [show ((h+z:Nat):Int)=(h:Int)+(z:Int) from by omega] at hmk;have hb0:=By.aZ w1 (h+z);rw [<- List.replicate_append_replicate] at hb0;have hB2:=(Below.refl w1.heap.size w1).alloc (Nat.le_refl _) (.cells (By.zeros (h+z)) 5)
 have hl1:By.Ls w1 (some ⟨g,0,none⟩) h h (bs++vb (zz (z:Int))):=by
  have:=gV.out.ls (by rw [Xj.out];omega);rw [Xj.out] at this;exact this
 obtain ⟨W2,hcp,hblk2,Xk,hsz2⟩:=By.copy (w1.alloc (.cells (By.zeros (h+z)) 5)) w1.heap.size 0 [] (List.replicate z 0) (h+z) (some ⟨g,0,none⟩) h h (bs++vb (zz (z:Int))) (by simpa using hb0) rfl Xj.out.symm (hl1.below hB2).seg (some ⟨w1.heap.size,0,none⟩) (fun _=>rfl);rw [List.length_replicate] at hcp;rw [List.nil_append] at hblk2;have hbw2:=Xk _ _ hB2 (Nat.le_refl _)
 have hlo:By.Ls W2 (some ⟨w1.heap.size,0,none⟩) (h+z) (h+z) (bs++vb (zz (z:Int))++List.replicate z 0):=by
  have:=hblk2.ls (by rw [List.length_append,Xj.out,List.length_replicate];omega);rw [List.length_append,Xj.out,List.length_replicate] at this;exact this
 obtain ⟨mO,cap2,hsl,_,had⟩:=hlo.from h (by omega)
 rw [show h+z - h=z by omega] at hsl
 obtain ⟨W3,hcp3,hblk3,Xl,Pf⟩:=By.copyS W2 w1.heap.size h (bs++vb (zz (z:Int))) [] cap2 s z (by simpa using hblk2) Xj.out.symm HZ.out.symm mO (fun hp=>by
  have:=had (by omega) _ _ rfl;rw [Nat.zero_add] at this;exact this)
 rw [List.length_nil,Nat.add_zero] at hcp3;rw [List.append_nil] at hblk3;have HB3:=Lh (Xl _ _ (aj HB1.out hbw2) hs1);have Uh:=Lh hblk3;clear hblk3 Xl Pf hblk2 Xk hsz2 hb0 hB2 hl1 hlo had hbw2;go_wp2_with fail;go_ret;refine ⟨⟨w1.heap.size,h+z,rfl,?_,hs1,?_⟩,HB3.out⟩
 · rw [List.length_append,dX,HZ.out,Xj.out]
 ·
  rw [HZ.out];exact Uh.out
theorem cZ (u:Nat) (hu:u < 18446744073709551616) (w:World):Calls Tryz.prog 144 #[.int .u64 (u:Int)] w fun e w'=>e=.returned (.int .i64 (uz u))/\w'=w:=by
 obtain ⟨q,hq⟩:∃ q,u / 2=q:=⟨_,rfl⟩;have hqb:q<=9223372036854775807:=by omega
 have hdiv:(u:Int) / 2=(q:Int):=by omega
 have hand:=Lib.u64_and1 (u:Int) (by omega) (by omega);by_cases h1:u % 2=1
 ·
  have hm:(u:Int) % 2=1:=by omega
  rw [hm] at hand
  have hz:uz u= -(q:Int) - 1:=by
   unfold uz;rw [if_pos h1,hq]
  have hnot:=Lib.i64_not q (by omega);rw [hz];clear hq hu h1 hm hz;go_enter Tryz.func144,Tryz.ntmps144;go_wp2;go_ret;exact ⟨rfl,rfl⟩
 ·
  have hm:(u:Int) % 2=0:=by omega
  rw [hm] at hand
  have hz:uz u=(q:Int):=by
   unfold uz;rw [if_neg h1,hq]
  rw [hz];clear hq hu h1 hm hz;go_enter Tryz.func144,Tryz.ntmps144;go_wp2;go_ret;exact ⟨rfl,rfl⟩
def numE:Int ⊕ (Nat×Nat)->Ending
 | .inl e=>.returned (.tuple #[.int .i64 0,.int .i64 0,.int .i64 e])
 | .inr p=>.returned (.tuple #[.int .i64 (uz p.1),.int .i64 (p.2:Int),.int .i64 0])
def pw (k:Nat):Nat:=128 ^ k
theorem Ey (bs:List UInt8) (ao:Option Addr) (n cap:Nat) (w:World) (hL:By.Ls w ao n cap bs) :
  Calls Tryz.prog 101 #[.slice ao n cap] w fun e w'=>e=numE (num bs)/\w'=w:=by
 have HL:=Lh hL;have HLen:=Lh hL.len;have hfit:=hL.fits;have hcap:=hL.reach;clear hL;go_enter Tryz.func101,Tryz.ntmps101;go_wp2
 go_loop [5,6,7,10] (fun x _ _ i=>∃ (k u:Nat),x=.int .u64 (u:Int)/\i=.int .i64 (k:Int)/\k<=9/\k<=n/\Hid (u < pw k)/\Hid (rd k u (bs.drop k)=num bs)) (fun _ _ _ i=>n - (intOf i).toNat)
 case atStart=>exact ⟨0,0,rfl,rfl,by omega,by omega,Lh (by decide),Lh rfl⟩
 case round =>
  obtain ⟨k,u,rfl,rfl,hk9,hkn,HU,HR⟩:=hrel;by_cases hlt:k < n
  ·
   have hkl:k < bs.length:=HLen.out▸hlt;obtain ⟨b,off,rfl⟩:=HL.out.at (by omega);have hc:=HL.out.row k hkl;obtain ⟨x,hx⟩:∃ x,bs[k]=x:=⟨_,rfl⟩;have uL:Hid (bs.drop k=x::bs.drop (k+1)):=Lh (by rw [List.drop_eq_getElem_cons hkl,hx]);rw [hx] at hc
   have hx256:x.toNat<=255:=by
    have:=UInt8.toNat_lt x;omega
   obtain ⟨c,hcx⟩:∃ c,x.toNat=c:=⟨_,rfl⟩;unfold By.bv at hc;rw [hcx] at hc hx256;have fM:=Lh hcx;have hand:=u8_and127 (c:Int) (by omega) (by omega);obtain ⟨r,hr⟩:∃ r,c % 128=r:=⟨_,rfl⟩;have hr128:r<=127:=by omega
   rw [show (c:Int) % 128=(r:Int) by omega] at hand;have CV:=Lh hr;clear hx hkl hcx hr;rcases (by omega:k=0\/k=1\/k=2\/k=3\/k=4\/k=5\/k=6\/k=7\/k=8\/k=9) with rfl | rfl | rfl | rfl | rfl | rfl | rfl | rfl | rfl | rfl
   ·
    have hub:u < 1:=HU.out;obtain ⟨S,hS⟩:∃ S,u+r*1=S:=⟨_,rfl⟩;have oD:=Lh hS;have Ui:=Lh hub;rw [Nat.add_zero] at hc;have hSb:S < 128:=by omega
    have sO:=Lh hSb
    have hor:bits .or .u64 (u:Int) ((r:Int))=(S:Int):=by
     rw [u64_orv0 _ _ (by omega) (by omega) (by omega) (by omega) (by omega)];omega
    by_cases hm:128<=c
    ·
     have HN:Hid (rd 1 S (bs.drop 1)=num bs):=Lh (by
      have h:=HR.out;rw [uL.out,jO (by omega) (by rw [fM.out];exact hm),fM.out,CV.out] at h;rw [<- oD.out];exact h)
     have Ez:Hid (S < pw 1):=Lh (by
      rw [show pw 1=128 by decide];exact sO.out)
     have a1:(128:Int)<=(c:Int):=by omega
     clear hub hS hSb;go_wp2;go_round
     case rel=>exact ⟨1,S,rfl,rfl,by omega,by omega,Ez,HN⟩
     case measure=>simp [intOf];omega
    have hrc:r=c:=by
     have:=CV.out;omega
    have a2: ¬ (128:Int)<=(c:Int):=by omega
    by_cases hc0:c=0
    ·
     have q0:((c:Int)==0)=true:=beq_iff_eq.2 (by omega)
     have HE:Hid (num bs=.inr (S,1)):=Lh (by
      rw [<- HR.out,uL.out,iO (by rw [fM.out];omega) (by rw [fM.out];omega) (by rw [fM.out];omega),fM.out,<- oD.out,hrc])
     clear hub hS hSb hrc hc0;go_wp2_with fail;refine (cZ S (Nat.lt_of_lt_of_le sO.out (by omega)) w).mono ?_;rintro e w1 ⟨rfl,rfl⟩;rename World=>w
     go_wp2_with fail;go_ret3;exact ⟨by rw [HE.out];rfl,rfl⟩
    have q0:((c:Int)==0)=false:=beq_eq_false_iff_ne.2 (by omega)
    have HE:Hid (num bs=.inr (S,1)):=Lh (by
     rw [<- HR.out,uL.out,iO (by rw [fM.out];omega) (by rw [fM.out];omega) (by rw [fM.out];omega),fM.out,<- oD.out,hrc])
    clear hub hS hSb hrc hc0;go_wp2_with fail;refine (cZ S (Nat.lt_of_lt_of_le sO.out (by omega)) w).mono ?_;rintro e w1 ⟨rfl,rfl⟩;rename World=>w
    go_wp2_with fail;go_ret3;exact ⟨by rw [HE.out];rfl,rfl⟩
   ·
    have hub:u < 128:=HU.out;obtain ⟨S,hS⟩:∃ S,u+r*128=S:=⟨_,rfl⟩;have oD:=Lh hS;have Ui:=Lh hub;have hSb:S < 16384:=by omega
    have sO:=Lh hSb
    have hor:bits .or .u64 (u:Int) ((r:Int)*128)=(S:Int):=by
     rw [u64_orv7 _ _ (by omega) (by omega) (by omega) (by omega) (by omega)];omega
    by_cases hm:128<=c
    ·
     have HN:Hid (rd 2 S (bs.drop 2)=num bs):=Lh (by
      have h:=HR.out;rw [uL.out,jO (by omega) (by rw [fM.out];exact hm),fM.out,CV.out] at h;rw [<- oD.out];exact h)
     have Ez:Hid (S < pw 2):=Lh (by
      rw [show pw 2=16384 by decide];exact sO.out)
     have a1:(128:Int)<=(c:Int):=by omega
     clear hub hS hSb;go_wp2;go_round
     case rel=>exact ⟨2,S,rfl,rfl,by omega,by omega,Ez,HN⟩
     case measure=>simp [intOf];omega
    have hrc:r=c:=by
     have:=CV.out;omega
    have a2: ¬ (128:Int)<=(c:Int):=by omega
    by_cases hc0:c=0
    ·
     have HE:Hid (num bs=.inl 4):=Lh (by
      rw [<- HR.out,uL.out,kL (by rw [fM.out];exact hc0) (by omega)])
     have q0:((c:Int)==0)=true:=beq_iff_eq.2 (by omega);clear hub hS hSb hrc hc0;go_wp2;go_ret3;exact ⟨by rw [HE.out];rfl,rfl⟩
    have q0:((c:Int)==0)=false:=beq_eq_false_iff_ne.2 (by omega)
    have HE:Hid (num bs=.inr (S,2)):=Lh (by
     rw [<- HR.out,uL.out,iO (by rw [fM.out];omega) (by rw [fM.out];omega) (by rw [fM.out];omega),fM.out,<- oD.out,hrc])
    clear hub hS hSb hrc hc0;go_wp2_with fail;refine (cZ S (Nat.lt_of_lt_of_le sO.out (by omega)) w).mono ?_;rintro e w1 ⟨rfl,rfl⟩;rename World=>w
    go_wp2_with fail;go_ret3;exact ⟨by rw [HE.out];rfl,rfl⟩
   ·
    have hub:u < 16384:=HU.out;obtain ⟨S,hS⟩:∃ S,u+r*16384=S:=⟨_,rfl⟩;have oD:=Lh hS;have Ui:=Lh hub;have hSb:S < 2097152:=by omega
    have sO:=Lh hSb
    have hor:bits .or .u64 (u:Int) ((r:Int)*16384)=(S:Int):=by
     rw [u64_orv14 _ _ (by omega) (by omega) (by omega) (by omega) (by omega)];omega
    by_cases hm:128<=c
    ·
     have HN:Hid (rd 3 S (bs.drop 3)=num bs):=Lh (by
      have h:=HR.out;rw [uL.out,jO (by omega) (by rw [fM.out];exact hm),fM.out,CV.out] at h;rw [<- oD.out];exact h)
     have Ez:Hid (S < pw 3):=Lh (by
      rw [show pw 3=2097152 by decide];exact sO.out)
     have a1:(128:Int)<=(c:Int):=by omega
     clear hub hS hSb;go_wp2;go_round
     case rel=>exact ⟨3,S,rfl,rfl,by omega,by omega,Ez,HN⟩
     case measure=>simp [intOf];omega
    have hrc:r=c:=by
     have:=CV.out;omega
    have a2: ¬ (128:Int)<=(c:Int):=by omega
    by_cases hc0:c=0
    ·
     have HE:Hid (num bs=.inl 4):=Lh (by
      rw [<- HR.out,uL.out,kL (by rw [fM.out];exact hc0) (by omega)])
     have q0:((c:Int)==0)=true:=beq_iff_eq.2 (by omega);clear hub hS hSb hrc hc0;go_wp2;go_ret3;exact ⟨by rw [HE.out];rfl,rfl⟩
    have q0:((c:Int)==0)=false:=beq_eq_false_iff_ne.2 (by omega)
    have HE:Hid (num bs=.inr (S,3)):=Lh (by
     rw [<- HR.out,uL.out,iO (by rw [fM.out];omega) (by rw [fM.out];omega) (by rw [fM.out];omega),fM.out,<- oD.out,hrc])
    clear hub hS hSb hrc hc0;go_wp2_with fail;refine (cZ S (Nat.lt_of_lt_of_le sO.out (by omega)) w).mono ?_;rintro e w1 ⟨rfl,rfl⟩;rename World=>w
    go_wp2_with fail;go_ret3;exact ⟨by rw [HE.out];rfl,rfl⟩
   ·
    have hub:u < 2097152:=HU.out;obtain ⟨S,hS⟩:∃ S,u+r*2097152=S:=⟨_,rfl⟩;have oD:=Lh hS;have Ui:=Lh hub;have hSb:S < 268435456:=by omega
    have sO:=Lh hSb
    have hor:bits .or .u64 (u:Int) ((r:Int)*2097152)=(S:Int):=by
     rw [u64_orv21 _ _ (by omega) (by omega) (by omega) (by omega) (by omega)];omega
    by_cases hm:128<=c
    ·
     have HN:Hid (rd 4 S (bs.drop 4)=num bs):=Lh (by
      have h:=HR.out;rw [uL.out,jO (by omega) (by rw [fM.out];exact hm),fM.out,CV.out] at h;rw [<- oD.out];exact h)
     have Ez:Hid (S < pw 4):=Lh (by
      rw [show pw 4=268435456 by decide];exact sO.out)
     have a1:(128:Int)<=(c:Int):=by omega
     clear hub hS hSb;go_wp2;go_round
     case rel=>exact ⟨4,S,rfl,rfl,by omega,by omega,Ez,HN⟩
     case measure=>simp [intOf];omega
    have hrc:r=c:=by
     have:=CV.out;omega
    have a2: ¬ (128:Int)<=(c:Int):=by omega
    by_cases hc0:c=0
    ·
     have HE:Hid (num bs=.inl 4):=Lh (by
      rw [<- HR.out,uL.out,kL (by rw [fM.out];exact hc0) (by omega)])
     have q0:((c:Int)==0)=true:=beq_iff_eq.2 (by omega);clear hub hS hSb hrc hc0;go_wp2;go_ret3;exact ⟨by rw [HE.out];rfl,rfl⟩
    have q0:((c:Int)==0)=false:=beq_eq_false_iff_ne.2 (by omega)
    have HE:Hid (num bs=.inr (S,4)):=Lh (by
     rw [<- HR.out,uL.out,iO (by rw [fM.out];omega) (by rw [fM.out];omega) (by rw [fM.out];omega),fM.out,<- oD.out,hrc])
    clear hub hS hSb hrc hc0;go_wp2_with fail;refine (cZ S (Nat.lt_of_lt_of_le sO.out (by omega)) w).mono ?_;rintro e w1 ⟨rfl,rfl⟩;rename World=>w
    go_wp2_with fail;go_ret3;exact ⟨by rw [HE.out];rfl,rfl⟩
   ·
    have hub:u < 268435456:=HU.out;obtain ⟨S,hS⟩:∃ S,u+r*268435456=S:=⟨_,rfl⟩;have oD:=Lh hS;have Ui:=Lh hub;have hSb:S < 34359738368:=by omega
    have sO:=Lh hSb
    have hor:bits .or .u64 (u:Int) ((r:Int)*268435456)=(S:Int):=by
     rw [u64_orv28 _ _ (by omega) (by omega) (by omega) (by omega) (by omega)];omega
    by_cases hm:128<=c
    ·
     have HN:Hid (rd 5 S (bs.drop 5)=num bs):=Lh (by
      have h:=HR.out;rw [uL.out,jO (by omega) (by rw [fM.out];exact hm),fM.out,CV.out] at h;rw [<- oD.out];exact h)
     have Ez:Hid (S < pw 5):=Lh (by
      rw [show pw 5=34359738368 by decide];exact sO.out)
     have a1:(128:Int)<=(c:Int):=by omega
     clear hub hS hSb;go_wp2;go_round
     case rel=>exact ⟨5,S,rfl,rfl,by omega,by omega,Ez,HN⟩
     case measure=>simp [intOf];omega
    have hrc:r=c:=by
     have:=CV.out;omega
    have a2: ¬ (128:Int)<=(c:Int):=by omega
    by_cases hc0:c=0
    ·
     have HE:Hid (num bs=.inl 4):=Lh (by
      rw [<- HR.out,uL.out,kL (by rw [fM.out];exact hc0) (by omega)])
     have q0:((c:Int)==0)=true:=beq_iff_eq.2 (by omega);clear hub hS hSb hrc hc0;go_wp2;go_ret3;exact ⟨by rw [HE.out];rfl,rfl⟩
    have q0:((c:Int)==0)=false:=beq_eq_false_iff_ne.2 (by omega)
    have HE:Hid (num bs=.inr (S,5)):=Lh (by
     rw [<- HR.out,uL.out,iO (by rw [fM.out];omega) (by rw [fM.out];omega) (by rw [fM.out];omega),fM.out,<- oD.out,hrc])
    clear hub hS hSb hrc hc0;go_wp2_with fail;refine (cZ S (Nat.lt_of_lt_of_le sO.out (by omega)) w).mono ?_;rintro e w1 ⟨rfl,rfl⟩;rename World=>w
    go_wp2_with fail;go_ret3;exact ⟨by rw [HE.out];rfl,rfl⟩
   ·
    have hub:u < 34359738368:=HU.out;obtain ⟨S,hS⟩:∃ S,u+r*34359738368=S:=⟨_,rfl⟩;have oD:=Lh hS;have Ui:=Lh hub;have hSb:S < 4398046511104:=by omega
    have sO:=Lh hSb
    have hor:bits .or .u64 (u:Int) ((r:Int)*34359738368)=(S:Int):=by
     rw [u64_orv35 _ _ (by omega) (by omega) (by omega) (by omega) (by omega)];omega
    by_cases hm:128<=c
    ·
     have HN:Hid (rd 6 S (bs.drop 6)=num bs):=Lh (by
      have h:=HR.out;rw [uL.out,jO (by omega) (by rw [fM.out];exact hm),fM.out,CV.out] at h;rw [<- oD.out];exact h)
     have Ez:Hid (S < pw 6):=Lh (by
      rw [show pw 6=4398046511104 by decide];exact sO.out)
     have a1:(128:Int)<=(c:Int):=by omega
     clear hub hS hSb;go_wp2;go_round
     case rel=>exact ⟨6,S,rfl,rfl,by omega,by omega,Ez,HN⟩
     case measure=>simp [intOf];omega
    have hrc:r=c:=by
     have:=CV.out;omega
    have a2: ¬ (128:Int)<=(c:Int):=by omega
    by_cases hc0:c=0
    ·
     have HE:Hid (num bs=.inl 4):=Lh (by
      rw [<- HR.out,uL.out,kL (by rw [fM.out];exact hc0) (by omega)])
     have q0:((c:Int)==0)=true:=beq_iff_eq.2 (by omega);clear hub hS hSb hrc hc0;go_wp2;go_ret3;exact ⟨by rw [HE.out];rfl,rfl⟩
    have q0:((c:Int)==0)=false:=beq_eq_false_iff_ne.2 (by omega)
    have HE:Hid (num bs=.inr (S,6)):=Lh (by
     rw [<- HR.out,uL.out,iO (by rw [fM.out];omega) (by rw [fM.out];omega) (by rw [fM.out];omega),fM.out,<- oD.out,hrc])
    clear hub hS hSb hrc hc0;go_wp2_with fail;refine (cZ S (Nat.lt_of_lt_of_le sO.out (by omega)) w).mono ?_;rintro e w1 ⟨rfl,rfl⟩;rename World=>w
    go_wp2_with fail;go_ret3;exact ⟨by rw [HE.out];rfl,rfl⟩
   ·
    have hub:u < 4398046511104:=HU.out;obtain ⟨S,hS⟩:∃ S,u+r*4398046511104=S:=⟨_,rfl⟩;have oD:=Lh hS;have Ui:=Lh hub;have hSb:S < 562949953421312:=by omega
    have sO:=Lh hSb
    have hor:bits .or .u64 (u:Int) ((r:Int)*4398046511104)=(S:Int):=by
     rw [u64_orv42 _ _ (by omega) (by omega) (by omega) (by omega) (by omega)];omega
    by_cases hm:128<=c
    ·
     have HN:Hid (rd 7 S (bs.drop 7)=num bs):=Lh (by
      have h:=HR.out;rw [uL.out,jO (by omega) (by rw [fM.out];exact hm),fM.out,CV.out] at h;rw [<- oD.out];exact h)
     have Ez:Hid (S < pw 7):=Lh (by
      rw [show pw 7=562949953421312 by decide];exact sO.out)
     have a1:(128:Int)<=(c:Int):=by omega
     clear hub hS hSb;go_wp2;go_round
     case rel=>exact ⟨7,S,rfl,rfl,by omega,by omega,Ez,HN⟩
     case measure=>simp [intOf];omega
    have hrc:r=c:=by
     have:=CV.out;omega
    have a2: ¬ (128:Int)<=(c:Int):=by omega
    by_cases hc0:c=0
    ·
     have HE:Hid (num bs=.inl 4):=Lh (by
      rw [<- HR.out,uL.out,kL (by rw [fM.out];exact hc0) (by omega)])
     have q0:((c:Int)==0)=true:=beq_iff_eq.2 (by omega);clear hub hS hSb hrc hc0;go_wp2;go_ret3;exact ⟨by rw [HE.out];rfl,rfl⟩
    have q0:((c:Int)==0)=false:=beq_eq_false_iff_ne.2 (by omega)
    have HE:Hid (num bs=.inr (S,7)):=Lh (by
     rw [<- HR.out,uL.out,iO (by rw [fM.out];omega) (by rw [fM.out];omega) (by rw [fM.out];omega),fM.out,<- oD.out,hrc])
    clear hub hS hSb hrc hc0;go_wp2_with fail;refine (cZ S (Nat.lt_of_lt_of_le sO.out (by omega)) w).mono ?_;rintro e w1 ⟨rfl,rfl⟩;rename World=>w
    go_wp2_with fail;go_ret3;exact ⟨by rw [HE.out];rfl,rfl⟩
   ·
    have hub:u < 562949953421312:=HU.out;obtain ⟨S,hS⟩:∃ S,u+r*562949953421312=S:=⟨_,rfl⟩;have oD:=Lh hS;have Ui:=Lh hub;have hSb:S < 72057594037927936:=by omega
    have sO:=Lh hSb
    have hor:bits .or .u64 (u:Int) ((r:Int)*562949953421312)=(S:Int):=by
     rw [u64_orv49 _ _ (by omega) (by omega) (by omega) (by omega) (by omega)];omega
    by_cases hm:128<=c
    ·
     have HN:Hid (rd 8 S (bs.drop 8)=num bs):=Lh (by
      have h:=HR.out;rw [uL.out,jO (by omega) (by rw [fM.out];exact hm),fM.out,CV.out] at h;rw [<- oD.out];exact h)
     have Ez:Hid (S < pw 8):=Lh (by
      rw [show pw 8=72057594037927936 by decide];exact sO.out)
     have a1:(128:Int)<=(c:Int):=by omega
     clear hub hS hSb;go_wp2;go_round
     case rel=>exact ⟨8,S,rfl,rfl,by omega,by omega,Ez,HN⟩
     case measure=>simp [intOf];omega
    have hrc:r=c:=by
     have:=CV.out;omega
    have a2: ¬ (128:Int)<=(c:Int):=by omega
    by_cases hc0:c=0
    ·
     have HE:Hid (num bs=.inl 4):=Lh (by
      rw [<- HR.out,uL.out,kL (by rw [fM.out];exact hc0) (by omega)])
     have q0:((c:Int)==0)=true:=beq_iff_eq.2 (by omega);clear hub hS hSb hrc hc0;go_wp2;go_ret3;exact ⟨by rw [HE.out];rfl,rfl⟩
    have q0:((c:Int)==0)=false:=beq_eq_false_iff_ne.2 (by omega)
    have HE:Hid (num bs=.inr (S,8)):=Lh (by
     rw [<- HR.out,uL.out,iO (by rw [fM.out];omega) (by rw [fM.out];omega) (by rw [fM.out];omega),fM.out,<- oD.out,hrc])
    clear hub hS hSb hrc hc0;go_wp2_with fail;refine (cZ S (Nat.lt_of_lt_of_le sO.out (by omega)) w).mono ?_;rintro e w1 ⟨rfl,rfl⟩;rename World=>w
    go_wp2_with fail;go_ret3;exact ⟨by rw [HE.out];rfl,rfl⟩
   ·
    have hub:u < 72057594037927936:=HU.out;obtain ⟨S,hS⟩:∃ S,u+r*72057594037927936=S:=⟨_,rfl⟩;have oD:=Lh hS;have Ui:=Lh hub;have hSb:S < 9223372036854775808:=by omega
    have sO:=Lh hSb
    have hor:bits .or .u64 (u:Int) ((r:Int)*72057594037927936)=(S:Int):=by
     rw [u64_orv56 _ _ (by omega) (by omega) (by omega) (by omega) (by omega)];omega
    by_cases hm:128<=c
    ·
     have HN:Hid (rd 9 S (bs.drop 9)=num bs):=Lh (by
      have h:=HR.out;rw [uL.out,jO (by omega) (by rw [fM.out];exact hm),fM.out,CV.out] at h;rw [<- oD.out];exact h)
     have Ez:Hid (S < pw 9):=Lh (by
      rw [show pw 9=9223372036854775808 by decide];exact sO.out)
     have a1:(128:Int)<=(c:Int):=by omega
     clear hub hS hSb;go_wp2;go_round
     case rel=>exact ⟨9,S,rfl,rfl,by omega,by omega,Ez,HN⟩
     case measure=>simp [intOf];omega
    have hrc:r=c:=by
     have:=CV.out;omega
    have a2: ¬ (128:Int)<=(c:Int):=by omega
    by_cases hc0:c=0
    ·
     have HE:Hid (num bs=.inl 4):=Lh (by
      rw [<- HR.out,uL.out,kL (by rw [fM.out];exact hc0) (by omega)])
     have q0:((c:Int)==0)=true:=beq_iff_eq.2 (by omega);clear hub hS hSb hrc hc0;go_wp2;go_ret3;exact ⟨by rw [HE.out];rfl,rfl⟩
    have q0:((c:Int)==0)=false:=beq_eq_false_iff_ne.2 (by omega)
    have HE:Hid (num bs=.inr (S,9)):=Lh (by
     rw [<- HR.out,uL.out,iO (by rw [fM.out];omega) (by rw [fM.out];omega) (by rw [fM.out];omega),fM.out,<- oD.out,hrc])
    clear hub hS hSb hrc hc0;go_wp2_with fail;refine (cZ S (Nat.lt_of_lt_of_le sO.out (by omega)) w).mono ?_;rintro e w1 ⟨rfl,rfl⟩;rename World=>w
    go_wp2_with fail;go_ret3;exact ⟨by rw [HE.out];rfl,rfl⟩
   ·
    have hub:u < 9223372036854775808:=HU.out;obtain ⟨S,hS⟩:∃ S,u+r*9223372036854775808=S:=⟨_,rfl⟩;have oD:=Lh hS;have Ui:=Lh hub;by_cases ht:1 < c
    ·
     have HE:Hid (num bs=.inl 4):=Lh (by
      rw [<- HR.out,uL.out,O9 rfl (by rw [fM.out];exact ht)])
     have a1:(1:Int) < (c:Int):=by omega
     clear hub hS;go_wp2;go_ret3;exact ⟨by rw [HE.out];rfl,rfl⟩
    have hrc:r=c:=by
     have:=CV.out;omega
    have hSb:S < 18446744073709551616:=by omega
    have hor:bits .or .u64 (u:Int) ((r:Int)*9223372036854775808)=(S:Int):=by
     rw [u64_orv63 _ _ (by omega) (by omega) (by omega) (by omega) (by omega)];omega
    have sO:=Lh hSb;have hr1:r<=1:=by omega
    have a0: ¬ (1:Int) < (c:Int):=by omega
    have a2: ¬ (128:Int)<=(c:Int):=by omega
    by_cases hc0:c=0
    ·
     have HE:Hid (num bs=.inl 4):=Lh (by
      rw [<- HR.out,uL.out,kL (by rw [fM.out];exact hc0) (by omega)])
     have q0:((c:Int)==0)=true:=beq_iff_eq.2 (by omega);clear hub hS hSb hrc hc0;go_wp2;go_ret3;exact ⟨by rw [HE.out];rfl,rfl⟩
    have q0:((c:Int)==0)=false:=beq_eq_false_iff_ne.2 (by omega)
    have HE:Hid (num bs=.inr (S,10)):=Lh (by
     rw [<- HR.out,uL.out,iO (by rw [fM.out];omega) (by rw [fM.out];omega) (by rw [fM.out];omega),fM.out,<- oD.out,hrc])
    clear hub hS hSb hrc hc0;go_wp2_with fail;refine (cZ S sO.out w).mono ?_;rintro e w1 ⟨rfl,rfl⟩;rename World=>w
    go_wp2_with fail;go_ret3;exact ⟨by rw [HE.out];rfl,rfl⟩
  ·
   obtain rfl:k=n:=by omega
   have HE:Hid (num bs=.inl 3):=Lh (by
    rw [<- HR.out,List.drop_eq_nil_of_le (by rw [<- HLen.out];exact Nat.le_refl _),Hy])
   go_wp2;go_ret3;exact ⟨by rw [HE.out];rfl,rfl⟩
open Go.Sort (grow)
structure gF (w:World) (p:Nat) (w':World):Prop where
 size:w.heap.size<=w'.heap.size
 cell:∀ b o,b < w.heap.size->b≠p->w'.cell? ⟨b,o,none⟩=w.cell? ⟨b,o,none⟩
 frozen:∀ b o,b < w.heap.size->w'.frozen? ⟨b,o,none⟩=w.frozen? ⟨b,o,none⟩
 below:∀ w0,Below w0.heap.size w0 w->w0.heap.size<=p->Below w0.heap.size w0 w'
 block:∀ b,b < w.heap.size->b≠p->w'.heap[b]? =w.heap[b]?
theorem gF.of {w':World} (p:Nat) (h:Below w.heap.size w w'):gF w p w' :=
 ⟨h.size,fun b o hb _=>(aD h).1 b o hb,fun b o hb=>(aD h).2 b o hb,fun _ k _=>aj k h,fun b hb _=>h.block b hb⟩
theorem gF.refl (w:World) (p:Nat):gF w p w:=gF.of p (Below.refl _ _)
theorem gF.trans {u:World} (h:gF w p u) (k:gF u p v):gF w p v :=
 ⟨Nat.le_trans h.size k.size,fun b o hb hp=>by rw [k.cell b o (Nat.lt_of_lt_of_le hb h.size) hp,h.cell b o hb hp],fun b o hb=>by rw [k.frozen b o (Nat.lt_of_lt_of_le hb h.size),h.frozen b o hb],fun w0 a c=>k.below w0 (h.below w0 a c) c,fun b hb hp=>by rw [k.block b (Nat.lt_of_lt_of_le hb h.size) hp,h.block b hb hp]⟩
theorem gF.set (x:Value):gF w p (w.setCell ⟨p,o,none⟩ x):=by
 refine ⟨by simp,fun b q _ _=>by simp [go_sem],fun b q _=>by simp [go_sem],fun w0 h hp=>h.setCell (p:=⟨p,o,none⟩) hp x,fun b _ hp=>Below.heap_setCell w ⟨p,o,none⟩ x b hp⟩
theorem gF.fresh {u:World} {q:Nat} (h:gF w p u) (hq:w.heap.size<=q) (x:Value):gF w p (u.setCell ⟨q,o,none⟩ x):=by
 refine ⟨by simpa using h.size,fun b r hb hp=>?_,fun b r hb=>?_,fun w0 a c=>(h.below w0 a c).setCell (p:=⟨q,o,none⟩) (Nat.le_trans a.size hq) x,fun b hb hp=>?_⟩
 ·
  rw [<- h.cell b r hb hp];simp [go_sem]
 ·
  rw [<- h.frozen b r hb];simp [go_sem]
 · rw [Below.heap_setCell u ⟨q,o,none⟩ x b (by show b≠q;omega),h.block b hb hp]
theorem By.Ls.upd {w':World} (h:By.Ls w ao n cap bs) (k:gF w p w') (hp:∀ b off,ao=some ⟨b,off,none⟩->b≠p):By.Ls w' ao n cap bs:=by
 refine ⟨h.len,h.fits,h.reach,h.nil,?_⟩;rcases h.seg with e | ⟨b,off,e,hc⟩
 · exact .inl e
 · exact .inr ⟨b,off,e,fun i hi=>by rw [k.cell _ _ (aH (hc i hi)) (hp b off e)];exact hc i hi⟩
structure St where
 at':Nat
 err:Int
structure Rd (w:World) (p:Nat) (ao:Option Addr) (n cap:Nat) (bs:List UInt8) (s:St):Prop where
 c0:w.cell? ⟨p,0,none⟩=some (.slice ao n cap)
 c1:w.cell? ⟨p,1,none⟩=some (.int .i64 (s.at':Int))
 c2:w.cell? ⟨p,2,none⟩=some (.int .i64 s.err)
 fz:∀ o,w.frozen? ⟨p,o,none⟩=false
 ls:By.Ls w ao n cap bs
 apart:∀ b off,ao=some ⟨b,off,none⟩->b≠p
 place:s.at'<=n
theorem Rd.below {w w':World} {p:Nat} {ao:Option Addr} {n cap:Nat} {bs:List UInt8} {s:St} (h:Rd w p ao n cap bs s) (k:Below w.heap.size w w'):Rd w' p ao n cap bs s:=by
 have hl:=aH h.c0;exact ⟨by rw [(aD k).1 _ _ hl];exact h.c0,by rw [(aD k).1 _ _ hl];exact h.c1,by rw [(aD k).1 _ _ hl];exact h.c2,fun o=>by rw [(aD k).2 _ _ hl];exact h.fz o,h.ls.below k,h.apart,h.place⟩
variable {s:St}
theorem Rd.at (h:Rd w p ao n cap bs s) (a:Nat) (ha:a<=n):Rd (w.setCell ⟨p,1,none⟩ (.int .i64 (a:Int))) p ao n cap bs ⟨a,s.err⟩ :=
 ⟨by simp [go_sem,h.c0],by simp [go_sem,h.c1],by simp [go_sem,h.c2],fun o=>by simp [go_sem,h.fz],h.ls.upd (gF.set _) h.apart,h.apart,ha⟩
theorem Rd.wrong (h:Rd w p ao n cap bs s) (e:Int):Rd (w.setCell ⟨p,2,none⟩ (.int .i64 e)) p ao n cap bs ⟨s.at',e⟩ :=
 ⟨by simp [go_sem,h.c0],by simp [go_sem,h.c1],by simp [go_sem,h.c2],fun o=>by simp [go_sem,h.fz],h.ls.upd (gF.set _) h.apart,h.apart,h.place⟩
def bH (bs:List UInt8) (s:St):Int×St:=if s.err≠0 then (0,s) else match num (bs.drop s.at') with
 | .inl e=>(0,⟨s.at',e⟩)
 | .inr q=>(uz q.1,⟨s.at'+q.2,0⟩)
theorem yJ (h:s.err≠0):bH bs s=(0,s):=by unfold bH;rw [if_pos h]
theorem EA {e:Int} (h:s.err=0) (k:num (bs.drop s.at')=.inl e):bH bs s=(0,⟨s.at',e⟩):=by unfold bH;rw [if_neg (by simp [h]),k]
theorem xW {z:Nat} (h:s.err=0) (k:num (bs.drop s.at')=.inr (u,z)):bH bs s=(uz u,⟨s.at'+z,0⟩):=by unfold bH;rw [if_neg (by simp [h]),k]
def AnsPk (f:FuncId) (args:Array Value) (u:World) (i:Nat) (os:Array Obj) (v:Value):Prop :=
 Calls Tryz.prog f args (grow (redrawn u i) os) fun e w''=>e=.returned v/\∃ p:Regrown,w''=grow (redrawn u p.d) p.os
def Yf:Int ⊕ (Nat×Nat)->Value
 | .inl e=>.tuple #[.int .i64 0,.int .i64 0,.int .i64 e]
 | .inr p=>.tuple #[.int .i64 (uz p.1),.int .i64 (p.2:Int),.int .i64 0]
theorem Ia (h:By.Ls w ao n cap bs) (i:Nat) (os:Array Obj):AnsPk 101 #[.slice ao n cap] w i os (Yf (num bs)) :=
 Calls.regrown_of ((Ey bs ao n cap _ (h.below (below_regrown w i os))).mono fun e w' ⟨he,hw⟩=>⟨by rw [he];cases num bs <;> rfl,by rw [hw];exact Below.refl _ _⟩)
theorem Uj {z:Nat} (h:num l=.inr (u,z)):z<=l.length:=by
 obtain ⟨e,h2,_,_⟩:=Hz h;have:=congrArg List.length e;rw [List.length_append,List.length_drop] at this;unfold wd at h2;omega
theorem iW (p:Nat) (ao:Option Addr) (n cap:Nat) (bs:List UInt8) (s:St) (w:World) (hR:Rd w p ao n cap bs s) :
  Calls Tryz.prog 54 #[.pointer (some ⟨p,0,none⟩)] w fun e w'=>e=.returned (.int .i64 (bH bs s).1)/\Rd w' p ao n cap bs (bH bs s).2/\gF w p w':=by
 have HR:=Lh hR;obtain ⟨a,er⟩:=s;obtain ⟨c0,c1,c2,fz,hls,hap,hpl⟩:=hR;dsimp only at c1 c2 hpl;have hcap:=hls.reach;have hfit:=hls.fits;have hlen:=hls.len;by_cases he:er=0
 ·
  subst he;obtain ⟨mO,cap2,hsl,hL2,_⟩:=hls.from a hpl
  have k0:=cell_regrown c0;have k1:=cell_regrown c1;have kn:=Ia hL2;cases hn:num (bs.drop a) with
  | inl e =>
   rw [hn] at kn;unfold Yf at kn;have HN:=Lh (EA (bs:=bs) (s:=⟨a,0⟩) rfl hn);clear hn hls hap fz hL2 hlen;go_enter Tryz.func54,Tryz.ntmps54;go_wp2;refine wp_region_quiet_below (by kernel_rfl) (by kernel_rfl) ?_
   repeat (first | go_big_quiet_step (first | (go_at_call 101;exact kn _ _)) | quiet_step (first | (go_at_call 101;exact kn _ _)))
   refine wpQuiet_nil ?_;intro _ hw';obtain ⟨⟨dq,osq⟩,hw''⟩:=hw';subst hw'';have bq:=below_regrown w dq osq;have vY:=Lh (HR.out.below bq);have Ic:=Lh (gF.of p bq);clear k0 k1 kn c0 c1 c2 bq hsl;generalize grow (redrawn w dq) osq=x at *;have d1:=vY.out.c1;have d2:=vY.out.c2;have df:=vY.out.fz;dsimp only at d1 d2;go_wp2;go_ret;refine ⟨by rw [HN.out];rfl,?_,?_⟩
   ·
    rw [HN.out];exact (vY.out.at a hpl).wrong e
   · exact (Ic.out.trans (gF.set _)).trans (gF.set _)
  | inr q =>
   obtain ⟨u,z⟩:=q;rw [hn] at kn;unfold Yf at kn
   have hz:a+z<=n:=by
    have:=Uj hn;rw [List.length_drop] at this;omega
   have HN:=Lh (xW (bs:=bs) (s:=⟨a,0⟩) rfl hn);clear hn hls hap fz hL2 hlen;go_enter Tryz.func54,Tryz.ntmps54;go_wp2;refine wp_region_quiet_below (by kernel_rfl) (by kernel_rfl) ?_
   repeat (first | go_big_quiet_step (first | (go_at_call 101;exact kn _ _)) | quiet_step (first | (go_at_call 101;exact kn _ _)))
   refine wpQuiet_nil ?_;intro _ hw';obtain ⟨⟨dq,osq⟩,hw''⟩:=hw';subst hw'';have bq:=below_regrown w dq osq;have vY:=Lh (HR.out.below bq);have Ic:=Lh (gF.of p bq);clear k0 k1 kn c0 c1 c2 bq hsl;generalize grow (redrawn w dq) osq=x at *;have d1:=vY.out.c1;have d2:=vY.out.c2;have df:=vY.out.fz;dsimp only at d1 d2;go_wp2;go_ret;refine ⟨by rw [HN.out];rfl,?_,?_⟩
   ·
    rw [HN.out];have:=(vY.out.at (a+z) hz).wrong 0;simpa using this
   · exact (Ic.out.trans (gF.set _)).trans (gF.set _)
 ·
  have HN:=Lh (yJ (bs:=bs) (s:=⟨a,er⟩) he);have hne:(er != 0)=true:=bne_iff_ne.2 he;clear hls hap fz;go_enter Tryz.func54,Tryz.ntmps54;go_wp2;go_ret;exact ⟨by rw [HN.out];rfl,by rw [HN.out];exact HR.out,gF.refl _ _⟩
theorem nJ (p:Nat) (ao:Option Addr) (n cap:Nat) (bs:List UInt8) (s:St) (a:Nat) (e:Int) (w:World) (hR:Rd w p ao n cap bs s) (ha:a<=n) :
  Calls Tryz.prog 142 #[.pointer (some ⟨p,0,none⟩),.int .i64 (a:Int),.int .i64 e] w fun r w'=>r=.returned (.tuple #[])/\Rd w' p ao n cap bs ⟨a,e⟩/\gF w p w':=by
 have HR:=Lh hR;obtain ⟨c0,c1,c2,fz,_,_,_⟩:=hR;go_enter Tryz.func142,Tryz.ntmps142;go_wp2;go_end0;exact ⟨rfl,(HR.out.at a ha).wrong e,(gF.set _).trans (gF.set _)⟩
def bS (bs:List UInt8) (lo hi:Int) (s:St):Int×St:=if (bH bs s).2.err≠0 then (0,(bH bs s).2) else if (bH bs s).1 < lo\/hi < (bH bs s).1 then (0,⟨s.at',2⟩) else bH bs s
theorem sP (h:(bH bs s).2.err≠0):bS bs lo hi s=(0,(bH bs s).2):=by unfold bS;rw [if_pos h]
theorem uS (h:(bH bs s).2.err=0) (k:(bH bs s).1 < lo\/hi < (bH bs s).1):bS bs lo hi s=(0,⟨s.at',2⟩):=by unfold bS;rw [if_neg (by simp [h]),if_pos k]
theorem tL (h:(bH bs s).2.err=0) (k: ¬ ((bH bs s).1 < lo\/hi < (bH bs s).1)):bS bs lo hi s=bH bs s:=by unfold bS;rw [if_neg (by simp [h]),if_neg k]
theorem LV (p:Nat) (ao:Option Addr) (n cap:Nat) (bs:List UInt8) (lo hi:Int) (s:St) (w:World) (hR:Rd w p ao n cap bs s) :
  Calls Tryz.prog 141 #[.pointer (some ⟨p,0,none⟩),.int .i64 lo,.int .i64 hi] w fun e w'=>e=.returned (.int .i64 (bS bs lo hi s).1)/\Rd w' p ao n cap bs (bS bs lo hi s).2/\gF w p w':=by
 have HR:=Lh hR;have hpl:=hR.place;have c1:=hR.c1;clear hR;go_enter Tryz.func141,Tryz.ntmps141;go_wp2_with fail;refine (iW p ao n cap bs s w HR.out).mono ?_;rintro e w1 ⟨rfl,lD,uT⟩;have HR1:=Lh lD;have mQ:=Lh uT;have d2:=lD.c2;clear lD uT c1;obtain ⟨v,s1,hv⟩:∃ v s1,bH bs s=(v,s1):=⟨_,_,rfl⟩;have HV:=Lh hv;rw [hv] at HR1 d2;rw [hv];dsimp only at d2 HR1 ⊢;clear hv;by_cases he:s1.err=0
 ·
  rw [he] at d2;by_cases hb:v < lo\/hi < v
  ·
   have HN:Hid (bS bs lo hi s=(0,⟨s.at',2⟩)):=Lh (uS (by rw [HV.out];exact he) (by rw [HV.out];exact hb));rcases hb with hb | hb
   ·
    go_wp2_with fail;refine (nJ p ao n cap bs s1 s.at' 2 w1 HR1.out hpl).mono ?_;rintro e w2 ⟨rfl,hR2,pV⟩;have HR2:=Lh hR2;have uM:=Lh (mQ.out.trans pV);clear hR2 pV;go_wp2_with fail;go_ret;exact ⟨by rw [HN.out];rfl,by rw [HN.out];exact HR2.out,uM.out⟩
   ·
    by_cases hlo:v < lo
    ·
     go_wp2_with fail;refine (nJ p ao n cap bs s1 s.at' 2 w1 HR1.out hpl).mono ?_;rintro e w2 ⟨rfl,hR2,pV⟩;have HR2:=Lh hR2;have uM:=Lh (mQ.out.trans pV);clear hR2 pV;go_wp2_with fail;go_ret;exact ⟨by rw [HN.out];rfl,by rw [HN.out];exact HR2.out,uM.out⟩
    ·
     go_wp2_with fail;refine (nJ p ao n cap bs s1 s.at' 2 w1 HR1.out hpl).mono ?_;rintro e w2 ⟨rfl,hR2,pV⟩;have HR2:=Lh hR2;have uM:=Lh (mQ.out.trans pV);clear hR2 pV;go_wp2_with fail;go_ret;exact ⟨by rw [HN.out];rfl,by rw [HN.out];exact HR2.out,uM.out⟩
  ·
   have HN:Hid (bS bs lo hi s=(v,s1)):=Lh (by rw [tL (by rw [HV.out];exact he) (by rw [HV.out];exact hb),HV.out]);have hb1: ¬ v < lo:=fun h=>hb (.inl h)
   have hb2: ¬ hi < v:=fun h=>hb (.inr h)
   clear hb;go_wp2_with fail;go_ret;exact ⟨by rw [HN.out];rfl,by rw [HN.out];exact HR1.out,mQ.out⟩
 ·
  have HN:Hid (bS bs lo hi s=(0,s1)):=Lh (by rw [sP (by rw [HV.out];exact he),HV.out]);have hne:(s1.err != 0)=true:=bne_iff_ne.2 he;go_wp2_with fail;go_ret;exact ⟨by rw [HN.out];rfl,by rw [HN.out];exact HR1.out,mQ.out⟩
def aR (bs:List UInt8) (most:Int) (s:St):Int×St:=if (bs.length:Int) - ((bS bs 0 most s).2.at':Int) < (bS bs 0 most s).1 then (0,⟨s.at',3⟩) else bS bs 0 most s
theorem uU (h:(bs.length:Int) - ((bS bs 0 most s).2.at':Int) < (bS bs 0 most s).1):aR bs most s=(0,⟨s.at',3⟩):=by unfold aR;rw [if_pos h]
theorem vZ (h: ¬ (bs.length:Int) - ((bS bs 0 most s).2.at':Int) < (bS bs 0 most s).1):aR bs most s=bS bs 0 most s:=by unfold aR;rw [if_neg h]
theorem aV (bs:List UInt8) (s:St):Fit (bH bs s).1:=by
 have f0:Fit 0:=⟨by omega,by omega⟩;unfold bH;split
 · exact f0
 ·
  cases h:num (bs.drop s.at') with
  | inl e=>exact f0
  | inr q =>
   obtain ⟨u,z⟩:=q;exact Yc (Hz h).2.2.1
theorem EB (bs:List UInt8) (lo hi:Int) (s:St):Fit (bS bs lo hi s).1:=by
 have f0:Fit 0:=⟨by omega,by omega⟩;unfold bS;split
 · exact f0
 ·
  split
  · exact f0
  · exact aV bs s
theorem wZ (bs:List UInt8) (hi:Int) (s:St):0<=(bS bs 0 hi s).1:=by
 unfold bS;split
 · exact Int.le_refl _
 ·
  split
  · exact Int.le_refl _
  · omega
theorem nK (p:Nat) (ao:Option Addr) (n cap:Nat) (bs:List UInt8) (most:Int) (s:St) (w:World) (hR:Rd w p ao n cap bs s) :
  Calls Tryz.prog 95 #[.pointer (some ⟨p,0,none⟩),.int .i64 most] w fun e w'=>e=.returned (.int .i64 (aR bs most s).1)/\Rd w' p ao n cap bs (aR bs most s).2/\gF w p w':=by
 have HR:=Lh hR;have hpl:=hR.place;have c1:=hR.c1;have hcap:=hR.ls.reach;have hfit:=hR.ls.fits;have HLen:=Lh hR.ls.len;clear hR;go_enter Tryz.func95,Tryz.ntmps95;go_wp2_with fail;refine (LV p ao n cap bs 0 most s w HR.out).mono ?_;rintro e w1 ⟨rfl,lD,uT⟩;have hvf:=EB bs 0 most s;obtain ⟨v,s1,hv⟩:∃ v s1,bS bs 0 most s=(v,s1):=⟨_,_,rfl⟩;have HV:=Lh hv;rw [hv] at lD hvf;rw [hv];dsimp only at hvf lD ⊢;unfold Fit at hvf;have hpl1:=lD.place;have k0:=cell_regrown lD.c0;have k1:=cell_regrown lD.c1;have HR1:=Lh lD;have mQ:=Lh uT;clear lD uT c1 hv;obtain ⟨a1,e1⟩:=s1;dsimp only at k1 hpl1;by_cases hb:(n:Int) - (a1:Int) < v
 ·
  have HN:Hid (aR bs most s=(0,⟨s.at',3⟩)):=Lh (uU (by rw [HV.out,<- HLen.out];exact hb));go_wp2;refine wp_region_quiet_below (by kernel_rfl) (by kernel_rfl) ?_
  repeat (first | go_big_quiet_step (fail) | quiet_step (fail))
  refine wpQuiet_nil ?_;intro _ hw';obtain ⟨⟨dq,osq⟩,hw''⟩:=hw';subst hw'';have bq:=below_regrown w1 dq osq;have vY:=Lh (HR1.out.below bq);have Ic:=Lh (mQ.out.trans (gF.of p bq));clear k0 k1 bq;generalize grow (redrawn w1 dq) osq=x at *;go_wp2_with fail;refine (nJ p ao n cap bs ⟨a1,e1⟩ s.at' 3 x vY.out hpl).mono ?_;rintro e w2 ⟨rfl,hR2,pV⟩;have HR2:=Lh hR2;have uM:=Lh (Ic.out.trans pV);clear hR2 pV;go_wp2_with fail;go_ret;exact ⟨by rw [HN.out];rfl,by rw [HN.out];exact HR2.out,uM.out⟩
 ·
  have HN:Hid (aR bs most s=(v,⟨a1,e1⟩)):=Lh (by rw [vZ (by rw [HV.out,<- HLen.out];exact hb),HV.out]);go_wp2;refine wp_region_quiet_below (by kernel_rfl) (by kernel_rfl) ?_
  repeat (first | go_big_quiet_step (fail) | quiet_step (fail))
  refine wpQuiet_nil ?_;intro _ hw';obtain ⟨⟨dq,osq⟩,hw''⟩:=hw';subst hw'';have bq:=below_regrown w1 dq osq;have vY:=Lh (HR1.out.below bq);have Ic:=Lh (mQ.out.trans (gF.of p bq));clear k0 k1 bq;generalize grow (redrawn w1 dq) osq=x at *;go_wp2_with fail;go_ret;exact ⟨by rw [HN.out];rfl,by rw [HN.out];exact vY.out,Ic.out⟩
def str (bs:List UInt8):ByteArray:=⟨bs.toArray⟩
theorem strOf (bs:List UInt8):strOfNums (bs.map fun b=>(b.toNat:Int))=str bs:=by
 unfold strOfNums str;rw [List.map_map]
 have h:bs.map ((fun n:Int=>UInt8.ofNat n.toNat) ∘ fun b=>(b.toNat:Int))=bs:=by
  conv=>rhs;rw [<- List.map_id bs]
  apply List.map_congr_left;intro b _
  simp
 rw [h]
theorem By.Ls.str {w:World} {ao:Option Addr} {n cap:Nat} {bs:List UInt8} (h:By.Ls w ao n cap bs):(convert 23 9 (.slice ao n cap)).run Tryz.prog w=.ok (.string (str bs)) w:=by
 have hn:=h.len;have empty:bs=[]->n=0:=fun e=>by rw [hn,e];rfl
 rcases h.seg with e | ⟨b,off,rfl,hc⟩
 ·
  subst e;obtain rfl:=empty rfl;cases ao with
  | none =>
   rw [run_convert_bytes_nil w 23 5 Tryz.underlying23 Tryz.underlying5 0 cap 9 Tryz.underlying9];rfl
  | some a =>
   obtain ⟨b,off,sp⟩:=a;have hl:(loadCells ⟨b,off,sp⟩ 0).run Tryz.prog w=.ok #[] w:=by simpa using run_loadCells_list (P:=Tryz.prog) w ⟨b,off,sp⟩ [] (by simp)
   rw [run_convert_bytes_string w 23 9 5 _ 0 cap Tryz.underlying23 Tryz.underlying5 Tryz.underlying9,run_bytesToString w _ 0 cap [] (by simpa using hl)];rfl
 ·
  have hr:=run_convert_bytes_arg (P:=Tryz.prog) w 23 5 Tryz.underlying23 Tryz.underlying5 b off n cap (bs.map fun b=>(b.toNat:Int)) (by simpa using hn.symm) (fun i hi=>by
   rw [hc i (by omega)];unfold By.bv;simp [List.getD,List.getElem?_eq_getElem (show i < bs.length by omega)]) 9 Tryz.underlying9
  rw [hr,strOf]
def fC (bs:List UInt8) (most:Int) (s:St):ByteArray×St:=(str ((bs.take ((aR bs most s).2.at'+(aR bs most s).1.toNat)).drop (aR bs most s).2.at'),⟨(aR bs most s).2.at'+(aR bs most s).1.toNat,(aR bs most s).2.err⟩)
theorem iE (bs:List UInt8) (hi:Int) (s:St):0<=(aR bs hi s).1:=by
 unfold aR;split
 · exact Int.le_refl _
 · exact wZ bs hi s
theorem LW (h:s.at'<=bs.length):(aR bs most s).2.at'+(aR bs most s).1.toNat<=bs.length:=by
 have hp:=wZ bs most s;unfold aR;split
 ·
  show s.at'+0<=bs.length;omega
 · omega
theorem Uk (p:Nat) (ao:Option Addr) (n cap:Nat) (bs:List UInt8) (most:Int) (s:St) (w:World) (hR:Rd w p ao n cap bs s) :
  Calls Tryz.prog 143 #[.pointer (some ⟨p,0,none⟩),.int .i64 most] w fun e w'=>e=.returned (.string (fC bs most s).1)/\Rd w' p ao n cap bs (fC bs most s).2/\gF w p w':=by
 have HR:=Lh hR;have hcap:=hR.ls.reach;have hfit:=hR.ls.fits;have HLen:=Lh hR.ls.len;have hin:=LW (bs:=bs) (most:=most) (s:=s) (by rw [<- hR.ls.len];exact hR.place);have hpos:=iE bs most s;clear hR;go_enter Tryz.func143,Tryz.ntmps143;go_wp2_with fail;refine (nK p ao n cap bs most s w HR.out).mono ?_;rintro e w1 ⟨rfl,lD,uT⟩;obtain ⟨v,s1,hv⟩:∃ v s1,aR bs most s=(v,s1):=⟨_,_,rfl⟩;have HT:Hid (fC bs most s=(str ((bs.take (s1.at'+v.toNat)).drop s1.at'),⟨s1.at'+v.toNat,s1.err⟩)):=Lh (by unfold fC;rw [hv]);rw [hv] at lD hin hpos;rw [hv];dsimp only at lD hin hpos ⊢;obtain ⟨q,rfl⟩:∃ q:Nat,v=q:=⟨v.toNat,by omega⟩;rw [Int.toNat_natCast] at HT hin;obtain ⟨a1,e1⟩:=s1;dsimp only at hin HT;rw [<- HLen.out] at hin;obtain ⟨mO,cap2,hsl,hL2⟩:=lD.ls.mid a1 (a1+q) (by omega) hin;rw [show ((a1+q:Nat):Int)=(a1:Int)+(q:Int) from by omega,show a1+q - a1=q by omega] at hsl;rw [show a1+q - a1=q by omega] at hL2;have hstr:∀ (d:Nat) (os:Array Obj),(convert 23 9 (.slice mO q cap2)).run Tryz.prog (grow (redrawn w1 d) os)=.ok (.string (str ((bs.take (a1+q)).drop a1))) (grow (redrawn w1 d) os):=fun d os=>(hL2.below (below_regrown w1 d os)).str
 have k0:=cell_regrown lD.c0;have k1:=cell_regrown lD.c1;dsimp only at k1;have HR1:=Lh lD;have mQ:=Lh uT;obtain ⟨S,hS⟩:∃ S,str ((bs.take (a1+q)).drop a1)=S:=⟨_,rfl⟩;rw [hS] at hstr HT;clear lD uT hv hL2 hpos hS;go_wp2;refine wp_region_quiet_below (by kernel_rfl) (by kernel_rfl) ?_
 repeat (first | go_big_quiet_step (fail) | quiet_step (fail))
 refine wpQuiet_nil ?_;intro _ hw';obtain ⟨⟨dq,osq⟩,hw''⟩:=hw';subst hw'';have bq:=below_regrown w1 dq osq;have vY:=Lh (HR1.out.below bq);have Ic:=Lh (mQ.out.trans (gF.of p bq));clear k0 k1 bq hstr hsl;generalize grow (redrawn w1 dq) osq=x at *;have d1:=vY.out.c1;have df:=vY.out.fz;dsimp only at d1;go_wp2;go_ret;refine ⟨by rw [HT.out];rfl,?_,Ic.out.trans (gF.set _)⟩;rw [HT.out];have:=vY.out.at (a1+q) hin;simpa using this
def ql (bs:List UInt8) (s:St):Int×St:=if s.err=0/\s.at' < bs.length then (5,⟨s.at',5⟩) else (s.err,s)
theorem LX (h:s.err=0/\s.at' < bs.length):ql bs s=(5,⟨s.at',5⟩):=by unfold ql;rw [if_pos h]
theorem Bf (h: ¬ (s.err=0/\s.at' < bs.length)):ql bs s=(s.err,s):=by unfold ql;rw [if_neg h]
theorem Yg (p:Nat) (ao:Option Addr) (n cap:Nat) (bs:List UInt8) (s:St) (w:World) (hR:Rd w p ao n cap bs s) :
  Calls Tryz.prog 20 #[.pointer (some ⟨p,0,none⟩)] w fun e w'=>e=.returned (.int .i64 (ql bs s).1)/\Rd w' p ao n cap bs (ql bs s).2/\gF w p w':=by
 have HR:=Lh hR;have hcap:=hR.ls.reach;have hfit:=hR.ls.fits;have HLen:=Lh hR.ls.len;have hpl:=hR.place;have k0:=cell_regrown hR.c0;have k1:=cell_regrown hR.c1;have k2:=cell_regrown hR.c2;obtain ⟨a,er⟩:=s;dsimp only at k1 k2 hpl;clear hR;by_cases he:er=0
 ·
  subst he;by_cases hlt:a < n
  ·
   have HN:Hid (ql bs ⟨a,0⟩=(5,⟨a,5⟩)):=Lh (LX ⟨rfl,by rw [<- HLen.out];exact hlt⟩);go_enter Tryz.func20,Tryz.ntmps20;go_wp2;refine wp_region_quiet_below (by kernel_rfl) (by kernel_rfl) ?_
   repeat (first | go_big_quiet_step (fail) | quiet_step (fail))
   refine wpQuiet_nil ?_;intro _ hw';obtain ⟨⟨dq,osq⟩,hw''⟩:=hw';subst hw'';have bq:=below_regrown w dq osq;have vY:=Lh (HR.out.below bq);have Ic:=Lh (gF.of p bq);clear k0 k1 k2 bq;generalize grow (redrawn w dq) osq=x at *;have d2:=vY.out.c2;have df:=vY.out.fz;dsimp only at d2;go_wp2;go_ret;refine ⟨by rw [HN.out];rfl,?_,Ic.out.trans (gF.set _)⟩;rw [HN.out];exact vY.out.wrong 5
  ·
   have HN:Hid (ql bs ⟨a,0⟩=(0,⟨a,0⟩)):=Lh (Bf (fun h=>hlt (by rw [HLen.out];exact h.2)));go_enter Tryz.func20,Tryz.ntmps20;go_wp2;refine wp_region_quiet_below (by kernel_rfl) (by kernel_rfl) ?_
   repeat (first | go_big_quiet_step (fail) | quiet_step (fail))
   refine wpQuiet_nil ?_;intro _ hw';obtain ⟨⟨dq,osq⟩,hw''⟩:=hw';subst hw'';have bq:=below_regrown w dq osq;have vY:=Lh (HR.out.below bq);have Ic:=Lh (gF.of p bq);clear k0 k1 k2 bq;generalize grow (redrawn w dq) osq=x at *;have d2:=vY.out.c2;dsimp only at d2;go_wp2;go_ret;exact ⟨by rw [HN.out];rfl,by rw [HN.out];exact vY.out,Ic.out⟩
 ·
  have HN:Hid (ql bs ⟨a,er⟩=(er,⟨a,er⟩)):=Lh (Bf (fun h=>he h.1));have q0:(er==0)=false:=beq_eq_false_iff_ne.2 he;go_enter Tryz.func20,Tryz.ntmps20;go_wp2;refine wp_region_quiet_below (by kernel_rfl) (by kernel_rfl) ?_
  repeat (first | go_big_quiet_step (fail) | quiet_step (fail))
  refine wpQuiet_nil ?_;intro _ hw';obtain ⟨⟨dq,osq⟩,hw''⟩:=hw';subst hw'';have bq:=below_regrown w dq osq;have vY:=Lh (HR.out.below bq);have Ic:=Lh (gF.of p bq);clear k0 k1 k2 bq;generalize grow (redrawn w dq) osq=x at *;have d2:=vY.out.c2;dsimp only at d2;go_wp2;go_ret;exact ⟨by rw [HN.out];rfl,by rw [HN.out];exact vY.out,Ic.out⟩
end Go.Proofs.YtpfdnemaaeolcaaGreat
namespace Go.Proofs.YtpfdnemaaeolcaaGreat.Ln
open Go.RowKit
open Mem
structure T where
 text:ByteArray
 category:ByteArray
 count:Int
 price:Int
def val (r:T):Value:=.agg #[.string r.text,.string r.category,.int .i64 r.count,.int .i64 r.price]
def Short (r:T):Prop:=r.text.size<=140737488355328/\r.category.size<=140737488355328/\Fit r.count/\Fit r.price
def box (w:World) (r:T):World:=w.alloc (.cells #[.string r.text,.string r.category,.int .i64 r.count,.int .i64 r.price] 230)
def C (u:World) (b:Nat) (r:T):Prop :=
 u.cell? ⟨b,0,none⟩=some (.string r.text)/\u.cell? ⟨b,1,none⟩=some (.string r.category)/\u.cell? ⟨b,2,none⟩=some (.int .i64 r.count)/\u.cell? ⟨b,3,none⟩=some (.int .i64 r.price)
theorem C.below {u:World} {r:T} (h:C u b r) (k:Below u.heap.size u v):C v b r:=by
 obtain ⟨h0,h1,h2,h3⟩:=h;have hl:=aH h0;unfold C;rw [(aD k).1 _ _ hl,(aD k).1 _ _ hl,(aD k).1 _ _ hl,(aD k).1 _ _ hl];exact ⟨h0,h1,h2,h3⟩
theorem dO (w:World) (r:T):C (box w r) w.heap.size r:=by
 unfold box C;simp [go_sem]
theorem aC (w:World) (r:T):Below w.heap.size w (box w r):=(Below.refl _ _).alloc (Nat.le_refl _) _
theorem bZ (w:World) (a:T):∃ W,w.alloc (.cells #[.string a.text,.string a.category,.int .i64 a.count,.int .i64 a.price] 230)=W/\Below w.heap.size w W/\C W w.heap.size a :=
 ⟨_,rfl,aC w a,dO w a⟩
structure At (u:World) (b o:Nat) (r:T):Prop where
 c0:u.cell? ⟨b,o,none⟩=some (.string r.text)
 c1:u.cell? ⟨b,o+1,none⟩=some (.string r.category)
 c2:u.cell? ⟨b,o+2,none⟩=some (.int .i64 r.count)
 c3:u.cell? ⟨b,o+3,none⟩=some (.int .i64 r.price)
theorem At.below {u:World} {r:T} (h:At u b o r) (k:Below u.heap.size u v):At v b o r:=by
 have hl:=aH h.c0;exact ⟨by rw [(aD k).1 _ _ hl];exact h.c0,by rw [(aD k).1 _ _ hl];exact h.c1,by rw [(aD k).1 _ _ hl];exact h.c2,by rw [(aD k).1 _ _ hl];exact h.c3⟩
def Seg (w:World) (ao:Option Addr) (rs:List T):Prop:=rs=[]\/∃ b off,ao=some ⟨b,off,none⟩/\∀ (k:Nat) (hk:k < rs.length),At w b (off+k*4) rs[k]
theorem Seg.below {w v:World} {ao:Option Addr} {rs:List T} (h:Seg w ao rs) (k:Below w.heap.size w v):Seg v ao rs:=by
 rcases h with h | ⟨b,off,e,h⟩
 · exact .inl h
 · exact .inr ⟨b,off,e,fun i hi=>(h i hi).below k⟩
structure Ls (w:World) (ao:Option Addr) (n cap:Nat) (rs:List T):Prop where
 len:n=rs.length
 fits:n<=cap
 reach:cap<=9223372036854775807
 nil:ao=none->cap=0
 seg:Seg w ao rs
 short:∀ r∈rs,Short r
theorem Ls.below {w v:World} {ao:Option Addr} {n cap:Nat} {rs:List T} (h:Ls w ao n cap rs) (k:Below w.heap.size w v):Ls v ao n cap rs :=
 ⟨h.len,h.fits,h.reach,h.nil,h.seg.below k,h.short⟩
theorem Ls.at {w:World} {ao:Option Addr} {n cap:Nat} {rs:List T} (h:Ls w ao n cap rs) (hn:0 < n):∃ b off,ao=some ⟨b,off,none⟩:=by
 rcases h.seg with e | ⟨b,off,e,_⟩
 ·
  have:=h.len;rw [e] at this;simp at this;omega
 · exact ⟨b,off,e⟩
theorem Ls.row {rs:List T} (h:Ls w (some ⟨b,off,none⟩) n cap rs) (k:Nat) (hk:k < rs.length):At w b (off+k*4) rs[k]:=by
 rcases h.seg with e | ⟨b',off',e,hs⟩
 ·
  subst e;simp at hk
 ·
  cases e
  exact hs k hk
theorem dL (w:World):Ls w none 0 0 []:=⟨rfl,Nat.le_refl _,by omega,fun _=>rfl,.inl rfl,by simp⟩
theorem und:Tryz.prog.underlying 53=some (.slice (Tryz.prog.elem 53)):=by kernel_rfl
theorem size (u:World):(sizeOf (Tryz.prog.elem 53)).run Tryz.prog u=.ok 4 u:=by
 have h:(Tryz.prog.info? (Tryz.prog.elem 53)).map (·.size)=some 4:=by kernel_rfl
 obtain ⟨i,hi,hs⟩:=Option.map_eq_some_iff.1 h;simp [sizeOf,typeInfo,hi,hs]
theorem Ls.to {rs:List T} (h:Ls w ao n cap rs) (k:Nat) (hk:k<=n) :
  (∀ u,(Instr.slice 53 (.slice ao n cap) none (some (.int .i64 (k:Int))) none).run Tryz.prog u=.ok (.slice ao k cap) u)/\Ls w ao k cap (rs.take k):=by
 have hl:=h.len;have hf:=h.fits;refine ⟨fun u=>?_,⟨by rw [List.length_take];omega,by omega,h.reach,h.nil,?_,fun r hr=>h.short r (List.mem_of_mem_take hr)⟩⟩
 ·
  rw [run_slice_h u 53 ao n cap und .i64 k (by omega) (by omega),size];have e:Option.map (fun x:Addr=>x.add 0) ao=ao:=by cases ao <;> simp [Addr.add]
  simp [Result.andThen,sliced,e]
 ·
  rcases h.seg with e | ⟨b,off,e,hc⟩
  · exact .inl (by rw [e];simp)
  ·
   refine .inr ⟨b,off,e,fun j hj=>?_⟩;rw [List.length_take] at hj;rw [List.getElem_take];exact hc j (by omega)
def rv (r:T):List Value:=[.string r.text,.string r.category,.int .i64 r.count,.int .i64 r.price]
def zero:T:=⟨.empty,.empty,0,0⟩
end Go.Proofs.YtpfdnemaaeolcaaGreat.Ln
namespace Go.Proofs.YtpfdnemaaeolcaaGreat.Cm
open Pk
def nm (n:Int):List UInt8:=vb (zz n)
def tx (b:ByteArray):List UInt8:=nm (b.size:Int)++txt b
def pW (y m d:Int):List UInt8:=nm y++(nm m++nm d)
def qo (bs:List UInt8) (s:St):(Int×Int×Int)×St :=
 (((bH bs s).1,(bH bs (bH bs s).2).1,(bH bs (bH bs (bH bs s).2).2).1),(bH bs (bH bs (bH bs s).2).2).2)
def s0:St:=⟨0,0⟩
def nD (bs:List UInt8) (s:St) (r:List UInt8):Prop:=s.err=0/\bs.drop s.at'=r
theorem yK (n:Int):1<=(nm n).length:=CS
variable {s:St}
theorem fO {n:Int} (h:nD bs s (nm n++r)) (hn:Fit n):(bH bs s).1=n/\nD bs (bH bs s).2 r:=by
 have hk:num (bs.drop s.at')=.inr (zz n,wd (zz n)):=by rw [h.2];exact Pb (O8 hn) r
 rw [xW h.1 hk];refine ⟨uz_zz n,rfl,?_⟩;show bs.drop (s.at'+wd (zz n))=r;rw [<- List.drop_drop,h.2];exact List.drop_left' rfl
theorem fP (h:nD bs (bH bs s).2 r):nD bs s (nm (bH bs s).1++r):=by
 by_cases he:s.err=0
 ·
  cases hn:num (bs.drop s.at') with
  | inl e =>
   rw [EA he hn] at h;exfalso;have h1:e=0:=h.1;subst h1
   have hne:∀ (l:List UInt8) (k u:Nat),rd k u l≠.inl 0:=by
    intro l
    induction l with
    | nil=>intro k u h;rw [Hy] at h;cases h
    | cons x l ih =>
     intro k u h;rw [rd] at h;split at h
     · cases h
     ·
      split at h
      · exact ih _ _ h
      ·
       split at h
       · cases h
       · cases h
   exact hne _ _ _ hn
  | inr q =>
   obtain ⟨u,z⟩:=q;rw [xW he hn] at h ⊢;obtain ⟨h1,h2,h3,_⟩:=Hz hn;refine ⟨he,?_⟩;show bs.drop s.at'=nm (uz u)++r;unfold nm;rw [zz_uz,h1,List.drop_drop,<- h.2]
 ·
  rw [yJ he] at h;exact absurd h.1 he
theorem Bg (h:nD bs s (nm (k:Int)++r)) (hk:(k:Int)<=most) (hm:most<=1000) (hr:k<=r.length):(aR bs most s).1=k/\nD bs (aR bs most s).2 r:=by
 have hf:Fit (k:Int):=⟨by omega,by omega⟩;obtain ⟨h1,h2⟩:=fO h hf;have hw:bS bs 0 most s=bH bs s:=tL h2.1 (by rw [h1];omega);have hl:=congrArg List.length h.2;rw [List.length_append,List.length_drop] at hl;have hp:=yK (k:Int);have hl2:=congrArg List.length h2.2;rw [List.length_drop] at hl2;have hn:num (bs.drop s.at')=.inr (zz (k:Int),wd (zz (k:Int))):=by rw [h.2];exact Pb (O8 hf) r
 have ha:(bH bs s).2.at'=s.at'+(nm (k:Int)).length:=by rw [xW h.1 hn];rfl
 have hc:aR bs most s=bH bs s:=by
  rw [vZ (by rw [hw,h1,ha];omega),hw]
 rw [hc];exact ⟨h1,h2⟩
theorem Bh (h:nD bs (aR bs most s).2 r):nD bs s (nm (aR bs most s).1++r)/\0<=(aR bs most s).1/\(aR bs most s).1<=most/\(aR bs most s).1<=(r.length:Int):=by
 by_cases hb:(bs.length:Int) - ((bS bs 0 most s).2.at':Int) < (bS bs 0 most s).1
 ·
  rw [uU hb] at h;cases h.1
 ·
  rw [vZ hb] at h ⊢;by_cases he:(bH bs s).2.err=0
  ·
   by_cases hlo:(bH bs s).1 < 0\/most < (bH bs s).1
   ·
    rw [uS he hlo] at h;cases h.1
   ·
    rw [tL he hlo] at h hb ⊢;have h2:=h.2;have hl:=congrArg List.length h2;rw [List.length_drop] at hl;exact ⟨fP h,by omega,by omega,by omega⟩
  ·
   rw [sP he] at h;exact absurd h.1 he
theorem Ul (t:ByteArray):str (txt t)=t:=rfl
theorem Ki (l:List UInt8):txt (str l)=l:=rfl
theorem qp {t:ByteArray} (h:nD bs s (tx t++r)) (ht:t.size<=64):(fC bs 64 s).1=t/\nD bs (fC bs 64 s).2 r:=by
 unfold tx at h;rw [List.append_assoc] at h;obtain ⟨h1,h2⟩:=Bg (most:=64) h (by omega) (by omega) (by rw [List.length_append,dX];omega)
 have ha:(bs.take ((aR bs 64 s).2.at'+t.size)).drop (aR bs 64 s).2.at'=txt t:=by
  rw [List.drop_take,h2.2,show (aR bs 64 s).2.at'+t.size - (aR bs 64 s).2.at'=t.size by omega];exact List.take_left' (dX t)
 unfold fC;rw [h1,Int.toNat_natCast,ha];refine ⟨Ul t,h2.1,?_⟩;show bs.drop ((aR bs 64 s).2.at'+t.size)=r;rw [<- List.drop_drop,h2.2];exact List.drop_left' (dX t)
theorem qw (h:nD bs (fC bs 64 s).2 r):nD bs s (tx (fC bs 64 s).1++r)/\(fC bs 64 s).1.size<=64:=by
 have he:(aR bs 64 s).2.err=0:=h.1;obtain ⟨h1,h2,h3,h4⟩:=Bh (bs:=bs) (s:=s) (most:=64) (r:=bs.drop (aR bs 64 s).2.at') ⟨he,rfl⟩;obtain ⟨q,hq⟩:∃ q:Nat,(aR bs 64 s).1=q:=⟨(aR bs 64 s).1.toNat,by omega⟩
 have hd:bs.drop ((aR bs 64 s).2.at'+q)=r:=by
  have:=h.2;unfold fC at this;rw [hq,Int.toNat_natCast] at this;exact this
 unfold fC;rw [hq,Int.toNat_natCast];rw [hq] at h1 h3 h4
 have hs:(bs.take ((aR bs 64 s).2.at'+q)).drop (aR bs 64 s).2.at'=(bs.drop (aR bs 64 s).2.at').take q:=by
  rw [List.drop_take,show (aR bs 64 s).2.at'+q - (aR bs 64 s).2.at'=q by omega]
 rw [hs]
 have hsz:(str ((bs.drop (aR bs 64 s).2.at').take q)).size=q:=by
  rw [<- dX,Ki,List.length_take];omega
 show nD bs s (tx (str ((bs.drop (aR bs 64 s).2.at').take q))++r)/\(str ((bs.drop (aR bs 64 s).2.at').take q)).size<=64;refine ⟨?_,by omega⟩;unfold tx;rw [hsz,Ki,List.append_assoc,<- hd,<- List.drop_drop,List.take_append_drop];exact h1
theorem Kj {y m d:Int} (h:nD bs s (pW y m d++r)) (hy:Fit y) (hm:Fit m) (hd:Fit d):(qo bs s).1=(y,m,d)/\nD bs (qo bs s).2 r:=by
 unfold pW at h;simp only [List.append_assoc] at h;obtain ⟨a1,a2⟩:=fO h hy;obtain ⟨b1,b2⟩:=fO a2 hm;obtain ⟨c1,c2⟩:=fO b2 hd;unfold qo;rw [a1,b1,c1];exact ⟨rfl,c2⟩
theorem Kk (h:nD bs (qo bs s).2 r):nD bs s (pW (qo bs s).1.1 (qo bs s).1.2.1 (qo bs s).1.2.2++r):=by
 have h3:=fP h;have h2:=fP h3;have h1:=fP h2;unfold pW;simp only [List.append_assoc];exact h1
end Go.Proofs.YtpfdnemaaeolcaaGreat.Cm
namespace Go.Proofs.YtpfdnemaaeolcaaGreat.Sr
open Go.RowKit
open Mem
structure T where
 name:ByteArray
 next:Int
 limit:Int
 shut:Bool
def val (r:T):Value:=.agg #[.string r.name,.int .i64 r.next,.int .i64 r.limit,.bool r.shut]
def Short (r:T):Prop:=r.name.size<=140737488355328/\Fit r.next/\Fit r.limit
def box (w:World) (r:T):World:=w.alloc (.cells #[.string r.name,.int .i64 r.next,.int .i64 r.limit,.bool r.shut] 77)
def C (u:World) (b:Nat) (r:T):Prop :=
 u.cell? ⟨b,0,none⟩=some (.string r.name)/\u.cell? ⟨b,1,none⟩=some (.int .i64 r.next)/\u.cell? ⟨b,2,none⟩=some (.int .i64 r.limit)/\u.cell? ⟨b,3,none⟩=some (.bool r.shut)
theorem C.below {u:World} {r:T} (h:C u b r) (k:Below u.heap.size u v):C v b r:=by
 obtain ⟨h0,h1,h2,h3⟩:=h;have hl:=aH h0;unfold C;rw [(aD k).1 _ _ hl,(aD k).1 _ _ hl,(aD k).1 _ _ hl,(aD k).1 _ _ hl];exact ⟨h0,h1,h2,h3⟩
theorem dO (w:World) (r:T):C (box w r) w.heap.size r:=by
 unfold box C;simp [go_sem]
theorem dh (w:World) (r:T):(box w r).heap.size=w.heap.size+1:=by
 unfold box
 simp
theorem aC (w:World) (r:T):Below w.heap.size w (box w r):=(Below.refl _ _).alloc (Nat.le_refl _) _
theorem bZ (w:World) (a:T):∃ W,w.alloc (.cells #[.string a.name,.int .i64 a.next,.int .i64 a.limit,.bool a.shut] 77)=W/\Below w.heap.size w W/\C W w.heap.size a :=
 ⟨_,rfl,aC w a,dO w a⟩
structure At (u:World) (b o:Nat) (r:T):Prop where
 c0:u.cell? ⟨b,o,none⟩=some (.string r.name)
 c1:u.cell? ⟨b,o+1,none⟩=some (.int .i64 r.next)
 c2:u.cell? ⟨b,o+2,none⟩=some (.int .i64 r.limit)
 c3:u.cell? ⟨b,o+3,none⟩=some (.bool r.shut)
theorem At.below {u:World} {r:T} (h:At u b o r) (k:Below u.heap.size u v):At v b o r:=by
 have hl:=aH h.c0;exact ⟨by rw [(aD k).1 _ _ hl];exact h.c0,by rw [(aD k).1 _ _ hl];exact h.c1,by rw [(aD k).1 _ _ hl];exact h.c2,by rw [(aD k).1 _ _ hl];exact h.c3⟩
def Seg (w:World) (ao:Option Addr) (rs:List T):Prop:=rs=[]\/∃ b off,ao=some ⟨b,off,none⟩/\∀ (k:Nat) (hk:k < rs.length),At w b (off+k*4) rs[k]
theorem Seg.below {w v:World} {ao:Option Addr} {rs:List T} (h:Seg w ao rs) (k:Below w.heap.size w v):Seg v ao rs:=by
 rcases h with h | ⟨b,off,e,h⟩
 · exact .inl h
 · exact .inr ⟨b,off,e,fun i hi=>(h i hi).below k⟩
structure Ls (w:World) (ao:Option Addr) (n cap:Nat) (rs:List T):Prop where
 len:n=rs.length
 fits:n<=cap
 reach:cap<=9223372036854775807
 nil:ao=none->cap=0
 seg:Seg w ao rs
 short:∀ r∈rs,Short r
theorem Ls.below {w v:World} {ao:Option Addr} {n cap:Nat} {rs:List T} (h:Ls w ao n cap rs) (k:Below w.heap.size w v):Ls v ao n cap rs :=
 ⟨h.len,h.fits,h.reach,h.nil,h.seg.below k,h.short⟩
theorem Ls.at {w:World} {ao:Option Addr} {n cap:Nat} {rs:List T} (h:Ls w ao n cap rs) (hn:0 < n):∃ b off,ao=some ⟨b,off,none⟩:=by
 rcases h.seg with e | ⟨b,off,e,_⟩
 ·
  have:=h.len;rw [e] at this;simp at this;omega
 · exact ⟨b,off,e⟩
theorem Ls.row {rs:List T} (h:Ls w (some ⟨b,off,none⟩) n cap rs) (k:Nat) (hk:k < rs.length):At w b (off+k*4) rs[k]:=by
 rcases h.seg with e | ⟨b',off',e,hs⟩
 ·
  subst e;simp at hk
 ·
  cases e
  exact hs k hk
theorem dL (w:World):Ls w none 0 0 []:=⟨rfl,Nat.le_refl _,by omega,fun _=>rfl,.inl rfl,by simp⟩
theorem und:Tryz.prog.underlying 25=some (.slice (Tryz.prog.elem 25)):=by kernel_rfl
theorem size (u:World):(sizeOf (Tryz.prog.elem 25)).run Tryz.prog u=.ok 4 u:=by
 have h:(Tryz.prog.info? (Tryz.prog.elem 25)).map (·.size)=some 4:=by kernel_rfl
 obtain ⟨i,hi,hs⟩:=Option.map_eq_some_iff.1 h;simp [sizeOf,typeInfo,hi,hs]
theorem Ls.to {rs:List T} (h:Ls w ao n cap rs) (k:Nat) (hk:k<=n) :
  (∀ u,(Instr.slice 25 (.slice ao n cap) none (some (.int .i64 (k:Int))) none).run Tryz.prog u=.ok (.slice ao k cap) u)/\Ls w ao k cap (rs.take k):=by
 have hl:=h.len;have hf:=h.fits;refine ⟨fun u=>?_,⟨by rw [List.length_take];omega,by omega,h.reach,h.nil,?_,fun r hr=>h.short r (List.mem_of_mem_take hr)⟩⟩
 ·
  rw [run_slice_h u 25 ao n cap und .i64 k (by omega) (by omega),size];have e:Option.map (fun x:Addr=>x.add 0) ao=ao:=by cases ao <;> simp [Addr.add]
  simp [Result.andThen,sliced,e]
 ·
  rcases h.seg with e | ⟨b,off,e,hc⟩
  · exact .inl (by rw [e];simp)
  ·
   refine .inr ⟨b,off,e,fun j hj=>?_⟩;rw [List.length_take] at hj;rw [List.getElem_take];exact hc j (by omega)
theorem Ls.from {rs:List T} (h:Ls w ao n cap rs) (k:Nat) (hk:k<=n) :
  ∃ mO cap2,(∀ u,(Instr.slice 25 (.slice ao n cap) (some (.int .i64 (k:Int))) none none).run Tryz.prog u=.ok (.slice mO (n - k) cap2) u)/\Ls w mO (n - k) cap2 (rs.drop k):=by
 have hl:=h.len;have hf:=h.fits;refine ⟨if cap=k then ao else ao.map (·.add (k*4)),cap - k,fun u=>?_,⟨by rw [List.length_drop];omega,by omega,by have:=h.reach;omega,?_,?_,fun r hr=>h.short r (List.mem_of_mem_drop hr)⟩⟩
 ·
  rw [run_slice_l u 25 ao n cap und .i64 k (by omega) (by omega),size];simp [Result.andThen,sliced]
 ·
  by_cases e:cap=k
  · omega
  ·
   rw [if_neg e];cases ao with
   | none=>have:=h.nil rfl;omega
   | some a=>exact fun k=>by cases k
 ·
  by_cases hkn:k=n
  · exact .inl (List.drop_eq_nil_of_le (by omega))
  ·
   rcases h.seg with e | ⟨b,off,rfl,hc⟩
   · exact .inl (by rw [e];simp)
   ·
    refine .inr ⟨b,off+k*4,?_,fun j hj=>?_⟩
    ·
     rw [if_neg (by omega)];unfold Addr.add;simp only [Option.map_some,Option.some.injEq];split
     ·
      rename_i e;rw [e];rfl
     · rfl
    ·
     rw [List.length_drop] at hj;rw [List.getElem_drop,show off+k*4+j*4=off+(k+j)*4 by omega];exact hc (k+j) (by omega)
end Go.Proofs.YtpfdnemaaeolcaaGreat.Sr
