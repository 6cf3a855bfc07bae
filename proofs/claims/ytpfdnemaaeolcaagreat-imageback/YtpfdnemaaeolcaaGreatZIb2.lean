import Derived.WalkKit
import Derived.Laws.Runes
import Derived.Maps.AppendAt
import Derived.Laws.AppendOwnNone
import Derived.Laws.Rows
import Derived.RegionTactic
import Derived.Lib.MapLaws
import Derived.Test.YtpfdnemaaeolcaaGreatZIb1
variable {s a b c:ByteArray} {y m n d x z:Int} {w u:Go.World} {B cap off o:Nat} {v:Go.Value}
set_option maxHeartbeats 8000000
namespace Go.Proofs.YtpfdnemaaeolcaaGreat.Dt
def yL (y:Int):Bool:=decide (y % 4=0/\(y % 100≠0\/y % 400=0))
def lp (y:Int):Int:=if yL y=true then 1 else 0
theorem Kl (y:Int):0<=lp y/\lp y<=1:=by
 unfold lp;split <;> omega
theorem Um (h:yL y=true):lp y=1:=if_pos h
theorem Pg (h:yL y=false):lp y=0:=if_neg (by rw [h];simp)
theorem qx (y:Int):yL y=true↔y % 4=0/\(y % 100≠0\/y % 400=0):=decide_eq_true_iff
def len (y m:Int):Int:=if m=2 then 28+lp y else if m=4\/m=6\/m=9\/m=11 then 30 else if 1<=m/\m<=12 then 31 else 0
theorem Xm (y:Int):len y 2=28+lp y:=if_pos rfl
theorem Yh (h:m=4\/m=6\/m=9\/m=11):len y m=30:=by
 unfold len;rw [if_neg (by omega),if_pos h]
theorem Yi (h:m=1\/m=3\/m=5\/m=7\/m=8\/m=10\/m=12):len y m=31:=by
 unfold len;rw [if_neg (by omega),if_neg (by omega),if_pos (by omega)]
theorem Xn (h:m < 1\/12 < m):len y m=0:=by
 unfold len;rw [if_neg (by omega),if_neg (by omega),if_neg (by omega)]
theorem Ph (y m:Int):0<=len y m/\len y m<=31:=by
 have:=Kl y;unfold len;split
 · omega
 ·
  split
  · omega
  · split <;> omega
theorem Yj (h0:1<=m) (h1:m<=12):28<=len y m:=by
 have:=Kl y;unfold len;split
 · omega
 ·
  split
  · omega
  · rw [if_pos ⟨h0,h1⟩];omega
theorem LY (h:1<=len y m):1<=m/\m<=12:=by
 by_cases h1:m < 1\/12 < m
 · rw [Xn h1] at h;omega
 · omega
def Ie (y m:Int):Int :=
 (if m<=1 then 0 else if m=2 then 31 else if m=3 then 59 else if m=4 then 90 else if m=5 then 120 else if m=6 then 151 else if m=7 then 181 else if m=8 then 212 else if m=9 then 243 else if m=10 then 273 else if m=11 then 304 else if m=12 then 334 else 365)
  + (if m<=2 then 0 else lp y)
theorem Xo (y:Int):Ie y 1=0:=rfl
theorem Pj (y:Int):Ie y 13=365+lp y:=rfl
theorem yM (y m:Int) (h0:1<=m) (h1:m<=12):Ie y (m+1)=Ie y m+len y m:=by
 have h:m=1\/m=2\/m=3\/m=4\/m=5\/m=6\/m=7\/m=8\/m=9\/m=10\/m=11\/m=12:=by omega
 rcases h with rfl | rfl | rfl | rfl | rfl | rfl | rfl | rfl | rfl | rfl | rfl | rfl <;> simp [Ie,len] <;> omega
theorem EC (y m:Int):∀ (k:Nat),1<=m->m+k<=13->Ie y m+28*k<=Ie y (m+k)
 | 0,_,_=>by simp
 | k+1,h0,h1=>by
  have h:=EC y m k h0 (by omega);have h2:=yM y (m+k) (by omega) (by omega);have h3:=Yj (y:=y) (show 1<=m+(k:Int) by omega) (show m+(k:Int)<=12 by omega);have e:m+((k+1:Nat):Int)=m+k+1:=by omega
  rw [e,h2];omega
theorem CW (h0:1<=m) (h1:m<=n) (h2:n<=13):Ie y m<=Ie y n:=by
 have h:=EC y m (n - m).toNat h0 (by omega);rw [show m+((n - m).toNat:Int)=n by omega] at h;omega
theorem Ig (h0:1<=m) (h1:m<=13):0<=Ie y m/\Ie y m<=366:=by
 have h:=CW (y:=y) (show (1:Int)<=1 by omega) h0 h1;have h2:=CW (y:=y) h0 h1 (show (13:Int)<=13 by omega);rw [Xo] at h;rw [Pj] at h2;have:=Kl y;omega
def yd (y:Int):Int:=365*(y - 1)+(y - 1) / 4 - (y - 1) / 100+(y - 1) / 400
theorem yd_1:yd 1=0:=rfl
theorem Un:yd 10000=3652059:=rfl
theorem Km (y:Int):yd (y+1)=yd y+365+lp y:=by
 unfold yd lp;split
 ·
  rename_i h;rw [qx] at h;omega
 ·
  rename_i h;rw [qx] at h;omega
theorem Kn (y:Int):∀ (k:Nat),yd y+365*k<=yd (y+k)
 | 0=>by simp
 | k+1=>by
  have h:=Kn y k;have h2:=Km (y+k);have:=Kl (y+k);have e:y+((k+1:Nat):Int)=y+k+1:=by omega
  rw [e,h2];omega
theorem Pm (h:y<=z):yd y+365*(z - y)<=yd z:=by
 have h1:=Kn y (z - y).toNat;rw [show y+((z - y).toNat:Int)=z by omega] at h1;omega
theorem Pn (h0:1<=y) (h1:y<=10000):0<=yd y/\yd y<=3652059:=by
 have h2:=Pm h0;have h3:=Pm h1;rw [yd_1] at h2;rw [Un] at h3;omega
def aA (y m d:Int):Bool:=decide (1<=y/\y<=9999/\1<=d/\d<=len y m)
theorem aJ (y m d:Int):aA y m d=true↔1<=y/\y<=9999/\1<=d/\d<=len y m:=decide_eq_true_iff
theorem qy (h:aA y m d=true):1<=y/\y<=9999/\1<=m/\m<=12/\1<=d/\d<=31:=by
 obtain ⟨h1,h2,h3,h4⟩:=(aJ y m d).1 h;have h5:=LY (y:=y) (m:=m) (by omega);have h6:=Ph y m;omega
def num (y m d:Int):Int:=yd y+Ie y m+d - 1
def days (y m d:Int):Int:=if aA y m d=true then num y m d else -1
theorem lZ (h:aA y m d=true):days y m d=num y m d:=if_pos h
theorem Pp (h:aA y m d=false):days y m d= -1:=if_neg (by rw [h];simp)
theorem Ih (h:aA y m d=true):yd y+Ie y m<=num y m d/\num y m d < yd y+Ie y (m+1)/\num y m d < yd (y+1):=by
 obtain ⟨h1,h2,h3,h4⟩:=(aJ y m d).1 h;obtain ⟨_,_,h5,h6,_,_⟩:=qy h;have h7:=yM y m h5 h6;have h8:=CW (y:=y) (show 1<=m+1 by omega) (show m+1<=13 by omega) (show (13:Int)<=13 by omega);rw [Pj] at h8;have h9:=Km y;unfold num;omega
theorem Yk (h:aA y m d=true):0<=num y m d/\num y m d<=3652058:=by
 obtain ⟨h1,h2,h3,h4,_,_⟩:=qy h;have h5:=Pn h1 (show y<=10000 by omega);have h6:=Ig (y:=y) h3 (show m<=13 by omega);have h7:=Ih h;have h8:=Pn (show 1<=y+1 by omega) (show y+1<=10000 by omega);omega
def Lex (y m d z n e:Int):Prop:=y < z\/(y=z/\(m < n\/(m=n/\d < e)))
theorem lex_lt {e:Int} (ha:aA y m d=true) (hb:aA z n e=true) (h:Lex y m d z n e):num y m d < num z n e:=by
 have h1:=Ih ha;have h2:=Ih hb;obtain ⟨_,_,a3,a4,_,_⟩:=qy ha;obtain ⟨_,_,b3,b4,_,_⟩:=qy hb;rcases h with h | ⟨rfl,h | ⟨rfl,h⟩⟩
 ·
  have h3:=Pm (show y+1<=z by omega);have h4:=Ig (y:=z) b3 (show n<=13 by omega);omega
 ·
  have h3:=CW (y:=y) (show 1<=m+1 by omega) (show m+1<=n by omega) (show n<=13 by omega);omega
 ·
  unfold num;omega
theorem LZ (y m d z n e:Int):Lex y m d z n e\/(y=z/\m=n/\d=e)\/Lex z n e y m d:=by
 unfold Lex;omega
theorem xX {e:Int} (ha:aA y m d=true) (hb:aA z n e=true) (h:num y m d=num z n e):y=z/\m=n/\d=e:=by
 rcases LZ y m d z n e with h1 | h1 | h1
 ·
  have:=lex_lt ha hb h1;omega
 · exact h1
 ·
  have:=lex_lt hb ha h1;omega
def isDig (b:UInt8):Bool:=decide (48<=b.toNat/\b.toNat<=57)
theorem wm (a b:UInt8) (x y:List UInt8):Op.bytesLess (a::x) (b::y)=true↔a < b\/(a=b/\Op.bytesLess x y=true):=by
 simp [Op.bytesLess]
theorem L6 (a:UInt8) (x y:List UInt8):Op.bytesLess (a::x) (a::y)=true↔Op.bytesLess x y=true:=by
 simp [Op.bytesLess]
theorem ED (x:List UInt8):Op.bytesLess x []=false:=by
 cases x <;> rfl
end Go.Proofs.YtpfdnemaaeolcaaGreat.Dt
namespace Go.Proofs.YtpfdnemaaeolcaaGreat.Rn
open Go.Lib
theorem dw (l:List UInt8):1<=(decodeL l).2:=decodeL_width l
theorem dle (l:List UInt8) (h:l≠[]):(decodeL l).2<=l.length:=decodeL_le l h
def oF:Nat->List UInt8->List Nat
 | 0,_=>[]
 | f+1,l=>if l=[] then [] else (decodeL l).1::oF f (l.drop (decodeL l).2)
def runes (l:List UInt8):List Nat:=oF l.length l
theorem xg:∀ (n m:Nat) (l:List UInt8),l.length<=n->l.length<=m->oF n l=oF m l
 | 0,0,_,_,_=>rfl
 | 0,m+1,l,hn,_=>by
  have:l=[]:=List.eq_nil_of_length_eq_zero (by omega);simp [oF,this]
 | n+1,0,l,_,hm=>by
  have:l=[]:=List.eq_nil_of_length_eq_zero (by omega);simp [oF,this]
 | n+1,m+1,l,hn,hm=>by
  by_cases hne:l=[]
  · simp [oF,hne]
  ·
   have hw:=dw l;have hl:0 < l.length:=List.length_pos_iff.2 hne;simp only [oF,if_neg hne];rw [xg n m _ (by rw [List.length_drop];omega) (by rw [List.length_drop];omega)]
theorem Ii (l:List UInt8) (hne:l≠[]):runes l=(decodeL l).1::runes (l.drop (decodeL l).2):=by
 have hw:=dw l;have hl:0 < l.length:=List.length_pos_iff.2 hne;unfold runes;obtain ⟨n,hn⟩:∃ n,l.length=n+1:=⟨l.length - 1,by omega⟩;rw [hn];simp only [oF,if_neg hne];rw [xg n _ _ (by rw [List.length_drop];omega) (Nat.le_refl _)]
def letter (r:Int):Bool:=(decide (97<=r/\r<=122)||decide (65<=r/\r<=90))||decide (192<=r/\r<=591/\r≠215/\r≠247)
def digit (r:Int):Bool:=decide (48<=r/\r<=57)
def inner (r:Int):Bool:=digit r||decide (r=45\/r=95\/r=46)
def oG:Bool->List Nat->Bool
 | _,[]=>true
 | first,r::rs=>(letter r||(!first&&inner r))&&oG false rs
def name (l:List UInt8):Bool:=(!l.isEmpty&&decide (l.length<=24))&&oG true (runes l)
end Go.Proofs.YtpfdnemaaeolcaaGreat.Rn
namespace Go.Proofs.YtpfdnemaaeolcaaGreat.Vt
theorem jE:∀ l:List UInt8,Op.bytesLess l l=false
 | []=>rfl
 | a::l=>by
  have h:=jE l;rw [Bool.eq_false_iff];intro k;rw [Dt.L6,h] at k;cases k
theorem ku:∀ a b c:List UInt8,Op.bytesLess a b=true->Op.bytesLess b c=true->Op.bytesLess a c=true
 | _,_,[],_,h=>by rw [Dt.ED] at h;cases h
 | _,[],_::_,h,_=>by rw [Dt.ED] at h;cases h
 | [],_::_,_::_,_,_=>rfl
 | x::a,y::b,z::c,h,k=>by
  rw [Dt.wm] at h k ⊢;rcases h with h | ⟨rfl,h⟩
  ·
   rcases k with k | ⟨rfl,k⟩
   · exact .inl (UInt8.lt_trans h k)
   · exact .inl h
  ·
   rcases k with k | ⟨rfl,k⟩
   · exact .inl k
   · exact .inr ⟨rfl,ku a b c h k⟩
theorem qz:∀ a b:List UInt8,Op.bytesLess a b=true\/a=b\/Op.bytesLess b a=true
 | [],[]=>.inr (.inl rfl)
 | [],_::_=>.inl rfl
 | _::_,[]=>.inr (.inr rfl)
 | x::a,y::b=>by
  rw [Dt.wm,Dt.wm];have h3:x.toNat < y.toNat\/x.toNat=y.toNat\/y.toNat < x.toNat:=by omega
  rcases h3 with h | h | h
  · exact .inl (.inl (UInt8.lt_iff_toNat_lt.2 h))
  ·
   obtain rfl:x=y:=UInt8.toNat_inj.1 h;rcases qz a b with k | rfl | k
   · exact .inl (.inr ⟨rfl,k⟩)
   · exact .inr (.inl rfl)
   · exact .inr (.inr (.inr ⟨rfl,k⟩))
  · exact .inr (.inr (.inl (UInt8.lt_iff_toNat_lt.2 h)))
structure Rt where
 cat:ByteArray
 y:Int
 m:Int
 d:Int
 bp:Int
def dy (r:Rt):Int:=Dt.days r.y r.m r.d
def lt (a b:Rt):Bool:=if a.cat=b.cat then decide (dy a < dy b) else Op.bytesLess a.cat.toList b.cat.toList
theorem jP {a b:Rt} (h:a.cat=b.cat):lt a b=decide (dy a < dy b):=if_pos h
theorem jQ {a b:Rt} (h:a.cat≠b.cat):lt a b=Op.bytesLess a.cat.toList b.cat.toList:=if_neg h
theorem gM (h:a.toList=b.toList):a=b:=oz (by rw [<- tl,<- tl];exact h)
theorem lt_trans {a b c:Rt} (h:lt a b=true) (k:lt b c=true):lt a c=true:=by
 by_cases e:a.cat=b.cat
 ·
  rw [jP e,decide_eq_true_iff] at h;by_cases f:b.cat=c.cat
  ·
   rw [jP f,decide_eq_true_iff] at k;rw [jP (e.trans f),decide_eq_true_iff];omega
  ·
   rw [jQ f] at k;rw [jQ (by rw [e];exact f),e];exact k
 ·
  rw [jQ e] at h;by_cases f:b.cat=c.cat
  ·
   rw [jQ (by rw [<- f];exact e),<- f];exact h
  ·
   rw [jQ f] at k;have t:=ku _ _ _ h k;rw [jQ]
   · exact t
   ·
    intro g;rw [g] at h;have:=ku _ _ _ h k;rw [jE] at this;cases this
theorem lt_irrefl (a:Rt):lt a a=false:=by
 rw [jP rfl];exact decide_eq_false (by omega)
theorem lt_asymm {a b:Rt} (h:lt a b=true):lt b a=false:=by
 rw [Bool.eq_false_iff];intro k;have:=lt_trans h k;rw [lt_irrefl] at this;cases this
theorem fq (a b:Rt):lt a b=true\/(a.cat=b.cat/\dy a=dy b)\/lt b a=true:=by
 by_cases e:a.cat=b.cat
 ·
  rw [jP e,jP e.symm,decide_eq_true_iff,decide_eq_true_iff];have:dy a < dy b\/dy a=dy b\/dy b < dy a:=by omega
  rcases this with h | h | h
  · exact .inl h
  · exact .inr (.inl ⟨e,h⟩)
  · exact .inr (.inr h)
 ·
  rw [jQ e,jQ fun k=>e k.symm];rcases qz a.cat.toList b.cat.toList with h | h | h
  · exact .inl h
  · exact absurd (gM h) e
  · exact .inr (.inr h)
def gT (r:Rt):Int:=if Rn.name (txt r.cat)=false then 8 else if Dt.aA r.y r.m r.d=false then 9 else if r.bp < 0\/100000 < r.bp then 10 else 0
variable {r:Rt}
theorem oH:gT r=0↔Rn.name (txt r.cat)=true/\Dt.aA r.y r.m r.d=true/\0<=r.bp/\r.bp<=100000:=by
 unfold gT;cases Rn.name (txt r.cat)
 · simp
 ·
  cases Dt.aA r.y r.m r.d
  · simp
  · simp
theorem Ma (h:Rn.name (txt r.cat)=false):gT r=8:=if_pos h
theorem Pq (h:Rn.name (txt r.cat)=true) (k:Dt.aA r.y r.m r.d=false):gT r=9:=by
 unfold gT;rw [if_neg (by rw [h];simp),if_pos k]
theorem Ko (h:Rn.name (txt r.cat)=true) (k:Dt.aA r.y r.m r.d=true) (l:r.bp < 0\/100000 < r.bp):gT r=10:=by
 unfold gT;rw [if_neg (by rw [h];simp),if_neg (by rw [k];simp),if_pos l]
def ok (p:Option Rt) (r:Rt):Bool:=decide (gT r=0)&&(match p with | none=>true | some q=>lt q r)
def dN:Option Rt->List Rt->Bool
 | _,[]=>true
 | p,r::l=>ok p r&&dN (some r) l
def bN (l:List Rt):Bool:=decide (l.length<=24)&&dN none l
def Sorted (l:List Rt):Prop:=l.Pairwise fun a b=>lt a b=true
theorem iP:∀ (l:List Rt) (p:Option Rt),dN p l=true↔(∀ r∈l,gT r=0)/\Sorted l/\(∀ q,p=some q->∀ r∈l,lt q r=true)
 | [],p=>by simp [dN,Sorted]
 | a::l,p=>by
  have ih:=iP l (some a);rw [dN,Bool.and_eq_true,ih];unfold ok Sorted;rw [Bool.and_eq_true,decide_eq_true_iff,List.pairwise_cons];constructor
  ·
   rintro ⟨⟨h1,h2⟩,h3,h4,h5⟩;refine ⟨?_,⟨h5 a rfl,h4⟩,?_⟩
   ·
    intro r hr;rcases List.mem_cons.1 hr with rfl | hr
    · exact h1
    · exact h3 r hr
   ·
    rintro q rfl r hr;rcases List.mem_cons.1 hr with rfl | hr
    · exact h2
    · exact lt_trans h2 (h5 a rfl r hr)
  ·
   rintro ⟨h1,⟨h2,h3⟩,h4⟩;refine ⟨⟨h1 a (List.mem_cons_self ..),?_⟩,fun r hr=>h1 r (List.mem_cons_of_mem _ hr),h3,?_⟩
   ·
    cases p with
    | none=>rfl
    | some q=>exact h4 q rfl a (List.mem_cons_self ..)
   ·
    rintro q ⟨⟩ r hr;exact h2 r hr
theorem gW (l:List Rt):bN l=true↔l.length<=24/\(∀ r∈l,gT r=0)/\Sorted l:=by
 unfold bN;rw [Bool.and_eq_true,decide_eq_true_iff,iP]
 simp
variable {l:List Rt}
theorem Ij (h:24 < l.length):bN l=false:=by
 unfold bN;rw [decide_eq_false (by omega)];rfl
theorem EF (h:l.length<=24):bN l=dN none l:=by
 unfold bN;rw [decide_eq_true h];rfl
def bO (l:List Rt) (k:Nat):Option Rt:=if k=0 then none else l[k - 1]?
theorem qA (l:List Rt) (k:Nat) (h:k < l.length):dN (bO l k) (l.drop k)=(ok (bO l k) l[k]&&dN (bO l (k+1)) (l.drop (k+1))):=by
 rw [List.drop_eq_getElem_cons h,dN]
 congr 2
 unfold bO;rw [if_neg (by omega),Nat.add_sub_cancel,List.getElem?_eq_getElem h]
def spot (r:Rt):List Rt->Nat
 | []=>0
 | a::l=>if lt a r=true then spot r l+1 else 0
theorem oI (r:Rt):∀ l,spot r l<=l.length
 | []=>Nat.le_refl _
 | a::l=>by
  have:=oI r l;unfold spot;split
  · simp;omega
  · simp
def qB (l:List Rt) (r:Rt):List Rt:=l.take (spot r l)++r::l.drop (spot r l)
def taken (l:List Rt) (r:Rt):Bool:=match l[spot r l]? with | none=>false | some a=> !(lt r a)
def iQ (l:List Rt) (r:Rt):Int:=if bN l=false then 1 else if gT r≠0 then gT r else if taken l r=true then 12 else if 24<=l.length then 2 else 0
def pX (l:List Rt) (r:Rt):List Rt:=if iQ l r=0 then qB l r else []
theorem Yl (h:iQ l r=0):bN l=true/\gT r=0/\taken l r=false/\l.length < 24:=by
 unfold iQ at h;cases ht:bN l
 · rw [if_pos ht] at h;omega
 ·
  rw [if_neg (by rw [ht];simp)] at h;by_cases hr:gT r=0
  ·
   rw [if_neg (by simpa using hr)] at h;cases hk:taken l r
   ·
    rw [if_neg (by rw [hk];simp)] at h;by_cases hl:24<=l.length
    · rw [if_pos hl] at h;omega
    · exact ⟨rfl,hr,rfl,by omega⟩
   · rw [if_pos hk] at h;omega
  ·
   rw [if_pos hr] at h;exact absurd h hr
theorem Bj {a:Rt} (h:lt a r=true):qB (a::l) r=a::qB l r:=by
 have e:spot r (a::l)=spot r l+1:=if_pos h;unfold qB;rw [e];rfl
theorem Bn {a:Rt} (h:lt a r=false):qB (a::l) r=r::a::l:=by
 have e:spot r (a::l)=0:=if_neg (by rw [h];simp);unfold qB;rw [e];rfl
theorem rQ (r:Rt):∀ l,(qB l r).Perm (r::l)
 | []=>List.Perm.refl _
 | a::l=>by
  cases h:lt a r
  · rw [Bn h]
  ·
   rw [Bj h];exact ((rQ r l).cons a).trans (List.Perm.swap r a l)
theorem Pv (r:Rt) (l:List Rt):(qB l r).length=l.length+1:=by
 have:=(rQ r l).length_eq;simpa using this
theorem yN {a:Rt} (h:lt a r=true):taken (a::l) r=taken l r:=by
 have e:spot r (a::l)=spot r l+1:=if_pos h;unfold taken;rw [e];rfl
theorem tN {a:Rt} (h:lt a r=false):taken (a::l) r= !(lt r a):=by
 have e:spot r (a::l)=0:=if_neg (by rw [h];simp);unfold taken;rw [e];rfl
theorem xu (r:Rt):∀ l,Sorted l->taken l r=false->Sorted (qB l r)
 | [],_,_=>List.pairwise_singleton _ _
 | a::l,h,k=>by
  unfold Sorted at h;rw [List.pairwise_cons] at h;cases hl:lt a r
  ·
   rw [tN hl] at k;have hra:lt r a=true:=by simpa using k
   rw [Bn hl];unfold Sorted;rw [List.pairwise_cons,List.pairwise_cons];refine ⟨fun b hb=>?_,h⟩;rcases List.mem_cons.1 hb with rfl | hb
   · exact hra
   · exact lt_trans hra (h.1 b hb)
  ·
   rw [yN hl] at k;rw [Bj hl];unfold Sorted;rw [List.pairwise_cons];refine ⟨fun b hb=>?_,xu r l h.2 k⟩;rcases List.mem_cons.1 ((rQ r l).mem_iff.1 hb) with rfl | hb
   · exact hl
   · exact h.1 b hb
theorem wo (h:iQ l r=0):bN (qB l r)=true:=by
 obtain ⟨h1,h2,h3,h4⟩:=Yl h;obtain ⟨k1,k2,k3⟩:=(gW l).1 h1;refine (gW _).2 ⟨by rw [Pv];omega,fun b hb=>?_,xu r l k3 h3⟩;rcases List.mem_cons.1 ((rQ r l).mem_iff.1 hb) with rfl | hb
 · exact h2
 · exact k2 b hb
def hit (c:ByteArray) (n:Int) (r:Rt):Bool:=decide (r.cat=c)&&decide (dy r<=n)
def last (c:ByteArray) (n:Int):Int×Bool->List Rt->Int×Bool
 | acc,[]=>acc
 | acc,r::l=>last c n (if hit c n r=true then (r.bp,true) else acc) l
def find (l:List Rt) (c:ByteArray) (y m d:Int):Int×Bool:=if (bN l&&Dt.aA y m d)=true then last c (Dt.days y m d) (0,false) l else (0,false)
theorem Ik (h:bN l=true) (k:Dt.aA y m d=true):find l c y m d=last c (Dt.days y m d) (0,false) l:=by
 unfold find;rw [h,k];rfl
theorem EG (h:bN l=false\/Dt.aA y m d=false):find l c y m d=(0,false):=by
 unfold find;rw [if_neg];intro k;rw [Bool.and_eq_true] at k;rcases h with h | h
 · rw [h] at k;cases k.1
 · rw [h] at k;cases k.2
end Go.Proofs.YtpfdnemaaeolcaaGreat.Vt
namespace Go.Proofs.YtpfdnemaaeolcaaGreat.Sr
open Go.RowKit
open Mem
def rv (r:T):List Value:=[.string r.name,.int .i64 r.next,.int .i64 r.limit,.bool r.shut]
theorem aM (r:T):(rv r).length=4:=rfl
theorem aB:∀ rs:List T,(rs.flatMap rv).length=rs.length*4
 | []=>rfl
 | r::l=>by
  rw [List.flatMap_cons,List.length_append,aM,aB l,List.length_cons];omega
theorem aS:∀ (rs:List T) (k p:Nat) (hk:k < rs.length),p < 4->(rs.flatMap rv)[k*4+p]? =(rv rs[k])[p]?
 | r::l,0,p,_,hp=>by
  rw [List.flatMap_cons,List.getElem?_append_left (by rw [aM];omega),Nat.zero_mul,Nat.zero_add];rfl
 | r::l,k+1,p,hk,hp=>by
  rw [List.flatMap_cons,List.getElem?_append_right (by rw [aM];omega),aM,show (k+1)*4+p - 4=k*4+p by omega];exact aS l k p (by simpa using hk) hp
theorem one_cell (rs:List T):∀ v∈rs.flatMap rv,v.oneCell'=true:=by
 intro v hv;obtain ⟨r,_,h⟩:=List.mem_flatMap.1 hv;unfold rv at h;simp only [List.mem_cons,List.not_mem_nil,or_false] at h;rcases h with rfl | rfl | rfl | rfl <;> rfl
theorem dA {b:Nat} {rs:List T} (h:∀ (k:Nat) (hk:k < rs.length),At w b (off+k*4) rs[k]) (j:Nat) (u:Value) (hu:(rs.flatMap rv)[j]? =some u):w.cell? ((⟨b,off,none⟩:Addr).add j)=some u:=by
 have hj:j < (rs.flatMap rv).length:=by
  obtain ⟨hj,_⟩:=List.getElem?_eq_some_iff.1 hu;exact hj
 rw [aB] at hj;obtain ⟨k,p,rfl,hp⟩:∃ k p,j=k*4+p/\p < 4:=⟨j / 4,j % 4,by omega,by omega⟩;have hk:k < rs.length:=by omega
 rw [aS rs k p hk hp] at hu
 have ha:(⟨b,off,none⟩:Addr).add (k*4+p)=⟨b,off+k*4+p,none⟩:=by
  unfold Addr.add;split
  ·
   rename_i e;simp only [Addr.mk.injEq,true_and,and_true];omega
  ·
   simp only [Addr.mk.injEq,true_and,and_true];omega
 rw [ha];obtain ⟨c0,c1,c2,c3⟩:=h k hk;have hp':p=0\/p=1\/p=2\/p=3:=by omega
 unfold rv at hu;rcases hp' with rfl | rfl | rfl | rfl
 all_goals simp at hu
 all_goals subst hu
 · exact c0
 · exact c1
 · exact c2
 · exact c3
def Own (w:World) (B:Nat) (v:Value) (xs:List T):Prop:=w.ownsRow B 77 4 v xs.length (xs.flatMap rv)
theorem aN (w:World) (B:Nat):Own w B (.slice none 0 0) []:=⟨rfl,.inl ⟨rfl,rfl⟩⟩
variable {xs:List T}
theorem aX (h:Own w B v xs) (hs:∀ r∈xs,Short r):∃ ao cap,v=.slice ao xs.length cap/\Ls w ao xs.length cap xs/\(∀ ad,ao=some ad->∃ g,ad=⟨g,0,none⟩/\B<=g):=by
 rcases h.2 with ⟨h',h2⟩ | ⟨g,cap,cur,h',hb,hg,hnc,hcm,hcs,htake⟩
 ·
  have e:xs=[]:=List.length_eq_zero_iff.1 h2;subst e;exact ⟨none,0,h',⟨rfl,Nat.le_refl _,by omega,fun _=>rfl,.inl rfl,hs⟩,fun ad k=>by cases k⟩
 ·
  refine ⟨some ⟨g,0,none⟩,cap,h',⟨rfl,hnc,hcm,fun k=>(by cases k),.inr ⟨g,0,rfl,fun k hk=>?_⟩,hs⟩,fun ad k=>by cases k;exact ⟨g,rfl,hb⟩⟩
  have hcell:∀ p,p < 4->w.cell? ⟨g,0+k*4+p,none⟩=(rv xs[k])[p]? :=by
   intro p hp;rw [Nat.zero_add,cell_of_row w g _ _ _ _ hg,<- aS xs k p hk hp,<- htake,List.getElem?_take_of_lt (by omega)]
   simp
  exact ⟨hcell 0 (by omega),hcell 1 (by omega),hcell 2 (by omega),hcell 3 (by omega)⟩
def zero:T:=⟨.empty,0,0,false⟩
def zeroV:Value:=.agg #[.string .empty,.int .i64 0,.int .i64 0,.bool false]
theorem info:(Tryz.prog.info? 77).map (fun i=>(i.zero,i.size,i.bytes))=some (some zeroV,4,40):=by kernel_rfl
theorem eG {o:Oper} {a:Act} {K:Act->World->Prop} {Q:Exit->Act->World->Prop} (w:World) (s x:Operand)
  (ho:o.op=.call { callee:=.builtin .append,args:=#[s,x],argTypes:=#[25,25] })
  (B:Nat) (v:Value) (xs:List T) (hs:a.eval s=v) (hown:Own w B v xs)
  (ao:Option Addr) (n cap:Nat) (zs:List T) (hx:a.eval x=.slice ao n cap) (hn:n=zs.length) (hnil:ao=none->cap=0) (hsrc:Seg w ao zs) (hl:(xs.length+n)*40<=140737488355328) (hb:B<=w.heap.size)
  (h:∀ v' w1,Own w1 B v' (xs++zs)->w.grownBy w1 v.ownBlock->(v'.ownBlock=v.ownBlock\/v'.ownBlock=some w.heap.size)->K (a.put o.dst v') w1):o.wp Tryz.prog a w K Q:=by
 have hzs:zeroV.cells.size=4:=rfl;obtain ⟨i0,hi,hz0,hz1,hz2⟩:=info_parts info;have hmx:maxLen=9223372036854775807:=rfl
 have empty:zs=[]->n=0->Own w B v (xs++zs):=by
  intro e _;rw [e,List.append_nil];exact hown
 cases ao with
 | none =>
  obtain rfl:cap=0:=hnil rfl;rcases hsrc with e | ⟨b,off,e,_⟩
  ·
   obtain rfl:n=0:=by rw [hn,e];rfl
   have hrun:=run_append_owned_none (P:=Tryz.prog) (w:=w) B 25 o.type 77 i0 4 Tryz.underlying25 hi v _ _ hown;unfold Oper.wp;simp [execOp,ho,resolve,invoke,builtin,hs,hx,hrun,Result.andThen];exact h v w (empty e rfl) ⟨rfl,rfl,rfl,Nat.le_refl _,fun _ _ _=>rfl⟩ (.inl rfl)
  · cases e
 | some ad =>
  obtain ⟨v',w',hr,h2,h3,_,h5⟩:=run_append_own_at (P:=Tryz.prog) w B 25 o.type 77 i0 zeroV 4 40 Tryz.underlying25 hi hz0 hz1 hz2 hzs (by omega) v xs.length (xs.flatMap rv) hown ad n cap (zs.flatMap rv) (by rw [aB,hn]) (by
   rcases hsrc with e | ⟨b,off,e,hc⟩
   ·
    rw [e];intro j u hu;simp at hu
   ·
    cases e
    exact fun j u hu=>dA hc j u hu) (one_cell zs) (by omega) hl hb
  unfold Oper.wp execOp;simp only [ho,resolve,invoke,builtin,Sem.run_bind,Sem.run_pure,Result.andThen_ok,List.map_toArray,List.map_cons,List.map_nil,hs,hx,hr];refine h v' w' ?_ h3 h5;unfold Own;rw [List.flatMap_append,List.length_append,<- hn];exact h2
theorem aG {ops:Array Oper} {rest:List Oper} {o:Oper} {a:Act} {Q:Exit->Act->World->Prop} (w:World) (hgd:o.guard=none) (s x:Operand)
  (ho:o.op=.call { callee:=.builtin .append,args:=#[s,x],argTypes:=#[25,25] })
  (B:Nat) (v:Value) (xs:List T) (hs:a.eval s=v) (hown:Own w B v xs)
  (ao:Option Addr) (n cap:Nat) (zs:List T) (hx:a.eval x=.slice ao n cap) (hn:n=zs.length) (hnil:ao=none->cap=0) (hsrc:Seg w ao zs) (hl:(xs.length+n)*40<=140737488355328) (hb:B<=w.heap.size)
  (h:∀ v' w1,Own w1 B v' (xs++zs)->w.grownBy w1 v.ownBlock->(v'.ownBlock=v.ownBlock\/v'.ownBlock=some w.heap.size)->wpList Tryz.prog ops Q rest (a.put o.dst v') w1):wpList Tryz.prog ops Q (o::rest) a w :=
 wpList_plain hgd fun _ hK=>eG w s x ho B v xs hs hown ao n cap zs hx hn hnil hsrc hl hb fun v' w1 h1 h2 h3=>hK _ _ (h v' w1 h1 h2 h3)
theorem bK (h:Own w B v xs):∀ k,v.ownBlock=some k->B<=k:=by
 intro k hk;rcases h.2 with ⟨h',_⟩ | ⟨g,cap,cur,h',hb,_⟩
 ·
  rw [h'] at hk;cases hk
 ·
  rw [h'] at hk;simp only [Value.ownBlock,Option.some.injEq] at hk;omega
theorem bD {C:Nat} (h:Own w B v xs) (hc:C<=B):Own w C v xs:=by
 obtain ⟨h1,h2⟩:=h;refine ⟨h1,?_⟩;rcases h2 with h2 | ⟨g,cap,cur,h',hb,h3⟩
 · exact .inl h2
 · exact .inr ⟨g,cap,cur,h',by omega,h3⟩
theorem bA (h:Own w B v xs) (o:Obj):Own (w.alloc o) B v xs:=World.ownsRow.alloc h o
theorem own_below (h:Own w B v xs) (k:Below w.heap.size w u):Own u B v xs:=by
 obtain ⟨h1,h2⟩:=h;refine ⟨h1,?_⟩;rcases h2 with h2 | ⟨g,cap,cur,h',hb,hg,h3⟩
 · exact .inl h2
 ·
  refine .inr ⟨g,cap,cur,h',hb,?_,h3⟩
  have hl:g < w.heap.size:=by
   obtain ⟨hl,_⟩:=Array.getElem?_eq_some_iff.1 hg;exact hl
  rw [k.block g hl];exact hg
def block (r:T):Obj:=.cells #[.string r.name,.int .i64 r.next,.int .i64 r.limit,.bool r.shut] 77 (0,0)
theorem bB {X:World} {g:Nat} {r:T} (h:X.heap[g]? =some (block r)):Seg X (some ⟨g,0,none⟩) [r]:=by
 refine .inr ⟨g,0,rfl,fun k hk=>?_⟩;obtain rfl:k=0:=by simpa using hk
 unfold block at h;refine ⟨?_,?_,?_,?_⟩
 all_goals rw [cell_of_row X g _ _ _ _ h]
 all_goals rfl
end Go.Proofs.YtpfdnemaaeolcaaGreat.Sr
set_option linter.unusedVariables false
namespace Go.Proofs.YtpfdnemaaeolcaaGreat.Se
open Sr (T)
def lt (a b:ByteArray):Bool:=Op.bytesLess a.toList b.toList
theorem lt_trans (h:lt a b=true) (k:lt b c=true):lt a c=true:=Vt.ku _ _ _ h k
theorem lt_irrefl (a:ByteArray):lt a a=false:=Vt.jE _
theorem fq (a b:ByteArray):lt a b=true\/a=b\/lt b a=true:=by
 rcases Vt.qz a.toList b.toList with h | h | h
 · exact .inl h
 · exact .inr (.inl (Vt.gM h))
 · exact .inr (.inr h)
theorem iF (h:lt a b=true):a≠b:=by
 rintro rfl;rw [lt_irrefl] at h;cases h
def lim (n:Int):Bool:=decide (1<=n)&&decide (n<=1099511627776)
theorem lQ:lim n=true↔1<=n/\n<=1099511627776:=by
 unfold lim;rw [Bool.and_eq_true,decide_eq_true_iff,decide_eq_true_iff]
theorem Pw:lim n=false↔n < 1\/1099511627776 < n:=by
 rw [Bool.eq_false_iff,ne_eq,lQ];omega
def sound (r:T):Bool:=Rn.name (txt r.name)&&(lim r.limit&&(decide (1<=r.next)&&decide (r.next<=r.limit+1)))
variable {r:T}
theorem bL:sound r=true↔Rn.name (txt r.name)=true/\lim r.limit=true/\1<=r.next/\r.next<=r.limit+1:=by
 unfold sound;rw [Bool.and_eq_true,Bool.and_eq_true,Bool.and_eq_true,decide_eq_true_iff,decide_eq_true_iff]
theorem uV (h:Rn.name (txt r.name)=false\/lim r.limit=false\/r.next < 1\/r.limit+1 < r.next):sound r=false:=by
 rw [Bool.eq_false_iff];intro k;obtain ⟨k1,k2,k3,k4⟩:=bL.1 k;rcases h with h | h | h | h
 · rw [k1] at h;cases h
 · rw [k2] at h;cases h
 · omega
 · omega
def ok (p:Option T) (r:T):Bool:=sound r&&(match p with | none=>true | some q=>lt q.name r.name)
def dN:Option T->List T->Bool
 | _,[]=>true
 | p,r::l=>ok p r&&dN (some r) l
def aA (l:List T):Bool:=decide (l.length<=8)&&dN none l
def Sorted (l:List T):Prop:=l.Pairwise fun a b=>lt a.name b.name=true
theorem iP:∀ (l:List T) (p:Option T),dN p l=true↔(∀ r∈l,sound r=true)/\Sorted l/\(∀ q,p=some q->∀ r∈l,lt q.name r.name=true)
 | [],p=>by simp [dN,Sorted]
 | a::l,p=>by
  have ih:=iP l (some a);rw [dN,Bool.and_eq_true,ih];unfold ok Sorted;rw [Bool.and_eq_true,List.pairwise_cons];constructor
  ·
   rintro ⟨⟨h1,h2⟩,h3,h4,h5⟩;refine ⟨?_,⟨h5 a rfl,h4⟩,?_⟩
   ·
    intro r hr;rcases List.mem_cons.1 hr with rfl | hr
    · exact h1
    · exact h3 r hr
   ·
    rintro q rfl r hr;rcases List.mem_cons.1 hr with rfl | hr
    · exact h2
    · exact lt_trans h2 (h5 a rfl r hr)
  ·
   rintro ⟨h1,⟨h2,h3⟩,h4⟩;refine ⟨⟨h1 a (List.mem_cons_self ..),?_⟩,fun r hr=>h1 r (List.mem_cons_of_mem _ hr),h3,?_⟩
   ·
    cases p with
    | none=>rfl
    | some q=>exact h4 q rfl a (List.mem_cons_self ..)
   ·
    rintro q ⟨⟩ r hr;exact h2 r hr
theorem aJ (l:List T):aA l=true↔l.length<=8/\(∀ r∈l,sound r=true)/\Sorted l:=by
 unfold aA;rw [Bool.and_eq_true,decide_eq_true_iff,iP]
 simp
variable {l:List T}
theorem tO (h:8 < l.length):aA l=false:=by
 unfold aA;rw [decide_eq_false (by omega)];rfl
theorem qC (h:l.length<=8):aA l=dN none l:=by
 unfold aA;rw [decide_eq_true h];rfl
def bO (l:List T) (k:Nat):Option T:=if k=0 then none else l[k - 1]?
theorem qA (l:List T) (k:Nat) (h:k < l.length):dN (bO l k) (l.drop k)=(ok (bO l k) l[k]&&dN (bO l (k+1)) (l.drop (k+1))):=by
 rw [List.drop_eq_getElem_cons h,dN]
 congr 2
 unfold bO;rw [if_neg (by omega),Nat.add_sub_cancel,List.getElem?_eq_getElem h]
theorem CX {j:Nat} {q:T} (h:j < l.length) (hq:l[j]=q):bO l (j+1)=some q:=by
 unfold bO;rw [if_neg (by omega),Nat.add_sub_cancel,List.getElem?_eq_getElem h,hq]
def ix (s:ByteArray):List T->Nat
 | []=>0
 | r::l=>if r.name=s then 0 else ix s l+1
theorem qD (s:ByteArray):∀ l,ix s l<=l.length
 | []=>Nat.le_refl _
 | a::l=>by
  have:=qD s l;unfold ix;split <;> simp
  exact this
theorem uW {s:ByteArray}:∀ {l:List T},(∀ r∈l,r.name≠s)->ix s l=l.length
 | [],_=>rfl
 | r::l,h=>by
  unfold ix;rw [if_neg (h r (by simp)),uW (fun x hx=>h x (by simp [hx]))];rfl
theorem EH {s:ByteArray}:∀ {l:List T} {k:Nat} (hk:k < l.length),(∀ r∈l.take k,r.name≠s)->l[k].name=s->ix s l=k
 | [],_,hk,_,_=>absurd hk (Nat.not_lt_zero _)
 | r::l,0,_,_,h=>by
  unfold ix;exact if_pos h
 | r::l,k+1,hk,hn,h=>by
  have e:=EH (l:=l) (s:=s) (k:=k) (by simpa using hk) (fun x hx=>hn x (by simp [hx])) (by simpa using h);unfold ix;rw [if_neg (hn r (by simp)),e]
theorem rR {s:ByteArray}:∀ {l:List T} (h:ix s l < l.length),(l[ix s l]).name=s
 | [],h=>absurd h (Nat.not_lt_zero _)
 | r::l,h=>by
  by_cases e:r.name=s
  ·
   have h0:ix s (r::l)=0:=if_pos e;simp only [h0,List.getElem_cons_zero];exact e
  ·
   have h0:ix s (r::l)=ix s l+1:=if_neg e;have h1:ix s l < l.length:=by rw [h0] at h;simpa using h
   simp only [h0,List.getElem_cons_succ];exact rR h1
theorem jR:ix s l < l.length↔∃ r∈l,r.name=s:=by
 constructor
 ·
  intro h;exact ⟨_,List.getElem_mem h,rR h⟩
 ·
  rintro ⟨r,hr,rfl⟩;by_cases h:ix r.name l < l.length
  · exact h
  ·
   exfalso
   have:∀ (l:List T),r∈l->ix r.name l < l.length:=by
    intro l
    induction l with
    | nil=>intro h;cases h
    | cons a l ih =>
     intro h;unfold ix;split
     · simp
     ·
      rename_i e;rcases List.mem_cons.1 h with rfl | h
      · exact absurd rfl e
      ·
       have:=ih h
       simp
       exact this
   exact h (this l hr)
def own (l:List T) (s:ByteArray):T:=(l[ix s l]?).getD Sr.zero
theorem dH (h:ix s l < l.length):own l s=l[ix s l]:=by
 unfold own;rw [List.getElem?_eq_getElem h];rfl
theorem mR (h:ix s l < l.length):l[ix s l]? =some (own l s):=by
 rw [dH h,List.getElem?_eq_getElem h]
theorem nL (h: ¬ ix s l < l.length):own l s=Sr.zero:=by
 unfold own;rw [List.getElem?_eq_none (by omega)];rfl
theorem jS (h:ix s l < l.length):(own l s).name=s:=by
 rw [dH h];exact rR h
theorem dP (h:ix s l < l.length):own l s∈l:=by
 rw [dH h];exact List.getElem_mem h
theorem tQ (hs:Sorted l) {a b:T} (ha:a∈l) (hb:b∈l) (h:a.name=b.name):a=b:=by
 induction l with
 | nil=>cases ha
 | cons c l ih =>
  unfold Sorted at hs;rw [List.pairwise_cons] at hs;rcases List.mem_cons.1 ha with e1 | ha
  ·
   rcases List.mem_cons.1 hb with e2 | hb
   · rw [e1,e2]
   ·
    have:=hs.1 b hb;rw [<- e1] at this;exact absurd h (iF this)
  ·
   rcases List.mem_cons.1 hb with e2 | hb
   ·
    have:=hs.1 a ha;rw [<- e2] at this;exact absurd h.symm (iF this)
   · exact ih hs.2 ha hb
theorem yO (hs:Sorted l) {r:T} (h:r∈l):ix r.name l < l.length/\own l r.name=r:=by
 have hi:ix r.name l < l.length:=jR.2 ⟨r,h,rfl⟩;exact ⟨hi,tQ hs (dP hi) h (jS hi)⟩
def spot (s:ByteArray):List T->Nat
 | []=>0
 | a::l=>if lt a.name s=true then spot s l+1 else 0
theorem mU (s:ByteArray) (l:List T) (k:Nat) (h:k < l.length):spot s (l.drop k)=if lt l[k].name s=true then spot s (l.drop (k+1))+1 else 0:=by
 rw [List.drop_eq_getElem_cons h];rfl
def dF (l:List T) (r:T):List T:=l.take (spot r.name l)++r::l.drop (spot r.name l)
theorem oJ {a:T} (h:lt a.name r.name=true):dF (a::l) r=a::dF l r:=by
 have e:spot r.name (a::l)=spot r.name l+1:=if_pos h;unfold dF;rw [e];rfl
theorem oK {a:T} (h:lt a.name r.name=false):dF (a::l) r=r::a::l:=by
 have e:spot r.name (a::l)=0:=if_neg (by rw [h];simp);unfold dF;rw [e];rfl
theorem kC (r:T):∀ l,(dF l r).Perm (r::l)
 | []=>List.Perm.refl _
 | a::l=>by
  cases h:lt a.name r.name
  · rw [oK h]
  ·
   rw [oJ h];exact ((kC r l).cons a).trans (List.Perm.swap r a l)
theorem Mc (r:T) (l:List T):(dF l r).length=l.length+1:=by
 have:=(kC r l).length_eq;simpa using this
theorem fQ {a:T}:a∈dF l r↔a=r\/a∈l:=by
 rw [(kC r l).mem_iff,List.mem_cons]
theorem oL (r:T):∀ l,Sorted l->(∀ a∈l,a.name≠r.name)->Sorted (dF l r)
 | [],_,_=>List.pairwise_singleton _ _
 | a::l,h,k=>by
  unfold Sorted at h;rw [List.pairwise_cons] at h;cases hl:lt a.name r.name
  ·
   have hra:lt r.name a.name=true:=by
    rcases fq a.name r.name with e | e | e
    · rw [hl] at e;cases e
    · exact absurd e (k a (by simp))
    · exact e
   rw [oK hl];unfold Sorted;rw [List.pairwise_cons,List.pairwise_cons];refine ⟨fun b hb=>?_,h⟩;rcases List.mem_cons.1 hb with rfl | hb
   · exact hra
   · exact lt_trans hra (h.1 b hb)
  ·
   rw [oJ hl];unfold Sorted;rw [List.pairwise_cons];refine ⟨fun b hb=>?_,oL r l h.2 fun b hb=>k b (by simp [hb])⟩;rcases fQ.1 hb with rfl | hb
   · exact hl
   · exact h.1 b hb
def eX (l:List T) (s:ByteArray) (n:Int):Int:=if aA l=false then 1 else if Rn.name (txt s)=false then 8 else if lim n=false then 1 else if ix s l < l.length then 12 else if 8<=l.length then 14 else 0
def jT (l:List T) (s:ByteArray) (n:Int):List T:=if eX l s n=0 then dF l ⟨s,1,n,false⟩ else []
theorem Px (h:aA l=false):eX l s n=1/\jT l s n=[]:=by
 have e:eX l s n=1:=if_pos h;exact ⟨e,by unfold jT;rw [e];rfl⟩
theorem Md (h:aA l=true) (k:Rn.name (txt s)=false):eX l s n=8/\jT l s n=[]:=by
 have e:eX l s n=8:=by
  unfold eX;rw [if_neg (by rw [h];simp),if_pos k]
 exact ⟨e,by unfold jT;rw [e];rfl⟩
theorem Py (h:aA l=true) (k:Rn.name (txt s)=true) (m:lim n=false):eX l s n=1/\jT l s n=[]:=by
 have e:eX l s n=1:=by
  unfold eX;rw [if_neg (by rw [h];simp),if_neg (by rw [k];simp),if_pos m]
 exact ⟨e,by unfold jT;rw [e];rfl⟩
theorem Il (h:aA l=true) (k:Rn.name (txt s)=true) (m:lim n=true) (i:ix s l < l.length):eX l s n=12/\jT l s n=[]:=by
 have e:eX l s n=12:=by
  unfold eX;rw [if_neg (by rw [h];simp),if_neg (by rw [k];simp),if_neg (by rw [m];simp),if_pos i]
 exact ⟨e,by unfold jT;rw [e];rfl⟩
theorem Me (h:aA l=true) (k:Rn.name (txt s)=true) (m:lim n=true) (i: ¬ ix s l < l.length) (j:8<=l.length):eX l s n=14/\jT l s n=[]:=by
 have e:eX l s n=14:=by
  unfold eX;rw [if_neg (by rw [h];simp),if_neg (by rw [k];simp),if_neg (by rw [m];simp),if_neg i,if_pos j]
 exact ⟨e,by unfold jT;rw [e];rfl⟩
theorem Kq (h:aA l=true) (k:Rn.name (txt s)=true) (m:lim n=true) (i: ¬ ix s l < l.length) (j:l.length < 8):eX l s n=0/\jT l s n=dF l ⟨s,1,n,false⟩:=by
 have e:eX l s n=0:=by
  unfold eX;rw [if_neg (by rw [h];simp),if_neg (by rw [k];simp),if_neg (by rw [m];simp),if_neg i,if_neg (by omega)]
 exact ⟨e,by unfold jT;rw [e];rfl⟩
theorem Io (h:aA l=true) (k:Rn.name (txt s)=true) (m:lim n=true) (i: ¬ ix s l < l.length) (j:l.length < 8):aA (dF l ⟨s,1,n,false⟩)=true:=by
 obtain ⟨h1,h2,h3⟩:=(aJ l).1 h;refine (aJ _).2 ⟨by rw [Mc];omega,fun r hr=>?_,oL _ l h3 fun a ha e=>i (jR.2 ⟨a,ha,e⟩)⟩;rcases fQ.1 hr with rfl | hr
 ·
  have:=lQ.1 m;exact bL.2 ⟨k,m,by show (1:Int)<=1;omega,by show (1:Int)<=n+1;omega⟩
 · exact h2 r hr
theorem Pz (hl:Sorted l) (i: ¬ ix r.name l < l.length) (s:ByteArray):(ix s (dF l r) < (dF l r).length↔s=r.name\/ix s l < l.length)/\own (dF l r) s=if s=r.name then r else own l s:=by
 have hs:Sorted (dF l r):=oL _ l hl fun a ha e=>i (jR.2 ⟨a,ha,e⟩)
 have h1:ix s (dF l r) < (dF l r).length↔s=r.name\/ix s l < l.length:=by
  rw [jR,jR];constructor
  ·
   rintro ⟨a,ha,e⟩;rcases fQ.1 ha with rfl | ha
   · exact .inl e.symm
   · exact .inr ⟨a,ha,e⟩
  ·
   rintro (e | ⟨a,ha,e⟩)
   · exact ⟨r,fQ.2 (.inl rfl),e.symm⟩
   · exact ⟨a,fQ.2 (.inr ha),e⟩
 refine ⟨h1,?_⟩;by_cases e:s=r.name
 ·
  rw [if_pos e,e];exact (yO hs (fQ.2 (.inl rfl))).2
 ·
  rw [if_neg e];by_cases h:ix s l < l.length
  ·
   have hm:=yO hs (fQ.2 (.inr (dP h)):own l s∈dF l r);rw [jS h] at hm;exact hm.2
  · rw [nL h,nL (fun k=>by rcases h1.1 k with k | k;exact e k;exact h k)]
def PD (r:T):T:=⟨r.name,r.next,r.limit,true⟩
def Kr (r:T):T:=⟨r.name,r.next+1,r.limit,r.shut⟩
def mV (l:List T) (s:ByteArray):Int:=if aA l=false then 1 else if l.length<=ix s l then 11 else if (own l s).shut=true then 13 else 0
def sQ (l:List T) (s:ByteArray):List T:=if mV l s=0 then l.set (ix s l) (PD (own l s)) else []
def iw (l:List T) (s:ByteArray):Int:=if mV l s≠0 then mV l s else if (own l s).limit < (own l s).next then 14 else 0
def takeN (l:List T) (s:ByteArray):Int:=if iw l s=0 then (own l s).next else 0
def pJ (l:List T) (s:ByteArray):List T:=if iw l s=0 then l.set (ix s l) (Kr (own l s)) else []
theorem Ym (h:aA l=false):mV l s=1:=if_pos h
theorem Uo (h:aA l=true) (k: ¬ ix s l < l.length):mV l s=11:=by
 unfold mV;rw [if_neg (by rw [h];simp),if_pos (by omega)]
theorem Uq (h:aA l=true) (k:ix s l < l.length) (m:(own l s).shut=true):mV l s=13:=by
 unfold mV;rw [if_neg (by rw [h];simp),if_neg (by omega),if_pos m]
theorem un_ok (h:aA l=true) (k:ix s l < l.length) (m:(own l s).shut=false):mV l s=0:=by
 unfold mV;rw [if_neg (by rw [h];simp),if_neg (by omega),if_neg (by rw [m];simp)]
theorem AQ (h:mV l s=0):aA l=true/\ix s l < l.length/\(own l s).shut=false:=by
 unfold mV at h;cases h1:aA l
 · rw [if_pos h1] at h;omega
 ·
  rw [if_neg (by rw [h1];simp)] at h;by_cases h2:l.length<=ix s l
  · rw [if_pos h2] at h;omega
  ·
   rw [if_neg h2] at h;cases h3:(own l s).shut
   · exact ⟨rfl,by omega,rfl⟩
   · rw [if_pos h3] at h;omega
theorem Ur (h:mV l s≠0):sQ l s=[]:=if_neg h
theorem yP (h:mV l s=0):sQ l s=l.set (ix s l) (PD (own l s)):=if_pos h
theorem CY (h:mV l s≠0):iw l s=mV l s/\takeN l s=0/\pJ l s=[]:=by
 have e:iw l s=mV l s:=if_pos h;exact ⟨e,by unfold takeN;rw [e,if_neg h],by unfold pJ;rw [e,if_neg h]⟩
theorem wB (h:mV l s=0) (k:(own l s).limit < (own l s).next):iw l s=14/\takeN l s=0/\pJ l s=[]:=by
 have e:iw l s=14:=by
  unfold iw;rw [if_neg (by rw [h];simp),if_pos k]
 exact ⟨e,by unfold takeN;rw [e];rfl,by unfold pJ;rw [e];rfl⟩
theorem xY (h:mV l s=0) (k: ¬ (own l s).limit < (own l s).next):iw l s=0/\takeN l s=(own l s).next/\pJ l s=l.set (ix s l) (Kr (own l s)):=by
 have e:iw l s=0:=by
  unfold iw;rw [if_neg (by rw [h];simp),if_neg k]
 exact ⟨e,by unfold takeN;rw [e];rfl,by unfold pJ;rw [e];rfl⟩
theorem oM (h:ix s l < l.length) (a:T) (ha:a∈l.set (ix s l) r):a=r\/a∈l:=by
 obtain ⟨j,hj,e⟩:=List.getElem_of_mem ha;rw [List.getElem_set] at e;split at e
 · exact .inl e.symm
 · exact .inr (e▸List.getElem_mem _)
theorem Bo (h:ix s l < l.length) (hr:r.name=s):(l.set (ix s l) r).map T.name=l.map T.name:=by
 rw [List.map_set,hr];apply List.ext_getElem (by simp);intro j h1 h2;rw [List.getElem_set];split
 ·
  rename_i e;subst e;rw [List.getElem_map,rR h]
 · rfl
theorem CZ {m:List T} (h:l.map T.name=m.map T.name) (hs:Sorted l):Sorted m:=by
 have h1:(l.map T.name).Pairwise (fun a b=>lt a b=true):=List.pairwise_map.2 hs;rw [h] at h1;exact List.pairwise_map.1 h1
theorem EI (s:ByteArray):∀ {l m:List T},l.map T.name=m.map T.name->ix s l=ix s m
 | [],[],_=>rfl
 | [],_::_,h=>by simp at h
 | _::_,[],h=>by simp at h
 | a::l,b::m,h=>by
  simp only [List.map_cons,List.cons.injEq] at h;unfold ix;rw [h.1,EI s h.2]
theorem set_right (hl:aA l=true) (h:ix s l < l.length) (hr:r.name=s) (k:sound r=true):aA (l.set (ix s l) r)=true:=by
 obtain ⟨h1,h2,h3⟩:=(aJ l).1 hl;refine (aJ _).2 ⟨by rw [List.length_set];exact h1,fun a ha=>?_,CZ (Bo h hr).symm h3⟩;rcases oM h a ha with rfl | ha
 · exact k
 · exact h2 a ha
theorem Kt (h:ix s l < l.length) (hr:r.name=s) (t:ByteArray):(ix t (l.set (ix s l) r)=ix t l)/\own (l.set (ix s l) r) t=if t=s then r else own l t:=by
 have e:=EI t (Bo h hr);refine ⟨e,?_⟩;unfold own;rw [e];by_cases ht:t=s
 ·
  rw [if_pos ht,ht,List.getElem?_set_self h];rfl
 ·
  rw [if_neg ht];by_cases hi:ix t l < l.length
  ·
   have hne:ix s l≠ix t l:=by
    intro k;have h1:=rR h;have h2:=rR hi;apply ht;rw [<- h1,<- h2];simp only [k]
   rw [List.getElem?_set_ne hne]
  · rw [List.getElem?_eq_none (by rw [List.length_set];omega),List.getElem?_eq_none (by omega)]
theorem Ip (h:mV l s=0):aA (sQ l s)=true:=by
 obtain ⟨h1,h2,h3⟩:=AQ h;rw [yP h];have k:=bL.1 (((aJ l).1 h1).2.1 _ (dP h2));exact set_right h1 h2 (jS h2) (bL.2 k)
theorem Iq (h:mV l s=0) (k: ¬ (own l s).limit < (own l s).next):aA (pJ l s)=true:=by
 obtain ⟨h1,h2,h3⟩:=AQ h;rw [(xY h k).2.2];obtain ⟨k1,k2,k3,k4⟩:=bL.1 (((aJ l).1 h1).2.1 _ (dP h2));exact set_right h1 h2 (jS h2) (bL.2 ⟨k1,k2,by show 1<=(own l s).next+1;omega,by show (own l s).next+1<=(own l s).limit+1;omega⟩)
end Go.Proofs.YtpfdnemaaeolcaaGreat.Se
namespace Go.Proofs.YtpfdnemaaeolcaaGreat.Pt
open Go.RowKit
open Mem
structure T where
 cat:ByteArray
 bp:Int
 net:Int
 aP:Int
def Short (r:T):Prop:=r.cat.size<=140737488355328/\Fit r.bp/\Fit r.net/\Fit r.aP
def box (w:World) (r:T):World:=w.alloc (.cells #[.string r.cat,.int .i64 r.bp,.int .i64 r.net,.int .i64 r.aP] 108)
def C (u:World) (b:Nat) (r:T):Prop :=
 u.cell? ⟨b,0,none⟩=some (.string r.cat)/\u.cell? ⟨b,1,none⟩=some (.int .i64 r.bp)/\u.cell? ⟨b,2,none⟩=some (.int .i64 r.net)/\u.cell? ⟨b,3,none⟩=some (.int .i64 r.aP)
theorem C.below {v:World} {b:Nat} {r:T} (h:C u b r) (k:Below u.heap.size u v):C v b r:=by
 obtain ⟨h0,h1,h2,h3⟩:=h;have hl:=aH h0;unfold C;rw [(aD k).1 _ _ hl,(aD k).1 _ _ hl,(aD k).1 _ _ hl,(aD k).1 _ _ hl];exact ⟨h0,h1,h2,h3⟩
theorem dO (w:World) (r:T):C (box w r) w.heap.size r:=by
 unfold box C;simp [go_sem]
theorem aC (w:World) (r:T):Below w.heap.size w (box w r):=(Below.refl _ _).alloc (Nat.le_refl _) _
theorem bZ (w:World) (a:T):∃ W,w.alloc (.cells #[.string a.cat,.int .i64 a.bp,.int .i64 a.net,.int .i64 a.aP] 108)=W/\Below w.heap.size w W/\C W w.heap.size a :=
 ⟨_,rfl,aC w a,dO w a⟩
structure At (u:World) (b o:Nat) (r:T):Prop where
 c0:u.cell? ⟨b,o,none⟩=some (.string r.cat)
 c1:u.cell? ⟨b,o+1,none⟩=some (.int .i64 r.bp)
 c2:u.cell? ⟨b,o+2,none⟩=some (.int .i64 r.net)
 c3:u.cell? ⟨b,o+3,none⟩=some (.int .i64 r.aP)
theorem At.below {v:World} {b:Nat} {r:T} (h:At u b o r) (k:Below u.heap.size u v):At v b o r:=by
 have hl:=aH h.c0;exact ⟨by rw [(aD k).1 _ _ hl];exact h.c0,by rw [(aD k).1 _ _ hl];exact h.c1,by rw [(aD k).1 _ _ hl];exact h.c2,by rw [(aD k).1 _ _ hl];exact h.c3⟩
def Seg (w:World) (ao:Option Addr) (rs:List T):Prop:=rs=[]\/∃ b off,ao=some ⟨b,off,none⟩/\∀ (k:Nat) (hk:k < rs.length),At w b (off+k*4) rs[k]
theorem Seg.below {w v:World} {ao:Option Addr} {rs:List T} (h:Seg w ao rs) (k:Below w.heap.size w v):Seg v ao rs:=by
 rcases h with h | ⟨b,off,e,h⟩
 · exact .inl h
 · exact .inr ⟨b,off,e,fun i hi=>(h i hi).below k⟩
structure Ls (w:World) (ao:Option Addr) (n cap:Nat) (rs:List T):Prop where
 len:n=rs.length
 fits:n<=cap
 reach:cap<=9223372036854775807
 nil:ao=none->cap=0
 seg:Seg w ao rs
 short:∀ r∈rs,Short r
theorem Ls.below {w v:World} {ao:Option Addr} {n cap:Nat} {rs:List T} (h:Ls w ao n cap rs) (k:Below w.heap.size w v):Ls v ao n cap rs :=
 ⟨h.len,h.fits,h.reach,h.nil,h.seg.below k,h.short⟩
theorem Ls.at {w:World} {ao:Option Addr} {n cap:Nat} {rs:List T} (h:Ls w ao n cap rs) (hn:0 < n):∃ b off,ao=some ⟨b,off,none⟩:=by
 rcases h.seg with e | ⟨b,off,e,_⟩
 ·
  have:=h.len;rw [e] at this;simp at this;omega
 · exact ⟨b,off,e⟩
theorem Ls.row {b n:Nat} {rs:List T} (h:Ls w (some ⟨b,off,none⟩) n cap rs) (k:Nat) (hk:k < rs.length):At w b (off+k*4) rs[k]:=by
 rcases h.seg with e | ⟨b',off',e,hs⟩
 ·
  subst e;simp at hk
 ·
  cases e
  exact hs k hk
theorem dL (w:World):Ls w none 0 0 []:=⟨rfl,Nat.le_refl _,by omega,fun _=>rfl,.inl rfl,by simp⟩
theorem und:Tryz.prog.underlying 100=some (.slice (Tryz.prog.elem 100)):=by kernel_rfl
theorem size (u:World):(sizeOf (Tryz.prog.elem 100)).run Tryz.prog u=.ok 4 u:=by
 have h:(Tryz.prog.info? (Tryz.prog.elem 100)).map (·.size)=some 4:=by kernel_rfl
 obtain ⟨i,hi,hs⟩:=Option.map_eq_some_iff.1 h;simp [sizeOf,typeInfo,hi,hs]
end Go.Proofs.YtpfdnemaaeolcaaGreat.Pt
namespace Go.Proofs.YtpfdnemaaeolcaaGreat.Iv
structure iD where
 net:Int
 aP:Int
 au:Int
 parts:List Pt.T
def iD.zero:iD:=⟨0,0,0,[]⟩
end Go.Proofs.YtpfdnemaaeolcaaGreat.Iv
namespace Go.Proofs.YtpfdnemaaeolcaaGreat.Mn
def Fit (x:Int):Prop:= -9223372036854775808<=x/\x<=9223372036854775807
instance (x:Int):Decidable (Fit x):=inferInstanceAs (Decidable (_/\_))
def dG (x:Int):Int:=if Fit x then x else 0
def err (x:Int):Int:=if Fit x then 0 else 7
theorem jk (h:Fit x):dG x=x:=if_pos h
theorem Ku (h:Fit x):err x=0:=if_pos h
theorem xZ (h: ¬ Fit x):dG x=0:=if_neg h
theorem Us (h: ¬ Fit x):err x=7:=if_neg h
theorem jl (x:Int):err x=0\/err x=7:=by
 unfold err;split
 · exact .inl rfl
 · exact .inr rfl
theorem uX (m b:Int) (h0:0<=m):m.tdiv b=m / b:=Int.tdiv_eq_ediv_of_nonneg h0
theorem Kv (m b:Int) (h0:0<=m):m.tdiv (-b)= -(m / b):=by rw [Int.tdiv_neg,uX m b h0]
theorem Ir (m b x:Int) (hb:0 < b):x<=m / b↔x*b<=m:=Int.le_ediv_iff_mul_le hb
theorem Ut (a b:Int) (_ha:0 < a) (hb:0 < b):a<=(9223372036854775807:Int).tdiv b↔a*b<=9223372036854775807:=by
 rw [uX _ _ (by omega),Ir _ _ _ hb]
theorem Kw (a b:Int) (ha:0 < a): -(9223372036854775808:Int).tdiv a<=b↔ -9223372036854775808<=a*b:=by
 have h:=Ir 9223372036854775808 a (-b) ha;rw [uX _ _ (by omega)];rw [Int.neg_mul,Int.mul_comm b a] at h;omega
theorem Uu (a b:Int) (hb:0 < b): -(9223372036854775808:Int).tdiv b<=a↔ -9223372036854775808<=a*b:=by
 rw [Kw b a hb,Int.mul_comm]
theorem Uv (a b:Int) (hb:b < 0):(9223372036854775807:Int).tdiv b<=a↔a*b<=9223372036854775807:=by
 have h:=Ir 9223372036854775807 (-b) (-a) (by omega)
 have e:(9223372036854775807:Int).tdiv b= -(9223372036854775807 / (-b)):=by
  have:=Kv 9223372036854775807 (-b) (by omega)
  rwa [Int.neg_neg] at this
 rw [e];rw [Int.neg_mul_neg] at h;omega
theorem yQ (m b:Int) (h0:0<=m) (hb:b≠0): -m<=m.tdiv b/\m.tdiv b<=m:=by
 rcases Int.lt_or_gt_of_ne hb with h | h
 ·
  have e:=Kv m (-b) h0;rw [Int.neg_neg] at e;have h1:m / (-b)<=m:=Int.ediv_le_self _ h0;have h2:0<=m / (-b):=Int.ediv_nonneg h0 (by omega);omega
 ·
  have e:=uX m b h0;have h1:m / b<=m:=Int.ediv_le_self _ h0;have h2:0<=m / b:=Int.ediv_nonneg h0 (by omega);omega
theorem EJ (m b:Int) (h0:0<=m) (hb:0 < b):0<=m.tdiv b/\m.tdiv b<=m:=by
 rw [uX m b h0];exact ⟨Int.ediv_nonneg h0 (by omega),Int.ediv_le_self _ h0⟩
theorem mul_pos {a b:Int} (ha:0 < a) (hb:0 < b):0 < a*b:=Int.mul_pos ha hb
theorem Yn {a b:Int} (ha:0 < a) (hb:b < 0):a*b < 0:=Int.mul_neg_of_pos_of_neg ha hb
theorem Yo {a b:Int} (ha:a < 0) (hb:0 < b):a*b < 0:=Int.mul_neg_of_neg_of_pos ha hb
theorem Yp {a b:Int} (ha:a < 0) (hb:b < 0):0 < a*b:=Int.mul_pos_of_neg_of_neg ha hb
end Go.Proofs.YtpfdnemaaeolcaaGreat.Mn
namespace Go.Proofs.YtpfdnemaaeolcaaGreat.Sh
def sh (u bp all:Nat):Nat:=(2*(u*bp)+all) / (2*all)
theorem PE (u bp all:Nat) (h:0 < all):sh u bp all=u / all*bp+(2*(u % all)*bp+all) / (2*all):=by
 have e:2*(u*bp)+all=2*all*(u / all*bp)+(2*(u % all)*bp+all):=by
  have h1:u=all*(u / all)+u % all:=(Nat.div_add_mod u all).symm
  have h2:u*bp=all*(u / all*bp)+u % all*bp:=by
   have h3:u*bp=(all*(u / all)+u % all)*bp:=by rw [<- h1]
   rw [h3,Nat.add_mul,Nat.mul_assoc]
  rw [h2,Nat.mul_assoc 2 all,Nat.mul_assoc 2 (u % all)];omega
 unfold sh;rw [e,Nat.mul_add_div (by omega)]
theorem Uw (r bp all:Nat) (hr:r < all):(2*r*bp+all) / (2*all)<=bp:=by
 have h1:2*r*bp+all < 2*all*(bp+1):=by
  have h2:r*bp<=all*bp:=Nat.mul_le_mul_right _ (by omega);rw [Nat.mul_assoc,Nat.mul_assoc 2 all,Nat.mul_add,Nat.mul_one];omega
 have:=(Nat.div_lt_iff_lt_mul (k:=2*all) (by omega) (x:=2*r*bp+all) (y:=bp+1)).2 (by rw [Nat.mul_comm (bp+1)];exact h1);omega
theorem sh_none (u all:Nat) (h:0 < all):sh u 0 all=0:=by
 unfold sh;rw [Nat.mul_zero,Nat.mul_zero,Nat.zero_add];exact Nat.div_eq_of_lt (by omega)
def side (n:Int) (s:Nat):Int:=if n < 0 then -(s:Int) else (s:Int)
def val (n:Int) (bp all:Nat):Int:=if sh n.natAbs bp all<=9223372036854775807 then side n (sh n.natAbs bp all) else 0
def why (n:Int) (bp all:Nat):Int:=if sh n.natAbs bp all<=9223372036854775807 then 0 else 7
def Right (bp:Int):Prop:=0<=bp/\bp<=100000
instance (x:Int):Decidable (Right x):=inferInstanceAs (Decidable (_/\_))
def fK (n bp:Int):Int:=if Right bp then val n bp.toNat 10000 else 0
def iC (n bp:Int):Int:=if Right bp then why n bp.toNat 10000 else 1
def inV (n bp:Int):Int:=if Right bp then val n bp.toNat (10000+bp.toNat) else 0
def inE (n bp:Int):Int:=if Right bp then why n bp.toNat (10000+bp.toNat) else 1
theorem PG (n:Int) (s:Nat) (h:n≠0\/s=0):side (-n) s= -side n s:=by
 unfold side;by_cases h1:n < 0
 · rw [if_pos h1,if_neg (by omega)];omega
 ·
  rw [if_neg h1];by_cases h2: -n < 0
  · rw [if_pos h2]
  · rw [if_neg h2];omega
theorem Ux (bp all:Nat) (h:0 < all):sh 0 bp all=0:=by
 unfold sh;rw [Nat.zero_mul,Nat.mul_zero,Nat.zero_add];exact Nat.div_eq_of_lt (by omega)
theorem val_neg (n:Int) (bp all:Nat) (h:0 < all):val (-n) bp all= -val n bp all:=by
 unfold val;rw [Int.natAbs_neg];split
 ·
  apply PG;by_cases h0:n=0
  · subst h0;exact .inr (Ux bp all h)
  · exact .inl h0
 · rfl
theorem Uy (n:Int) (bp all:Nat):why (-n) bp all=why n bp all:=by
 unfold why;rw [Int.natAbs_neg]
theorem Uz (n bp:Int):fK (-n) bp= -fK n bp/\iC (-n) bp=iC n bp:=by
 unfold fK iC;split
 · exact ⟨val_neg _ _ _ (by omega),Uy _ _ _⟩
 · exact ⟨rfl,rfl⟩
end Go.Proofs.YtpfdnemaaeolcaaGreat.Sh
namespace Go.Proofs.YtpfdnemaaeolcaaGreat.Iv
open Vt (Rt)
def lt (a b:ByteArray):Bool:=Op.bytesLess a.toList b.toList
theorem lt_trans (h:lt a b=true) (k:lt b c=true):lt a c=true:=Vt.ku _ _ _ h k
theorem lt_irrefl (a:ByteArray):lt a a=false:=Vt.jE _
theorem fq (a b:ByteArray):lt a b=true\/a=b\/lt b a=true:=by
 rcases Vt.qz a.toList b.toList with h | h | h
 · exact .inl h
 · exact .inr (.inl (Vt.gM h))
 · exact .inr (.inr h)
theorem iF (h:lt a b=true):a≠b:=by
 rintro rfl;rw [lt_irrefl] at h;cases h
theorem lt_asymm (h:lt a b=true):lt b a=false:=by
 rw [Bool.eq_false_iff];intro k;have:=lt_trans h k;rw [lt_irrefl] at this;cases this
def Sorted (l:List Pt.T):Prop:=l.Pairwise fun a b=>lt a.cat b.cat=true
def spot (c:ByteArray):List Pt.T->Nat
 | []=>0
 | a::l=>if lt a.cat c=true then spot c l+1 else 0
theorem oI (c:ByteArray):∀ l,spot c l<=l.length
 | []=>Nat.le_refl _
 | a::l=>by
  have:=oI c l;unfold spot;split
  · simp;omega
  · simp
theorem mU (c:ByteArray) (l:List Pt.T) (k:Nat) (h:k < l.length):spot c (l.drop k)=if lt l[k].cat c=true then spot c (l.drop (k+1))+1 else 0:=by
 rw [List.drop_eq_getElem_cons h];rfl
def has (c:ByteArray):List Pt.T->Bool
 | []=>false
 | a::l=>if lt a.cat c=true then has c l else decide (a.cat=c)
theorem l7 (c:ByteArray):∀ l:List Pt.T,has c l=match l[spot c l]? with | none=>false | some a=>decide (a.cat=c)
 | []=>rfl
 | a::l=>by
  unfold has spot;by_cases h:lt a.cat c=true
  · rw [if_pos h,if_pos h,l7 c l,List.getElem?_cons_succ]
  ·
   rw [if_neg h,if_neg h];rfl
def part (c:ByteArray) (bp:Int):List Pt.T->Pt.T
 | []=>⟨c,bp,0,0⟩
 | a::l=>if lt a.cat c=true then part c bp l else if a.cat=c then a else ⟨c,bp,0,0⟩
def ins (c:ByteArray) (bp:Int):List Pt.T->List Pt.T
 | []=>[⟨c,bp,0,0⟩]
 | a::l=>if lt a.cat c=true then a::ins c bp l else if a.cat=c then a::l else ⟨c,bp,0,0⟩::a::l
theorem rT {c:ByteArray} {bp:Int}:∀ {l:List Pt.T},has c l=true->ins c bp l=l
 | [],h=>by cases h
 | a::l,h=>by
  unfold has at h;unfold ins;by_cases k:lt a.cat c=true
  ·
   rw [if_pos k] at h ⊢;rw [rT h]
  ·
   rw [if_neg k] at h ⊢;rw [if_pos (of_decide_eq_true h)]
theorem uY {c:ByteArray} {bp:Int}:∀ {l:List Pt.T},has c l=false->ins c bp l=l.take (spot c l)++⟨c,bp,0,0⟩::l.drop (spot c l)
 | [],_=>rfl
 | a::l,h=>by
  unfold has at h;unfold ins spot;by_cases k:lt a.cat c=true
  ·
   rw [if_pos k] at h ⊢;rw [if_pos k,uY h];rfl
  ·
   rw [if_neg k] at h ⊢;rw [if_neg k,if_neg (of_decide_eq_false h)];rfl
theorem tT {c:ByteArray} {bp:Int}:∀ (l:List Pt.T),(ins c bp l)[spot c l]? =some (part c bp l)
 | []=>rfl
 | a::l=>by
  unfold ins spot part;by_cases k:lt a.cat c=true
  · rw [if_pos k,if_pos k,if_pos k,List.getElem?_cons_succ,tT l]
  ·
   rw [if_neg k,if_neg k,if_neg k];by_cases e:a.cat=c
   ·
    rw [if_pos e,if_pos e];rfl
   ·
    rw [if_neg e,if_neg e];rfl
theorem uZ {c:ByteArray} {bp:Int}:∀ (l:List Pt.T),(ins c bp l).length<=l.length+1
 | []=>Nat.le_refl _
 | a::l=>by
  have:=uZ (c:=c) (bp:=bp) l;unfold ins;split
  · simp;omega
  · split <;> simp
theorem yR {bp:Int} (l:List Pt.T):spot c l < (ins c bp l).length:=by
 have:=tT (c:=c) (bp:=bp) l;obtain ⟨h,_⟩:=List.getElem?_eq_some_iff.1 this;exact h
def more (p:Pt.T) (n:Int):Pt.T:=⟨p.cat,p.bp,p.net+n,p.aP⟩
def enter (c:ByteArray) (bp n:Int) (l:List Pt.T):List Pt.T:=(ins c bp l).set (spot c l) (more (part c bp l) n)
def gZ (c:ByteArray) (bp n:Int) (l:List Pt.T):Int:=Mn.err ((part c bp l).net+n)
theorem rU {bp:Int} (l:List Pt.T):(enter c bp n l).length<=l.length+1:=by
 unfold enter;rw [List.length_set];exact uZ l
def qE (rs:List Rt) (y m d:Int) (x:Ln.T):Int :=
 if 64 < x.text.size then 2 else if Rn.name (txt x.category)=false then 8 else if x.count < 1\/1048576 < x.count then 1 else if (Vt.find rs x.category y m d).2=false then 10 else Mn.err (x.count*x.price)
def kM (rs:List Rt) (y m d:Int):List Ln.T->List Pt.T->Int
 | [],_=>0
 | x::l,ps=>if qE rs y m d x≠0 then qE rs y m d x else if gZ x.category (Vt.find rs x.category y m d).1 (x.count*x.price) ps≠0 then 7 else kM rs y m d l (enter x.category (Vt.find rs x.category y m d).1 (x.count*x.price) ps)
def iR (rs:List Rt) (y m d:Int):List Ln.T->List Pt.T->List Pt.T
 | [],ps=>ps
 | x::l,ps=>iR rs y m d l (enter x.category (Vt.find rs x.category y m d).1 (x.count*x.price) ps)
theorem C8 (rs:List Rt) (y m d:Int) (ls:List Ln.T) (ps:List Pt.T) (k:Nat) (h:k < ls.length):kM rs y m d (ls.drop k) ps=if qE rs y m d ls[k]≠0 then qE rs y m d ls[k] else if gZ ls[k].category (Vt.find rs ls[k].category y m d).1 (ls[k].count*ls[k].price) ps≠0 then 7 else kM rs y m d (ls.drop (k+1)) (enter ls[k].category (Vt.find rs ls[k].category y m d).1 (ls[k].count*ls[k].price) ps):=by
 rw [List.drop_eq_getElem_cons h,kM]
theorem Iu (rs:List Rt) (y m d:Int) (ls:List Ln.T) (ps:List Pt.T) (k:Nat) (h:k < ls.length):iR rs y m d (ls.drop k) ps=iR rs y m d (ls.drop (k+1)) (enter ls[k].category (Vt.find rs ls[k].category y m d).1 (ls[k].count*ls[k].price) ps):=by
 rw [List.drop_eq_getElem_cons h,iR]
def l8 (p:Pt.T):Pt.T:=⟨p.cat,p.bp,p.net,Sh.fK p.net p.bp⟩
def C9:List Pt.T->Int->Int->Int
 | [],_,_=>0
 | p::l,N,T=>if Sh.iC p.net p.bp≠0 then Sh.iC p.net p.bp else if Mn.err (N+p.net)≠0 then 7 else if Mn.err (T+Sh.fK p.net p.bp)≠0 then 7 else C9 l (N+p.net) (T+Sh.fK p.net p.bp)
def nE:List Pt.T->Int
 | []=>0
 | p::l=>p.net+nE l
def iZ:List Pt.T->Int
 | []=>0
 | p::l=>Sh.fK p.net p.bp+iZ l
theorem Yq (ps:List Pt.T) (N T:Int) (k:Nat) (h:k < ps.length):C9 (ps.drop k) N T=if Sh.iC ps[k].net ps[k].bp≠0 then Sh.iC ps[k].net ps[k].bp else if Mn.err (N+ps[k].net)≠0 then 7 else if Mn.err (T+Sh.fK ps[k].net ps[k].bp)≠0 then 7 else C9 (ps.drop (k+1)) (N+ps[k].net) (T+Sh.fK ps[k].net ps[k].bp):=by
 rw [List.drop_eq_getElem_cons h,C9]
theorem UA (ps:List Pt.T) (k:Nat) (h:k < ps.length):nE (ps.drop k)=ps[k].net+nE (ps.drop (k+1)):=by
 rw [List.drop_eq_getElem_cons h,nE]
theorem PI (ps:List Pt.T) (k:Nat) (h:k < ps.length):iZ (ps.drop k)=Sh.fK ps[k].net ps[k].bp+iZ (ps.drop (k+1)):=by
 rw [List.drop_eq_getElem_cons h,iZ]
def mix (ps:List Pt.T) (k:Nat):List Pt.T:=(ps.take k).map l8++ps.drop k
theorem yc (ps:List Pt.T):mix ps ps.length=ps.map l8:=by
 unfold mix;rw [List.take_length,List.drop_length,List.append_nil]
theorem dB (ps:List Pt.T) (k:Nat):(mix ps k).length=ps.length:=by
 unfold mix;rw [List.length_append,List.length_map,List.length_take,List.length_drop];omega
theorem qF (ps:List Pt.T) (k:Nat) (h:k < ps.length):(mix ps k)[k]? =some ps[k]:=by
 unfold mix;rw [List.getElem?_append_right (by rw [List.length_map,List.length_take];omega),List.length_map,List.length_take,Nat.min_eq_left (by omega),Nat.sub_self,List.getElem?_drop,Nat.add_zero,List.getElem?_eq_getElem h]
theorem oN (ps:List Pt.T) (k:Nat) (h:k < ps.length):(mix ps k).set k (l8 ps[k])=mix ps (k+1):=by
 unfold mix;rw [List.set_append_right _ _ (by rw [List.length_map,List.length_take];omega),List.length_map,List.length_take,Nat.min_eq_left (by omega),Nat.sub_self,List.drop_eq_getElem_cons h,List.set_cons_zero,List.take_succ_eq_append_getElem h,List.map_append]
 simp
def lS (ps:List Pt.T):Int:=if C9 ps 0 0≠0 then C9 ps 0 0 else Mn.err (nE ps+iZ ps)
def Da (ps:List Pt.T):iD:=⟨nE ps,iZ ps,nE ps+iZ ps,ps.map l8⟩
def fD (rs:List Rt) (y m d:Int) (ls:List Ln.T):Int:=if Vt.bN rs=false then 1 else if Dt.aA y m d=false then 9 else if ls.length=0 then 1 else if 12 < ls.length then 2 else 0
def dK (rs:List Rt) (y m d:Int) (ls:List Ln.T):Int :=
 if fD rs y m d ls≠0 then fD rs y m d ls else if kM rs y m d ls []≠0 then kM rs y m d ls [] else lS (iR rs y m d ls [])
def jM (rs:List Rt) (y m d:Int) (ls:List Ln.T):iD:=if dK rs y m d ls=0 then Da (iR rs y m d ls []) else iD.zero
theorem EK {rs:List Rt} {ls:List Ln.T} (h:fD rs y m d ls≠0):dK rs y m d ls=fD rs y m d ls/\jM rs y m d ls=iD.zero:=by
 have e:dK rs y m d ls=fD rs y m d ls:=if_pos h;exact ⟨e,by unfold jM;rw [e,if_neg h]⟩
theorem yS {rs:List Rt} {ls:List Ln.T} (h:fD rs y m d ls=0) (k:kM rs y m d ls []≠0):dK rs y m d ls=kM rs y m d ls []/\jM rs y m d ls=iD.zero:=by
 have e:dK rs y m d ls=kM rs y m d ls []:=by
  unfold dK;rw [if_neg (by rw [h];simp),if_pos k]
 exact ⟨e,by unfold jM;rw [e,if_neg k]⟩
theorem Ky {rs:List Rt} {ls:List Ln.T} (h:fD rs y m d ls=0) (k:kM rs y m d ls []=0):dK rs y m d ls=lS (iR rs y m d ls [])/\jM rs y m d ls=if lS (iR rs y m d ls [])=0 then Da (iR rs y m d ls []) else iD.zero:=by
 have e:dK rs y m d ls=lS (iR rs y m d ls []):=by
  unfold dK;rw [if_neg (by rw [h];simp),if_neg (by rw [k];simp)]
 exact ⟨e,by unfold jM;rw [e]⟩
def yT (p:Pt.T):Pt.T:=⟨p.cat,p.bp,-p.net,-p.aP⟩
def back (t:iD):iD:=⟨-t.net,-t.aP,-t.au,t.parts.map yT⟩
def wC (p:Pt.T):Bool:=decide (Mn.err (-p.net)≠0\/Mn.err (-p.aP)≠0)
def dQ (t:iD):Int:=if Mn.err (-t.net)≠0\/Mn.err (-t.aP)≠0\/Mn.err (-t.au)≠0 then 7 else if t.parts.any wC=true then 7 else 0
def mW (t:iD):iD:=if dQ t=0 then back t else iD.zero
theorem kT (h:Mn.err x=0):Mn.Fit x:=by
 unfold Mn.err at h;split at h
 · assumption
 · omega
theorem Mf {t:iD} (h:Mn.err (-t.net)≠0\/Mn.err (-t.aP)≠0\/Mn.err (-t.au)≠0):dQ t=7/\mW t=iD.zero:=by
 have e:dQ t=7:=if_pos h;exact ⟨e,by unfold mW;rw [e];rfl⟩
theorem Mg {t:iD} (h1:Mn.err (-t.net)=0) (h2:Mn.err (-t.aP)=0) (h3:Mn.err (-t.au)=0) {p:Pt.T} (hp:p∈t.parts) (h:wC p=true):dQ t=7/\mW t=iD.zero:=by
 have e:dQ t=7:=by
  unfold dQ;rw [if_neg (by rw [h1,h2,h3];simp),if_pos (List.any_eq_true.2 ⟨p,hp,h⟩)]
 exact ⟨e,by unfold mW;rw [e];rfl⟩
theorem UC {t:iD} (h1:Mn.err (-t.net)=0) (h2:Mn.err (-t.aP)=0) (h3:Mn.err (-t.au)=0) (h:∀ p∈t.parts,wC p=false):dQ t=0/\mW t=back t:=by
 have e:dQ t=0:=by
  unfold dQ;rw [if_neg (by rw [h1,h2,h3];simp),if_neg (by rw [Bool.not_eq_true,List.any_eq_false];intro p hp;rw [h p hp];simp)]
 exact ⟨e,by unfold mW;rw [e];rfl⟩
theorem Iy {p:Pt.T} (h1:Mn.err (-p.net)=0) (h2:Mn.err (-p.aP)=0):wC p=false:=decide_eq_false (by rw [h1,h2];simp)
theorem u7 {p:Pt.T} (h:Mn.err (-p.net)≠0\/Mn.err (-p.aP)≠0):wC p=true:=decide_eq_true h
theorem fT (c:ByteArray) (bp n:Int):enter c bp n []=[⟨c,bp,0+n,0⟩]:=rfl
theorem jv (c:ByteArray) (bp n:Int) (a:Pt.T) (l:List Pt.T):enter c bp n (a::l)=if lt a.cat c=true then a::enter c bp n l else if a.cat=c then more a n::l else ⟨c,bp,0+n,0⟩::a::l:=by
 unfold enter;rw [ins,spot,part];by_cases h:lt a.cat c=true
 ·
  rw [if_pos h,if_pos h,if_pos h,if_pos h];rfl
 ·
  rw [if_neg h,if_neg h,if_neg h,if_neg h];by_cases k:a.cat=c
  ·
   rw [if_pos k,if_pos k,if_pos k];rfl
  ·
   rw [if_neg k,if_neg k,if_neg k];rfl
section
variable {c:ByteArray} {bp n:Int} {a:Pt.T} {l:List Pt.T}
theorem bJ (h:lt a.cat c=true):enter c bp n (a::l)=a::enter c bp n l:=by rw [jv,if_pos h]
theorem bV (h:a.cat=c):enter c bp n (a::l)=more a n::l:=by
 rw [jv,if_neg (by rw [h,lt_irrefl];simp),if_pos h]
theorem bW (h:lt c a.cat=true):enter c bp n (a::l)=⟨c,bp,0+n,0⟩::a::l:=by
 rw [jv,if_neg (by rw [lt_asymm h];simp),if_neg (fun k=>iF h k.symm)]
end
theorem Mh (a:Pt.T) (n m:Int):more (more a n) m=more (more a m) n:=by
 unfold more;simp only [Pt.T.mk.injEq,true_and,and_true];omega
theorem Iz {c e:ByteArray} {p q:Int} (h:c=e->p=q) (n m:Int):∀ l:List Pt.T,enter c p n (enter e q m l)=enter e q m (enter c p n l)
 | []=>by
  rw [fT,fT];rcases fq c e with k | k | k
  · rw [bW k,bJ k,fT]
  ·
   obtain rfl:=k;obtain rfl:=h rfl;rw [bV (show (Pt.T.mk c p (0+m) 0).cat=c from rfl),bV (show (Pt.T.mk c p (0+n) 0).cat=c from rfl)];unfold more;simp only [List.cons.injEq,Pt.T.mk.injEq,true_and,and_true];omega
  · rw [bJ k,bW k,fT]
 | a::l=>by
  rcases fq a.cat c with k1 | k1 | k1
  ·
   rcases fq a.cat e with k2 | k2 | k2
   · rw [bJ k2,bJ k1,bJ k1,bJ k2,Iz h n m l]
   · rw [bV k2,bJ k1,bJ (show lt (more a m).cat c=true from k1),bV k2]
   ·
    have k3:=lt_trans k2 k1;rw [bW k2,bJ k1,bJ (show lt (Pt.T.mk e q (0+m) 0).cat c=true from k3),bJ k1,bW k2]
  ·
   rcases fq a.cat e with k2 | k2 | k2
   · rw [bJ k2,bV k1,bV k1,bJ (show lt (more a n).cat e=true from k2)]
   · rw [bV k2,bV k1,bV (show (more a m).cat=c from k1),bV (show (more a n).cat=e from k2),Mh]
   ·
    have k3:lt e c=true:=k1▸k2;rw [bW k2,bV k1,bJ (show lt (Pt.T.mk e q (0+m) 0).cat c=true from k3),bV k1,bW (show lt e (more a n).cat=true from k2)]
  ·
   rcases fq a.cat e with k2 | k2 | k2
   ·
    have k3:=lt_trans k1 k2;rw [bJ k2,bW k1,bW k1,bJ (show lt (Pt.T.mk c p (0+n) 0).cat e=true from k3),bJ k2]
   ·
    have k3:lt c e=true:=k2▸k1;rw [bV k2,bW k1,bW (show lt c (more a m).cat=true from k1),bJ (show lt (Pt.T.mk c p (0+n) 0).cat e=true from k3),bV k2]
   ·
    rw [bW k2,bW k1];rcases fq c e with k | k | k
    · rw [bW (show lt c (Pt.T.mk e q (0+m) 0).cat=true from k),bJ (show lt (Pt.T.mk c p (0+n) 0).cat e=true from k),bW k2]
    ·
     obtain rfl:=k;obtain rfl:=h rfl;rw [bV (show (Pt.T.mk c p (0+m) 0).cat=c from rfl),bV (show (Pt.T.mk c p (0+n) 0).cat=c from rfl)];unfold more;simp only [List.cons.injEq,Pt.T.mk.injEq,true_and,and_true];omega
    · rw [bJ (show lt (Pt.T.mk e q (0+m) 0).cat c=true from k),bW (show lt e (Pt.T.mk c p (0+n) 0).cat=true from k),bW k1]
theorem tV {c:ByteArray} {bp n:Int}:∀ {l:List Pt.T} {x:Pt.T},x∈enter c bp n l->x.cat=c\/∃ a∈l,x.cat=a.cat
 | [],x,h=>by
  rw [fT] at h;obtain rfl:=List.mem_singleton.1 h;exact .inl rfl
 | a::l,x,h=>by
  rcases fq a.cat c with k | k | k
  ·
   rw [bJ k] at h;rcases List.mem_cons.1 h with rfl | h
   · exact .inr ⟨x,by simp,rfl⟩
   ·
    rcases tV h with h | ⟨b,hb,e⟩
    · exact .inl h
    · exact .inr ⟨b,by simp [hb],e⟩
  ·
   rw [bV k] at h;rcases List.mem_cons.1 h with rfl | h
   · exact .inl k
   · exact .inr ⟨x,by simp [h],rfl⟩
  ·
   rw [bW k] at h;rcases List.mem_cons.1 h with rfl | h
   · exact .inl rfl
   · exact .inr ⟨x,h,rfl⟩
theorem gN {c:ByteArray} {bp n:Int}:∀ {l:List Pt.T},Sorted l->Sorted (enter c bp n l)
 | [],_=>by
  rw [fT];exact List.pairwise_singleton _ _
 | a::l,h=>by
  have h1:=(List.pairwise_cons.1 h).1;have h2:=(List.pairwise_cons.1 h).2;rcases fq a.cat c with k | k | k
  ·
   rw [bJ k];refine List.pairwise_cons.2 ⟨fun x hx=>?_,gN h2⟩;rcases tV hx with e | ⟨b,hb,e⟩
   · rw [e];exact k
   · rw [e];exact h1 b hb
  ·
   rw [bV k];exact List.pairwise_cons.2 ⟨h1,h2⟩
  ·
   rw [bW k];refine List.pairwise_cons.2 ⟨fun x hx=>?_,h⟩;rcases List.mem_cons.1 hx with rfl | hx
   · exact k
   · exact lt_trans k (h1 x hx)
theorem kD (rs:List Rt) (y m d:Int):∀ (ls:List Ln.T) {ps:List Pt.T},Sorted ps->Sorted (iR rs y m d ls ps)
 | [],_,h=>h
 | x::l,_,h=>kD rs y m d l (gN h)
theorem Mi (c:ByteArray) (bp n:Int) (l:List Pt.T):0 < (enter c bp n l).length:=by
 have:=yR (c:=c) (bp:=bp) l;unfold enter;rw [List.length_set];omega
theorem Kz (rs:List Rt) (y m d:Int):∀ (ls:List Ln.T) {ps:List Pt.T},(0 < ls.length\/0 < ps.length)->0 < (iR rs y m d ls ps).length
 | [],_,h=>by
  rcases h with h | h
  · simp at h
  · exact h
 | x::l,_,_=>Kz rs y m d l (.inr (Mi _ _ _ _))
theorem rV (rs:List Rt) (y m d:Int):∀ (ls:List Ln.T) (ps:List Pt.T),(iR rs y m d ls ps).length<=ls.length+ps.length
 | [],ps=>by simp [iR]
 | x::l,ps=>by
  have h1:=rV rs y m d l (enter x.category (Vt.find rs x.category y m d).1 (x.count*x.price) ps);have h2:=rU (c:=x.category) (bp:=(Vt.find rs x.category y m d).1) (n:=x.count*x.price) ps;rw [iR,List.length_cons];omega
def OkB (ps:List Pt.T):Prop:=∀ p∈ps,Sh.Right p.bp
theorem EL {c:ByteArray} {bp n:Int} (hb:Sh.Right bp):∀ {l:List Pt.T},OkB l->OkB (enter c bp n l)
 | [],_=>by
  intro p hp;rw [fT] at hp;obtain rfl:=List.mem_singleton.1 hp;exact hb
 | a::l,h=>by
  have h1:OkB l:=fun p hp=>h p (by simp [hp])
  rcases fq a.cat c with k | k | k
  ·
   rw [bJ k];intro p hp;rcases List.mem_cons.1 hp with rfl | hp
   · exact h _ (by simp)
   · exact EL hb h1 p hp
  ·
   rw [bV k];intro p hp;rcases List.mem_cons.1 hp with rfl | hp
   · exact h a (by simp)
   · exact h1 p hp
  ·
   rw [bW k];intro p hp;rcases List.mem_cons.1 hp with rfl | hp
   · exact hb
   · exact h p hp
end Go.Proofs.YtpfdnemaaeolcaaGreat.Iv
namespace Go.Proofs.YtpfdnemaaeolcaaGreat.Ba
open Go.RowKit
open Mem
structure T where
 aF:ByteArray
 dG:Int
def Short (r:T):Prop:=r.aF.size<=140737488355328/\Fit r.dG
def box (w:World) (r:T):World:=w.alloc (.cells #[.string r.aF,.int .i64 r.dG] 81)
def C (u:World) (b:Nat) (r:T):Prop :=
 u.cell? ⟨b,0,none⟩=some (.string r.aF)/\u.cell? ⟨b,1,none⟩=some (.int .i64 r.dG)
theorem dO (w:World) (r:T):C (box w r) w.heap.size r:=by
 unfold box C;simp [go_sem]
theorem aC (w:World) (r:T):Below w.heap.size w (box w r):=(Below.refl _ _).alloc (Nat.le_refl _) _
theorem bZ (w:World) (a:T):∃ W,w.alloc (.cells #[.string a.aF,.int .i64 a.dG] 81)=W/\Below w.heap.size w W/\C W w.heap.size a :=
 ⟨_,rfl,aC w a,dO w a⟩
structure At (u:World) (b o:Nat) (r:T):Prop where
 c0:u.cell? ⟨b,o,none⟩=some (.string r.aF)
 c1:u.cell? ⟨b,o+1,none⟩=some (.int .i64 r.dG)
theorem At.below {v:World} {b:Nat} {r:T} (h:At u b o r) (k:Below u.heap.size u v):At v b o r:=by
 have hl:=aH h.c0;exact ⟨by rw [(aD k).1 _ _ hl];exact h.c0,by rw [(aD k).1 _ _ hl];exact h.c1⟩
def Seg (w:World) (ao:Option Addr) (rs:List T):Prop:=rs=[]\/∃ b off,ao=some ⟨b,off,none⟩/\∀ (k:Nat) (hk:k < rs.length),At w b (off+k*2) rs[k]
theorem Seg.below {w v:World} {ao:Option Addr} {rs:List T} (h:Seg w ao rs) (k:Below w.heap.size w v):Seg v ao rs:=by
 rcases h with h | ⟨b,off,e,h⟩
 · exact .inl h
 · exact .inr ⟨b,off,e,fun i hi=>(h i hi).below k⟩
structure Ls (w:World) (ao:Option Addr) (n cap:Nat) (rs:List T):Prop where
 len:n=rs.length
 fits:n<=cap
 reach:cap<=9223372036854775807
 nil:ao=none->cap=0
 seg:Seg w ao rs
 short:∀ r∈rs,Short r
theorem Ls.below {w v:World} {ao:Option Addr} {n cap:Nat} {rs:List T} (h:Ls w ao n cap rs) (k:Below w.heap.size w v):Ls v ao n cap rs :=
 ⟨h.len,h.fits,h.reach,h.nil,h.seg.below k,h.short⟩
theorem Ls.at {w:World} {ao:Option Addr} {n cap:Nat} {rs:List T} (h:Ls w ao n cap rs) (hn:0 < n):∃ b off,ao=some ⟨b,off,none⟩:=by
 rcases h.seg with e | ⟨b,off,e,_⟩
 ·
  have:=h.len;rw [e] at this;simp at this;omega
 · exact ⟨b,off,e⟩
theorem Ls.row {b n:Nat} {rs:List T} (h:Ls w (some ⟨b,off,none⟩) n cap rs) (k:Nat) (hk:k < rs.length):At w b (off+k*2) rs[k]:=by
 rcases h.seg with e | ⟨b',off',e,hs⟩
 ·
  subst e;simp at hk
 ·
  cases e
  exact hs k hk
theorem dL (w:World):Ls w none 0 0 []:=⟨rfl,Nat.le_refl _,by omega,fun _=>rfl,.inl rfl,by simp⟩
theorem und:Tryz.prog.underlying 27=some (.slice (Tryz.prog.elem 27)):=by kernel_rfl
theorem size (u:World):(sizeOf (Tryz.prog.elem 27)).run Tryz.prog u=.ok 2 u:=by
 have h:(Tryz.prog.info? (Tryz.prog.elem 27)).map (·.size)=some 2:=by kernel_rfl
 obtain ⟨i,hi,hs⟩:=Option.map_eq_some_iff.1 h;simp [sizeOf,typeInfo,hi,hs]
end Go.Proofs.YtpfdnemaaeolcaaGreat.Ba
namespace Go.Proofs.YtpfdnemaaeolcaaGreat.Po
def lt (a b:ByteArray):Bool:=Op.bytesLess a.toList b.toList
theorem lt_trans (h:lt a b=true) (k:lt b c=true):lt a c=true:=Vt.ku _ _ _ h k
theorem lt_irrefl (a:ByteArray):lt a a=false:=Vt.jE _
theorem fq (a b:ByteArray):lt a b=true\/a=b\/lt b a=true:=by
 rcases Vt.qz a.toList b.toList with h | h | h
 · exact .inl h
 · exact .inr (.inl (Vt.gM h))
 · exact .inr (.inr h)
theorem iF (h:lt a b=true):a≠b:=by
 rintro rfl;rw [lt_irrefl] at h;cases h
theorem lt_asymm (h:lt a b=true):lt b a=false:=by
 rw [Bool.eq_false_iff];intro k;have:=lt_trans h k;rw [lt_irrefl] at this;cases this
def Sorted (l:List Ba.T):Prop:=l.Pairwise fun a b=>lt a.aF b.aF=true
def aA:List Ba.T->Bool
 | a::b::l=>lt a.aF b.aF&&aA (b::l)
 | _=>true
theorem aJ:∀ l:List Ba.T,aA l=true↔Sorted l
 | []=>⟨fun _=>List.Pairwise.nil,fun _=>rfl⟩
 | [a]=>⟨fun _=>List.pairwise_singleton _ _,fun _=>rfl⟩
 | a::b::l=>by
  have ih:=aJ (b::l);rw [aA,Bool.and_eq_true,ih];constructor
  ·
   rintro ⟨h1,h2⟩;refine List.pairwise_cons.2 ⟨fun x hx=>?_,h2⟩;rcases List.mem_cons.1 hx with rfl | hx
   · exact h1
   · exact lt_trans h1 ((List.pairwise_cons.1 h2).1 x hx)
  ·
   intro h;have h1:=List.pairwise_cons.1 h;exact ⟨h1.1 b (by simp),h1.2⟩
theorem Mj {l:List Ba.T} (h:∀ i,(hi:i+1 < l.length)->lt l[i].aF l[i+1].aF=true):aA l=true:=by
 induction l with
 | nil=>rfl
 | cons a l ih =>
  cases l with
  | nil=>rfl
  | cons b l =>
   rw [aA,Bool.and_eq_true];exact ⟨h 0 (by simp),ih fun i hi=>h (i+1) (by simpa using hi)⟩
theorem PK {l:List Ba.T} {i:Nat} (hi:i+1 < l.length) (h:lt l[i].aF l[i+1].aF=false):aA l=false:=by
 rw [Bool.eq_false_iff];intro k;have:=List.pairwise_iff_getElem.1 ((aJ l).1 k) i (i+1) (by omega) hi (by omega);rw [h] at this;cases this
def spot (c:ByteArray):List Ba.T->Nat
 | []=>0
 | a::l=>if lt a.aF c=true then spot c l+1 else 0
theorem oI (c:ByteArray):∀ l,spot c l<=l.length
 | []=>Nat.le_refl _
 | a::l=>by
  have:=oI c l;unfold spot;split
  · simp;omega
  · simp
def has (c:ByteArray):List Ba.T->Bool
 | []=>false
 | a::l=>if lt a.aF c=true then has c l else decide (a.aF=c)
theorem l7 (c:ByteArray):∀ l:List Ba.T,has c l=match l[spot c l]? with | none=>false | some a=>decide (a.aF=c)
 | []=>rfl
 | a::l=>by
  unfold has spot;by_cases h:lt a.aF c=true
  · rw [if_pos h,if_pos h,l7 c l,List.getElem?_cons_succ]
  ·
   rw [if_neg h,if_neg h];rfl
def part (c:ByteArray):List Ba.T->Ba.T
 | []=>⟨c,0⟩
 | a::l=>if lt a.aF c=true then part c l else if a.aF=c then a else ⟨c,0⟩
def ins (c:ByteArray):List Ba.T->List Ba.T
 | []=>[⟨c,0⟩]
 | a::l=>if lt a.aF c=true then a::ins c l else if a.aF=c then a::l else ⟨c,0⟩::a::l
theorem rT {c:ByteArray}:∀ {l:List Ba.T},has c l=true->ins c l=l
 | [],h=>by cases h
 | a::l,h=>by
  unfold has at h;unfold ins;by_cases k:lt a.aF c=true
  ·
   rw [if_pos k] at h ⊢;rw [rT h]
  ·
   rw [if_neg k] at h ⊢;rw [if_pos (of_decide_eq_true h)]
theorem uY {c:ByteArray}:∀ {l:List Ba.T},has c l=false->ins c l=l.take (spot c l)++⟨c,0⟩::l.drop (spot c l)
 | [],_=>rfl
 | a::l,h=>by
  unfold has at h;unfold ins spot;by_cases k:lt a.aF c=true
  ·
   rw [if_pos k] at h ⊢;rw [if_pos k,uY h];rfl
  ·
   rw [if_neg k] at h ⊢;rw [if_neg k,if_neg (of_decide_eq_false h)];rfl
theorem tT {c:ByteArray}:∀ (l:List Ba.T),(ins c l)[spot c l]? =some (part c l)
 | []=>rfl
 | a::l=>by
  unfold ins spot part;by_cases k:lt a.aF c=true
  · rw [if_pos k,if_pos k,if_pos k,List.getElem?_cons_succ,tT l]
  ·
   rw [if_neg k,if_neg k,if_neg k];by_cases e:a.aF=c
   ·
    rw [if_pos e,if_pos e];rfl
   ·
    rw [if_neg e,if_neg e];rfl
theorem uZ {c:ByteArray}:∀ (l:List Ba.T),(ins c l).length<=l.length+1
 | []=>Nat.le_refl _
 | a::l=>by
  have:=uZ (c:=c) l;unfold ins;split
  · simp;omega
  · split <;> simp
theorem yR (l:List Ba.T):spot c l < (ins c l).length:=by
 have:=tT (c:=c) l;obtain ⟨h,_⟩:=List.getElem?_eq_some_iff.1 this;exact h
def more (p:Ba.T) (n:Int):Ba.T:=⟨p.aF,p.dG+n⟩
def enter (c:ByteArray) (n:Int) (l:List Ba.T):List Ba.T:=(ins c l).set (spot c l) (more (part c l) n)
def gZ (c:ByteArray) (n:Int) (l:List Ba.T):Int:=Mn.err ((part c l).dG+n)
theorem rU (l:List Ba.T):(enter c n l).length<=l.length+1:=by
 unfold enter;rw [List.length_set];exact uZ l
theorem fT (c:ByteArray) (n:Int):enter c n []=[⟨c,0+n⟩]:=rfl
theorem jv (c:ByteArray) (n:Int) (a:Ba.T) (l:List Ba.T):enter c n (a::l)=if lt a.aF c=true then a::enter c n l else if a.aF=c then more a n::l else ⟨c,0+n⟩::a::l:=by
 unfold enter;rw [ins,spot,part];by_cases h:lt a.aF c=true
 ·
  rw [if_pos h,if_pos h,if_pos h,if_pos h];rfl
 ·
  rw [if_neg h,if_neg h,if_neg h,if_neg h];by_cases k:a.aF=c
  ·
   rw [if_pos k,if_pos k,if_pos k];rfl
  ·
   rw [if_neg k,if_neg k,if_neg k];rfl
section
variable {c:ByteArray} {n:Int} {a:Ba.T} {l:List Ba.T}
theorem bJ (h:lt a.aF c=true):enter c n (a::l)=a::enter c n l:=by rw [jv,if_pos h]
theorem bV (h:a.aF=c):enter c n (a::l)=more a n::l:=by
 rw [jv,if_neg (by rw [h,lt_irrefl];simp),if_pos h]
theorem bW (h:lt c a.aF=true):enter c n (a::l)=⟨c,0+n⟩::a::l:=by
 rw [jv,if_neg (by rw [lt_asymm h];simp),if_neg (fun k=>iF h k.symm)]
end
def kM:List Ba.T->List Ba.T->Int
 | [],_=>0
 | x::l,b=>if gZ x.aF x.dG b≠0 then 7 else kM l (enter x.aF x.dG b)
def iR:List Ba.T->List Ba.T->List Ba.T
 | [],b=>b
 | x::l,b=>iR l (enter x.aF x.dG b)
theorem C8 (ls b:List Ba.T) (k:Nat) (h:k < ls.length):kM (ls.drop k) b=if gZ ls[k].aF ls[k].dG b≠0 then 7 else kM (ls.drop (k+1)) (enter ls[k].aF ls[k].dG b):=by
 rw [List.drop_eq_getElem_cons h,kM]
theorem Iu (ls b:List Ba.T) (k:Nat) (h:k < ls.length):iR (ls.drop k) b=iR (ls.drop (k+1)) (enter ls[k].aF ls[k].dG b):=by
 rw [List.drop_eq_getElem_cons h,iR]
theorem KA:∀ (l m b:List Ba.T),iR (l++m) b=iR m (iR l b)
 | [],_,_=>rfl
 | x::l,m,b=>by rw [List.cons_append,iR,iR,KA l m]
def jw (b l:List Ba.T):Int:=if aA b=false then 1 else kM l b
def vk (b l:List Ba.T):List Ba.T:=if jw b l=0 then iR l b else []
theorem UD {b l:List Ba.T} (h:aA b=false):jw b l=1/\vk b l=[]:=by
 have e:jw b l=1:=if_pos h;exact ⟨e,by unfold vk;rw [e];rfl⟩
theorem IB {b l:List Ba.T} (h:aA b=true):jw b l=kM l b:=by
 unfold jw;rw [if_neg (by rw [h];simp)]
theorem xw {c:ByteArray} {n:Int}:∀ {l:List Ba.T} {x:Ba.T},x∈enter c n l->x.aF=c\/∃ a∈l,x.aF=a.aF
 | [],x,h=>by
  rw [fT] at h;obtain rfl:=List.mem_singleton.1 h;exact .inl rfl
 | a::l,x,h=>by
  rcases fq a.aF c with k | k | k
  ·
   rw [bJ k] at h;rcases List.mem_cons.1 h with rfl | h
   · exact .inr ⟨x,by simp,rfl⟩
   ·
    rcases xw h with h | ⟨b,hb,e⟩
    · exact .inl h
    · exact .inr ⟨b,by simp [hb],e⟩
  ·
   rw [bV k] at h;rcases List.mem_cons.1 h with rfl | h
   · exact .inl k
   · exact .inr ⟨x,by simp [h],rfl⟩
  ·
   rw [bW k] at h;rcases List.mem_cons.1 h with rfl | h
   · exact .inl rfl
   · exact .inr ⟨x,h,rfl⟩
theorem gN {c:ByteArray} {n:Int}:∀ {l:List Ba.T},Sorted l->Sorted (enter c n l)
 | [],_=>by
  rw [fT];exact List.pairwise_singleton _ _
 | a::l,h=>by
  have h1:=(List.pairwise_cons.1 h).1;have h2:=(List.pairwise_cons.1 h).2;rcases fq a.aF c with k | k | k
  ·
   rw [bJ k];refine List.pairwise_cons.2 ⟨fun x hx=>?_,gN h2⟩;rcases xw hx with e | ⟨b,hb,e⟩
   · rw [e];exact k
   · rw [e];exact h1 b hb
  ·
   rw [bV k];exact List.pairwise_cons.2 ⟨h1,h2⟩
  ·
   rw [bW k];refine List.pairwise_cons.2 ⟨fun x hx=>?_,h⟩;rcases List.mem_cons.1 hx with rfl | hx
   · exact k
   · exact lt_trans k (h1 x hx)
theorem kD:∀ (ls:List Ba.T) {b:List Ba.T},Sorted b->Sorted (iR ls b)
 | [],_,h=>h
 | _::l,_,h=>kD l (gN h)
def Mk:List Ba.T->Int
 | []=>0
 | a::l=>a.dG+Mk l
theorem UE:∀ l m:List Ba.T,Mk (l++m)=Mk l+Mk m
 | [],m=>by rw [List.nil_append];show _=0+_;omega
 | a::l,m=>by
  rw [List.cons_append,Mk,Mk,UE l m];omega
def val (c:ByteArray) (l:List Ba.T):Int:=(part c l).dG
def rows (c:ByteArray):List Ba.T->Int
 | []=>0
 | x::l=>(if x.aF=c then x.dG else 0)+rows c l
def named (c:ByteArray) (l:List Ba.T):Bool:=l.any fun x=>decide (x.aF=c)
theorem gX (c:ByteArray) (a:Ba.T) (l:List Ba.T):part c (a::l)=if lt a.aF c=true then part c l else if a.aF=c then a else ⟨c,0⟩:=rfl
theorem jc (c:ByteArray) (a:Ba.T) (l:List Ba.T):has c (a::l)=if lt a.aF c=true then has c l else decide (a.aF=c):=rfl
theorem nM (c e:ByteArray) (n:Int):∀ l:List Ba.T,val c (enter e n l)=val c l+(if e=c then n else 0)/\has c (enter e n l)=(has c l||decide (e=c))
 | []=>by
  rw [fT];unfold val;rw [gX,jc];rcases fq e c with k | k | k
  ·
   rw [if_pos k,if_pos k,if_neg (iF k),decide_eq_false (iF k)];exact ⟨by show (0:Int)=0+0;omega,rfl⟩
  ·
   subst k;rw [if_neg (by rw [lt_irrefl];simp),if_pos rfl,if_pos rfl,if_neg (by rw [lt_irrefl];simp)];exact ⟨rfl,by simp [has]⟩
  ·
   have hne:e≠c:=fun h=>iF k h.symm
   rw [if_neg (by rw [lt_asymm k];simp),if_neg hne,if_neg hne,if_neg (by rw [lt_asymm k];simp),decide_eq_false hne];exact ⟨by show (0:Int)=0+0;omega,rfl⟩
 | a::l=>by
  have ih:=nM c e n l;unfold val at ih ⊢;rcases fq a.aF e with k | k | k
  ·
   rw [bJ k,gX,gX,jc,jc];by_cases h:lt a.aF c=true
   ·
    rw [if_pos h,if_pos h,if_pos h,if_pos h];exact ih
   ·
    rw [if_neg h,if_neg h,if_neg h,if_neg h]
    have hne:e≠c:=by
     rintro rfl;exact h k
    rw [if_neg hne,decide_eq_false hne,Bool.or_false];exact ⟨by omega,rfl⟩
  ·
   rw [bV k,gX,gX,jc,jc];subst k;show (if lt a.aF c=true then part c l else if a.aF=c then more a n else ⟨c,0⟩).dG=_/\(if lt a.aF c=true then has c l else decide (a.aF=c))=_;by_cases h:lt a.aF c=true
   ·
    rw [if_pos h,if_pos h,if_pos h,if_neg (iF h),decide_eq_false (iF h),Bool.or_false];exact ⟨by omega,rfl⟩
   ·
    rw [if_neg h,if_neg h,if_neg h];by_cases e':a.aF=c
    ·
     rw [if_pos e',if_pos e',if_pos e'];exact ⟨rfl,by simp [e']⟩
    ·
     rw [if_neg e',if_neg e',if_neg e'];exact ⟨by omega,by simp [e']⟩
  ·
   rw [bW k,gX,jc];show (if lt e c=true then part c (a::l) else if e=c then ⟨e,0+n⟩ else ⟨c,0⟩).dG=_/\(if lt e c=true then has c (a::l) else decide (e=c))=_;rcases fq e c with h | h | h
   ·
    rw [if_pos h,if_pos h,if_neg (iF h),decide_eq_false (iF h),Bool.or_false];exact ⟨by omega,rfl⟩
   ·
    subst h;rw [if_neg (by rw [lt_irrefl];simp),if_pos rfl,if_pos rfl,if_neg (by rw [lt_irrefl];simp),gX,if_neg (by rw [lt_asymm k];simp),if_neg (fun q=>iF k q.symm)];exact ⟨rfl,by simp⟩
   ·
    have hne:e≠c:=fun q=>iF h q.symm
    have hca:lt c a.aF=true:=lt_trans h k;rw [if_neg (by rw [lt_asymm h];simp),if_neg hne,if_neg hne,if_neg (by rw [lt_asymm h];simp),gX,jc,if_neg (by rw [lt_asymm hca];simp),if_neg (fun q=>iF hca q.symm),if_neg (by rw [lt_asymm hca];simp),decide_eq_false hne,decide_eq_false (fun q=>iF hca q.symm)];exact ⟨by show (0:Int)=0+0;omega,rfl⟩
theorem KC (c:ByteArray):∀ (ls b:List Ba.T),val c (iR ls b)=val c b+rows c ls/\has c (iR ls b)=(has c b||named c ls)
 | [],b=>by
  refine ⟨by show _=_+0;rw [iR];omega,?_⟩;rw [iR];show _=(_||false);rw [Bool.or_false]
 | x::l,b=>by
  have h1:=KC c l (enter x.aF x.dG b);have h2:=nM c x.aF x.dG b;rw [iR,h1.1,h1.2,h2.1,h2.2];refine ⟨by rw [rows];omega,?_⟩;show _=(_||(decide (x.aF=c)||named c l));rw [Bool.or_assoc]
theorem look {c:ByteArray}:∀ {l:List Ba.T},Sorted l->∀ {x:Ba.T},x∈l->x.aF=c->part c l=x/\has c l=true
 | a::l,h,x,hx,e=>by
  have h1:=(List.pairwise_cons.1 h).1;have h2:=(List.pairwise_cons.1 h).2;rw [gX,jc];rcases List.mem_cons.1 hx with rfl | hx
  ·
   rw [if_neg (by rw [e,lt_irrefl];simp),if_pos e,if_neg (by rw [e,lt_irrefl];simp)];exact ⟨rfl,decide_eq_true e⟩
  ·
   have:=h1 x hx;rw [e] at this;rw [if_pos this,if_pos this];exact look h2 hx e
theorem yg {c:ByteArray}:∀ {l:List Ba.T},has c l=true->∃ x∈l,x.aF=c
 | a::l,h=>by
  rw [jc] at h;by_cases k:lt a.aF c=true
  ·
   rw [if_pos k] at h;obtain ⟨x,hx,e⟩:=yg h;exact ⟨x,by simp [hx],e⟩
  ·
   rw [if_neg k] at h;exact ⟨a,by simp,of_decide_eq_true h⟩
theorem yU {c:ByteArray}:∀ {l:List Ba.T},has c l=false->val c l=0
 | [],_=>rfl
 | a::l,h=>by
  unfold val;rw [jc] at h;rw [gX];by_cases k:lt a.aF c=true
  ·
   rw [if_pos k] at h ⊢;exact yU h
  ·
   rw [if_neg k] at h ⊢;rw [if_neg (of_decide_eq_false h)]
def sU:ByteArray:=⟨#[111,119,101,100]⟩
def Ml:ByteArray:=⟨#[110,101,116,47]⟩
def Mq:ByteArray:=⟨#[116,97,120,47]⟩
def rowsOf (p:Pt.T):List Ba.T:=[⟨Ml++p.cat,-p.net⟩,⟨Mq++p.cat,-p.aP⟩]
def bE (g:Int) (ps:List Pt.T):List Ba.T:=⟨sU,g⟩::ps.flatMap rowsOf
def AU (p:Pt.T):Bool:=decide (Mn.err (-p.net)≠0\/Mn.err (-p.aP)≠0)
def dR (ps:List Pt.T):Int:=if ps.any AU=true then 7 else 0
def qG (g:Int) (ps:List Pt.T):List Ba.T:=if dR ps=0 then bE g ps else []
theorem EM {ps:List Pt.T} {p:Pt.T} (g:Int) (hp:p∈ps) (h:AU p=true):dR ps=7/\qG g ps=[]:=by
 have e:dR ps=7:=if_pos (List.any_eq_true.2 ⟨p,hp,h⟩);exact ⟨e,by unfold qG;rw [e];rfl⟩
theorem UF {ps:List Pt.T} (g:Int) (h:∀ p∈ps,AU p=false):dR ps=0/\qG g ps=bE g ps:=by
 have e:dR ps=0:=if_neg (by rw [Bool.not_eq_true,List.any_eq_false];intro p hp;rw [h p hp];simp);exact ⟨e,by unfold qG;rw [e];rfl⟩
theorem Iy {p:Pt.T} (h1:Mn.err (-p.net)=0) (h2:Mn.err (-p.aP)=0):AU p=false:=decide_eq_false (by rw [h1,h2];simp)
theorem u7 {p:Pt.T} (h:Mn.err (-p.net)≠0\/Mn.err (-p.aP)≠0):AU p=true:=decide_eq_true h
theorem Mr (g:Int) (ps:List Pt.T) (k:Nat) (h:k < ps.length):bE g (ps.take (k+1))=bE g (ps.take k)++rowsOf ps[k]:=by
 unfold bE;rw [List.take_succ_eq_append_getElem h,List.flatMap_append,List.cons_append]
 simp
end Go.Proofs.YtpfdnemaaeolcaaGreat.Po
namespace Go.Proofs.YtpfdnemaaeolcaaGreat.Sn
open Go.RowKit
open Mem
structure T where
 id:Int
 last:Int
 why:Int
 num:Int
 au:Int
def val (r:T):Value:=.agg #[.int .i64 r.id,.int .i64 r.last,.int .i64 r.why,.int .i64 r.num,.int .i64 r.au]
def Short (r:T):Prop:=Fit r.id/\Fit r.last/\Fit r.why/\Fit r.num/\Fit r.au
def box (w:World) (r:T):World:=w.alloc (.cells #[.int .i64 r.id,.int .i64 r.last,.int .i64 r.why,.int .i64 r.num,.int .i64 r.au] 84)
def C (u:World) (b:Nat) (r:T):Prop :=
 u.cell? ⟨b,0,none⟩=some (.int .i64 r.id)/\u.cell? ⟨b,1,none⟩=some (.int .i64 r.last)/\u.cell? ⟨b,2,none⟩=some (.int .i64 r.why)/\u.cell? ⟨b,3,none⟩=some (.int .i64 r.num)/\u.cell? ⟨b,4,none⟩=some (.int .i64 r.au)
theorem C.below {v:World} {b:Nat} {r:T} (h:C u b r) (k:Below u.heap.size u v):C v b r:=by
 obtain ⟨h0,h1,h2,h3,h4⟩:=h;have hl:=aH h0;unfold C;rw [(aD k).1 _ _ hl,(aD k).1 _ _ hl,(aD k).1 _ _ hl,(aD k).1 _ _ hl,(aD k).1 _ _ hl];exact ⟨h0,h1,h2,h3,h4⟩
theorem dO (w:World) (r:T):C (box w r) w.heap.size r:=by
 unfold box C;simp [go_sem]
theorem aC (w:World) (r:T):Below w.heap.size w (box w r):=(Below.refl _ _).alloc (Nat.le_refl _) _
theorem bZ (w:World) (a:T):∃ W,w.alloc (.cells #[.int .i64 a.id,.int .i64 a.last,.int .i64 a.why,.int .i64 a.num,.int .i64 a.au] 84)=W/\Below w.heap.size w W/\C W w.heap.size a :=
 ⟨_,rfl,aC w a,dO w a⟩
structure At (u:World) (b o:Nat) (r:T):Prop where
 c0:u.cell? ⟨b,o,none⟩=some (.int .i64 r.id)
 c1:u.cell? ⟨b,o+1,none⟩=some (.int .i64 r.last)
 c2:u.cell? ⟨b,o+2,none⟩=some (.int .i64 r.why)
 c3:u.cell? ⟨b,o+3,none⟩=some (.int .i64 r.num)
 c4:u.cell? ⟨b,o+4,none⟩=some (.int .i64 r.au)
theorem At.below {v:World} {b:Nat} {r:T} (h:At u b o r) (k:Below u.heap.size u v):At v b o r:=by
 have hl:=aH h.c0;exact ⟨by rw [(aD k).1 _ _ hl];exact h.c0,by rw [(aD k).1 _ _ hl];exact h.c1,by rw [(aD k).1 _ _ hl];exact h.c2,by rw [(aD k).1 _ _ hl];exact h.c3,by rw [(aD k).1 _ _ hl];exact h.c4⟩
def Seg (w:World) (ao:Option Addr) (rs:List T):Prop:=rs=[]\/∃ b off,ao=some ⟨b,off,none⟩/\∀ (k:Nat) (hk:k < rs.length),At w b (off+k*5) rs[k]
theorem Seg.below {w v:World} {ao:Option Addr} {rs:List T} (h:Seg w ao rs) (k:Below w.heap.size w v):Seg v ao rs:=by
 rcases h with h | ⟨b,off,e,h⟩
 · exact .inl h
 · exact .inr ⟨b,off,e,fun i hi=>(h i hi).below k⟩
structure Ls (w:World) (ao:Option Addr) (n cap:Nat) (rs:List T):Prop where
 len:n=rs.length
 fits:n<=cap
 reach:cap<=9223372036854775807
 nil:ao=none->cap=0
 seg:Seg w ao rs
 short:∀ r∈rs,Short r
theorem Ls.below {w v:World} {ao:Option Addr} {n cap:Nat} {rs:List T} (h:Ls w ao n cap rs) (k:Below w.heap.size w v):Ls v ao n cap rs :=
 ⟨h.len,h.fits,h.reach,h.nil,h.seg.below k,h.short⟩
theorem Ls.at {w:World} {ao:Option Addr} {n cap:Nat} {rs:List T} (h:Ls w ao n cap rs) (hn:0 < n):∃ b off,ao=some ⟨b,off,none⟩:=by
 rcases h.seg with e | ⟨b,off,e,_⟩
 ·
  have:=h.len;rw [e] at this;simp at this;omega
 · exact ⟨b,off,e⟩
theorem Ls.row {b n:Nat} {rs:List T} (h:Ls w (some ⟨b,off,none⟩) n cap rs) (k:Nat) (hk:k < rs.length):At w b (off+k*5) rs[k]:=by
 rcases h.seg with e | ⟨b',off',e,hs⟩
 ·
  subst e;simp at hk
 ·
  cases e
  exact hs k hk
theorem dL (w:World):Ls w none 0 0 []:=⟨rfl,Nat.le_refl _,by omega,fun _=>rfl,.inl rfl,by simp⟩
theorem und:Tryz.prog.underlying 28=some (.slice (Tryz.prog.elem 28)):=by kernel_rfl
theorem size (u:World):(sizeOf (Tryz.prog.elem 28)).run Tryz.prog u=.ok 5 u:=by
 have h:(Tryz.prog.info? (Tryz.prog.elem 28)).map (·.size)=some 5:=by kernel_rfl
 obtain ⟨i,hi,hs⟩:=Option.map_eq_some_iff.1 h;simp [sizeOf,typeInfo,hi,hs]
theorem Ls.to {ao:Option Addr} {n:Nat} {rs:List T} (h:Ls w ao n cap rs) (k:Nat) (hk:k<=n) :
  (∀ u,(Instr.slice 28 (.slice ao n cap) none (some (.int .i64 (k:Int))) none).run Tryz.prog u=.ok (.slice ao k cap) u)/\Ls w ao k cap (rs.take k):=by
 have hl:=h.len;have hf:=h.fits;refine ⟨fun u=>?_,⟨by rw [List.length_take];omega,by omega,h.reach,h.nil,?_,fun r hr=>h.short r (List.mem_of_mem_take hr)⟩⟩
 ·
  rw [run_slice_h u 28 ao n cap und .i64 k (by omega) (by omega),size];have e:Option.map (fun x:Addr=>x.add 0) ao=ao:=by cases ao <;> simp [Addr.add]
  simp [Result.andThen,sliced,e]
 ·
  rcases h.seg with e | ⟨b,off,e,hc⟩
  · exact .inl (by rw [e];simp)
  ·
   refine .inr ⟨b,off,e,fun j hj=>?_⟩;rw [List.length_take] at hj;rw [List.getElem_take];exact hc j (by omega)
theorem Ls.from {ao:Option Addr} {n:Nat} {rs:List T} (h:Ls w ao n cap rs) (k:Nat) (hk:k<=n) :
  ∃ mO cap2,(∀ u,(Instr.slice 28 (.slice ao n cap) (some (.int .i64 (k:Int))) none none).run Tryz.prog u=.ok (.slice mO (n - k) cap2) u)/\Ls w mO (n - k) cap2 (rs.drop k):=by
 have hl:=h.len;have hf:=h.fits;refine ⟨if cap=k then ao else ao.map (·.add (k*5)),cap - k,fun u=>?_,⟨by rw [List.length_drop];omega,by omega,by have:=h.reach;omega,?_,?_,fun r hr=>h.short r (List.mem_of_mem_drop hr)⟩⟩
 ·
  rw [run_slice_l u 28 ao n cap und .i64 k (by omega) (by omega),size];simp [Result.andThen,sliced]
 ·
  by_cases e:cap=k
  · omega
  ·
   rw [if_neg e];cases ao with
   | none=>have:=h.nil rfl;omega
   | some a=>exact fun k=>by cases k
 ·
  by_cases hkn:k=n
  · exact .inl (List.drop_eq_nil_of_le (by omega))
  ·
   rcases h.seg with e | ⟨b,off,rfl,hc⟩
   · exact .inl (by rw [e];simp)
   ·
    refine .inr ⟨b,off+k*5,?_,fun j hj=>?_⟩
    ·
     rw [if_neg (by omega)];unfold Addr.add;simp only [Option.map_some,Option.some.injEq];split
     ·
      rename_i e;rw [e];rfl
     · rfl
    ·
     rw [List.length_drop] at hj;rw [List.getElem_drop,show off+k*5+j*5=off+(k+j)*5 by omega];exact hc (k+j) (by omega)
end Go.Proofs.YtpfdnemaaeolcaaGreat.Sn
