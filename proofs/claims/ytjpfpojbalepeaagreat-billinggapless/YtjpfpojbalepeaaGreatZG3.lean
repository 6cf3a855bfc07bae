import Derived.Maps.AppendAt
import Derived.Laws.AppendOwnNone
import Derived.Laws.Rows
import Derived.RegionTactic
import Derived.Laws.CopyOwn
import Derived.Laws.MakeOwn
import Derived.Lib.QuietBelow
import Derived.ProofKit
import Derived.OpenShut
import Derived.ShutString
import Derived.ChangeOld
import Derived.SizedLaws
import Derived.Deep.Slices
import Derived.Test.YtjpfpojbalepeaaGreatZG1
import Derived.Test.YtjpfpojbalepeaaGreatZG2
set_option linter.unusedVariables false
namespace Go.Proofs.YtjpfpojbalepeaaGreat.Bl
def CntOk (c : ByteArray) (l : List Ps) : Prop := ∀ i (h : i < l.length),l[i].ser = c → l[i].num = (cnt c (l.take i) : Int) + 1
def cntAll (l : List Ps) : List Sr.T → Nat
 | [] => 0
 | r :: rs => cnt r.name l + cntAll l rs
theorem cntAll_app (l : List Ps) : ∀ a b : List Sr.T,cntAll l (a ++ b) = cntAll l a + cntAll l b
 | [],b => by rw [List.nil_append,cntAll,Nat.zero_add]
 | r :: a,b => by rw [List.cons_append,cntAll,cntAll,cntAll_app l a b]; omega
theorem cntAll_take (l : List Ps) (rs : List Sr.T) (k : Nat) (h : k < rs.length) : cntAll l (rs.take (k + 1)) = cntAll l (rs.take k) + cnt rs[k].name l := by
 rw [List.take_succ_eq_append_getElem h,cntAll_app,cntAll,cntAll,Nat.add_zero]
theorem cnt_len (c : ByteArray) : ∀ l : List Ps,cnt c l ≤ l.length
 | [] => Nat.le_refl _
 | p :: l => by
  have := cnt_len c l
  rw [cnt,List.length_cons]
  split <;> omega
structure NumR (l : List Ps) (rs : List Sr.T) : Prop where
 each : ∀ r ∈ rs,CntOk r.name l ∧ (cnt r.name l : Int) = r.next - 1
 all : cntAll l rs = l.length
def hit (c : ByteArray) : List Sr.T → Nat
 | [] => 0
 | r :: rs => (if c = r.name then 1 else 0) + hit c rs
theorem hit_none {c : ByteArray} : ∀ {rs : List Sr.T},(∀ r ∈ rs,r.name ≠ c) → hit c rs = 0
 | [],_ => rfl
 | r :: rs,h => by rw [hit,if_neg (fun e => h r (by simp) e.symm),hit_none fun q hq => h q (by simp [hq])]
theorem hit_le {c : ByteArray} : ∀ {rs : List Sr.T},Se.Sorted rs → hit c rs ≤ 1
 | [],_ => Nat.zero_le _
 | r :: rs,h => by
  rw [hit]
  have h1 := List.pairwise_cons.1 h
  by_cases e : c = r.name
  ·
   rw [if_pos e,hit_none]
   · exact Nat.le_refl _
   ·
    intro q hq k
    exact Se.lt_ne (h1.1 q hq) (by rw [k,e])
  ·
   rw [if_neg e]
   have := hit_le (c := c) h1.2
   omega
theorem hit_some {c : ByteArray} : ∀ {rs : List Sr.T},0 < hit c rs ↔ ∃ r ∈ rs,r.name = c
 | [] => by simp [hit]
 | r :: rs => by
  rw [hit]
  by_cases e : c = r.name
  ·
   rw [if_pos e]
   exact ⟨fun _ => ⟨r,by simp,e.symm⟩,fun _ => by omega⟩
  ·
   rw [if_neg e,Nat.zero_add,hit_some]
   constructor
   ·
    rintro ⟨q,hq,k⟩
    exact ⟨q,by simp [hq],k⟩
   ·
    rintro ⟨q,hq,k⟩
    rcases List.mem_cons.1 hq with rfl | hq
    · exact absurd k.symm e
    · exact ⟨q,hq,k⟩
theorem cntAll_cons (p : Ps) (l : List Ps) : ∀ rs : List Sr.T,cntAll (p :: l) rs = hit p.ser rs + cntAll l rs
 | [] => rfl
 | r :: rs => by rw [cntAll,cntAll,cnt,hit,cntAll_cons p l rs]; omega
theorem cntAll_nil : ∀ rs : List Sr.T,cntAll [] rs = 0
 | [] => rfl
 | r :: rs => by rw [cntAll,cntAll_nil rs,cnt]
theorem cntAll_le {rs : List Sr.T} (hs : Se.Sorted rs) : ∀ l : List Ps,cntAll l rs ≤ l.length
 | [] => by rw [cntAll_nil]; exact Nat.zero_le _
 | p :: l => by
  have := cntAll_le hs l
  have := hit_le (c := p.ser) hs
  rw [cntAll_cons,List.length_cons]
  omega
theorem cntAll_full {rs : List Sr.T} (hs : Se.Sorted rs) : ∀ l : List Ps,cntAll l rs = l.length ↔ ∀ p ∈ l,Se.ix p.ser rs < rs.length
 | [] => by rw [cntAll_nil]; simp
 | p :: l => by
  have h1 := cntAll_le hs l
  have h2 := hit_le (c := p.ser) hs
  have ih := cntAll_full hs l
  have h3 : 0 < hit p.ser rs ↔ Se.ix p.ser rs < rs.length := hit_some.trans Se.ix_mem.symm
  rw [cntAll_cons,List.length_cons]
  constructor
  ·
   intro h q hq
   rcases List.mem_cons.1 hq with rfl | hq
   · exact h3.1 (by omega)
   · exact ih.1 (by omega) q hq
  ·
   intro h
   have := ih.2 fun q hq => h q (by simp [hq])
   have := h3.2 (h p (by simp))
   omega
theorem num_iff {l : List Ps} {rs : List Sr.T} (hs : Se.Sorted rs) : NumR l rs ↔ (∀ p ∈ l,Se.ix p.ser rs < rs.length) ∧ (∀ i (h : i < l.length),l[i].num = (cnt l[i].ser (l.take i) : Int) + 1) ∧ (∀ r ∈ rs,(cnt r.name l : Int) = r.next - 1) := by
 constructor
 ·
  intro h
  have hh := (cntAll_full hs l).1 h.all
  refine ⟨hh,fun i hi => ?_,fun r hr => (h.each r hr).2⟩
  obtain ⟨r,hr,e⟩ := Se.ix_mem.1 (hh _ (List.getElem_mem hi))
  have := (h.each r hr).1 i hi e.symm
  rw [e] at this
  exact this
 ·
  rintro ⟨h1,h2,h3⟩
  refine ⟨fun r hr => ⟨fun i hi e => ?_,h3 r hr⟩,(cntAll_full hs l).2 h1⟩
  have := h2 i hi
  rw [e] at this
  exact this
def crd (c : ByteArray) (n : Int) : List Ps → Nat
 | [] => 0
 | p :: l => (if p.ofS = c ∧ p.ofN = n then 1 else 0) + crd c n l
theorem crd_app (c : ByteArray) (n : Int) : ∀ l m : List Ps,crd c n (l ++ m) = crd c n l + crd c n m
 | [],m => by rw [List.nil_append,crd,Nat.zero_add]
 | p :: l,m => by rw [List.cons_append,crd,crd,crd_app c n l m]; omega
theorem crd_take (c : ByteArray) (n : Int) (l : List Ps) (k : Nat) (h : k < l.length) : crd c n (l.take (k + 1)) = crd c n (l.take k) + (if l[k].ofS = c ∧ l[k].ofN = n then 1 else 0) := by
 rw [List.take_succ_eq_append_getElem h,crd_app,crd,crd,Nat.add_zero]
theorem crd_some {c : ByteArray} {n : Int} : ∀ {l : List Ps},0 < crd c n l → ∃ j,∃ h : j < l.length,l[j].ofS = c ∧ l[j].ofN = n
 | [],h => absurd h (Nat.lt_irrefl _)
 | p :: l,h => by
  by_cases e : p.ofS = c ∧ p.ofN = n
  · exact ⟨0,by simp,e⟩
  ·
   rw [crd,if_neg e,Nat.zero_add] at h
   obtain ⟨j,hj,k⟩ := crd_some h
   exact ⟨j + 1,by rw [List.length_cons]; omega,k⟩
theorem crd_pos {c : ByteArray} {n : Int} : ∀ {l : List Ps} {j : Nat} (h : j < l.length),l[j].ofS = c ∧ l[j].ofN = n → 0 < crd c n l
 | [],j,h,_ => absurd h (Nat.not_lt_zero _)
 | p :: l,0,h,e => by
  have e' : p.ofS = c ∧ p.ofN = n := e
  rw [crd,if_pos e']
  omega
 | p :: l,j + 1,h,e => by
  have := crd_pos (c := c) (n := n) (l := l) (j := j) (by rw [List.length_cons] at h; omega) e
  rw [crd]
  omega
theorem crd_two {c : ByteArray} {n : Int} : ∀ {l : List Ps} {i j : Nat} (hi : i < l.length) (hj : j < l.length),i < j → l[i].ofS = c ∧ l[i].ofN = n → l[j].ofS = c ∧ l[j].ofN = n → 2 ≤ crd c n l
 | [],i,j,hi,_,_,_,_ => absurd hi (Nat.not_lt_zero _)
 | p :: l,0,j + 1,hi,hj,_,e,k => by
  have e' : p.ofS = c ∧ p.ofN = n := e
  have := crd_pos (c := c) (n := n) (l := l) (j := j) (by rw [List.length_cons] at hj; omega) k
  rw [crd,if_pos e']
  omega
 | p :: l,i + 1,j + 1,hi,hj,q,e,k => by
  have := crd_two (c := c) (n := n) (l := l) (i := i) (j := j) (by rw [List.length_cons] at hi; omega) (by rw [List.length_cons] at hj; omega) (by omega) e k
  rw [crd]
  omega
 | p :: l,i,0,_,_,q,_,_ => absurd q (Nat.not_lt_zero _)
theorem crd_one {c : ByteArray} {n : Int} : ∀ {l : List Ps},(∀ i j (hi : i < l.length) (hj : j < l.length),(l[i].ofS = c ∧ l[i].ofN = n) → (l[j].ofS = c ∧ l[j].ofN = n) → i = j) → crd c n l ≤ 1
 | [],_ => Nat.zero_le _
 | p :: l,h => by
  have ih := crd_one (c := c) (n := n) (l := l) fun i j hi hj a b => by
   have := h (i + 1) (j + 1) (by rw [List.length_cons]; omega) (by rw [List.length_cons]; omega) a b
   omega
  rw [crd]
  by_cases e : p.ofS = c ∧ p.ofN = n
  ·
   rw [if_pos e]
   rcases Nat.eq_zero_or_pos (crd c n l) with z | z
   · omega
   ·
    obtain ⟨j,hj,k⟩ := crd_some z
    have := h 0 (j + 1) (by simp) (by rw [List.length_cons]; omega) e k
    omega
  ·
   rw [if_neg e]
   omega
def Undo (p : Ps) (l : List Ps) : Prop := ∃ h : pix p.ofS p.ofN l < l.length,Own l[pix p.ofS p.ofN l] ∧ Dt.days l[pix p.ofS p.ofN l].y l[pix p.ofS p.ofN l].m l[pix p.ofS p.ofN l].d ≤ Dt.days p.y p.m p.d ∧ Iv.backE l[pix p.ofS p.ofN l].tot = 0 ∧ p.tot = Iv.back l[pix p.ofS p.ofN l].tot
structure CredR (l : List Ps) (i : Nat) (h : i < l.length) : Prop where
 of : ¬ Own l[i] → Undo l[i] (l.take i)
 cnt : crd l[i].ser l[i].num l = if l[i].back = true then 1 else 0
theorem pix_lt {c : ByteArray} {n : Int} : ∀ {l : List Ps} {k : Nat} (h : k < l.length),l[k].ser = c → l[k].num = n → pix c n l < l.length
 | [],k,h,_,_ => absurd h (Nat.not_lt_zero _)
 | p :: l,0,h,e,f => by
  have : pix c n (p :: l) = 0 := if_pos ⟨e,f⟩
  rw [this]
  exact h
 | p :: l,k + 1,h,e,f => by
  have := pix_lt (c := c) (n := n) (l := l) (k := k) (by rw [List.length_cons] at h; omega) e f
  rw [pix,List.length_cons]
  split <;> omega
theorem takes_own {l : List Ps} (pos : ∀ i (hi : i < l.length),1 ≤ l[i].num) {i j : Nat} (hi : i < l.length) (hj : j < l.length) (h : l[j].ofS = l[i].ser ∧ l[j].ofN = l[i].num) : ¬ Own l[j] := fun o => by
 have := pos i hi
 have := o.2
 omega
section
variable {l : List Ps} (inj : ∀ i j (hi : i < l.length) (hj : j < l.length),l[i].ser = l[j].ser → l[i].num = l[j].num → i = j) (pos : ∀ i (hi : i < l.length),1 ≤ l[i].num)
include inj pos
theorem link_cred (h : ∀ i (q : i < l.length),Link l i q) (i : Nat) (q : i < l.length) : CredR l i q := by
 have later : ∀ {i j : Nat} (hi : i < l.length) (hj : j < l.length),l[j].ofS = l[i].ser ∧ l[j].ofN = l[i].num → i < j := by
  intro i j hi hj e
  obtain ⟨_,k,hk,ht,_⟩ := (h j hj).of (takes_own pos hi hj e)
  have := inj k i (by omega) hi (ht.1.symm.trans e.1) (ht.2.symm.trans e.2)
  omega
 refine ⟨fun o => ?_,?_⟩
 ·
  obtain ⟨_,k,hk,ht,ho,hd,he,hb⟩ := (h i q).of o
  have hkt : k < (l.take i).length := by rw [List.length_take]; omega
  have hp : pix l[i].ofS l[i].ofN (l.take i) < (l.take i).length := pix_lt hkt (by rw [List.getElem_take]; exact ht.1.symm) (by rw [List.getElem_take]; exact ht.2.symm)
  obtain ⟨e1,e2⟩ := pix_hit hp
  rw [List.getElem_take] at e1 e2
  have hkp : pix l[i].ofS l[i].ofN (l.take i) = k := inj _ k (by rw [List.length_take] at hp; omega) (by omega) (e1.trans ht.1) (e2.trans ht.2)
  refine ⟨hp,?_⟩
  simp only [List.getElem_take,hkp]
  exact ⟨ho,hd,he,hb⟩
 ·
  have h1 : crd l[i].ser l[i].num l ≤ 1 := crd_one fun a b ha hb ea eb => (h i q).one a b ha hb (later q ha ea) (later q hb eb) ea eb
  by_cases hb : l[i].back = true
  ·
   rw [if_pos hb]
   obtain ⟨j,hj,_,ht⟩ := (h i q).back.1 hb
   have := crd_pos hj ht
   omega
  ·
   rw [if_neg hb]
   rcases Nat.eq_zero_or_pos (crd l[i].ser l[i].num l) with z | z
   · exact z
   ·
    obtain ⟨j,hj,k⟩ := crd_some z
    exact absurd ((h i q).back.2 ⟨j,hj,later q hj k,k⟩) hb
theorem cred_link (h : ∀ i (q : i < l.length),CredR l i q) (i : Nat) (q : i < l.length) : Link l i q := by
 have undo : ∀ {j : Nat} (hj : j < l.length),¬ Own l[j] → ∃ k,∃ hk : k < j,Takes (l[k]'(by omega)) l[j] ∧ Own (l[k]'(by omega)) ∧ Dt.days (l[k]'(by omega)).y (l[k]'(by omega)).m (l[k]'(by omega)).d ≤ Dt.days l[j].y l[j].m l[j].d ∧ Iv.backE (l[k]'(by omega)).tot = 0 ∧ l[j].tot = Iv.back (l[k]'(by omega)).tot := by
  intro j hj o
  obtain ⟨hp,u⟩ := (h j hj).of o
  obtain ⟨e1,e2⟩ := pix_hit hp
  rw [List.getElem_take] at e1 e2
  simp only [List.getElem_take] at u
  exact ⟨_,by rw [List.length_take] at hp; omega,⟨e1.symm,e2.symm⟩,u⟩
 have later : ∀ {i j : Nat} (hi : i < l.length) (hj : j < l.length),l[j].ofS = l[i].ser ∧ l[j].ofN = l[i].num → i < j ∧ Own l[i] := by
  intro i j hi hj e
  obtain ⟨k,hk,ht,ho,_⟩ := undo hj (takes_own pos hi hj e)
  obtain rfl := inj k i (by omega) hi (ht.1.symm.trans e.1) (ht.2.symm.trans e.2)
  exact ⟨hk,ho⟩
 have hc := (h i q).cnt
 refine ⟨⟨fun hb => ?_,?_⟩,fun j k hj hk _ _ ej ek => ?_,fun o => ⟨?_,undo q o⟩⟩
 ·
  rw [if_pos hb] at hc
  obtain ⟨j,hj,k⟩ := crd_some (c := l[i].ser) (n := l[i].num) (l := l) (by omega)
  exact ⟨j,hj,(later q hj k).1,k⟩
 ·
  rintro ⟨j,hj,_,ht⟩
  have := crd_pos hj ht
  by_cases hb : l[i].back = true
  · exact hb
  ·
   rw [if_neg hb] at hc
   omega
 ·
  have h1 : crd l[i].ser l[i].num l ≤ 1 := by rw [hc]; split <;> omega
  rcases Nat.lt_trichotomy j k with r | r | r
  ·
   have := crd_two hj hk r ej ek
   omega
  · exact r
  ·
   have := crd_two hk hj r ek ej
   omega
 ·
  cases hb : l[i].back
  · rfl
  ·
   rw [if_pos hb] at hc
   obtain ⟨j,hj,k⟩ := crd_some (c := l[i].ser) (n := l[i].num) (l := l) (by omega)
   exact absurd (later q hj k).2 o
end
def flat (l : List Ps) : List Ba.T := l.flatMap fun p => Po.entrL p.tot.gross p.tot.parts
structure BookR (l : List Ps) (b : List Ba.T) : Prop where
 entr : ∀ p ∈ l,Po.entrE p.tot.parts = 0
 entE : Po.entE [] (flat l) = 0
 book : Po.goL (flat l) [] = b
theorem goE_app : ∀ (l m b : List Ba.T),Po.goE (l ++ m) b = if Po.goE l b ≠ 0 then 7 else Po.goE m (Po.goL l b)
 | [],m,b => rfl
 | x :: l,m,b => by
  rw [List.cons_append,Po.goE,Po.goE,Po.goL,goE_app l m]
  by_cases e : Po.enterE x.acct x.amt b ≠ 0
  · rw [if_pos e,if_pos e,if_pos (by omega)]
  · rw [if_neg e,if_neg e]
theorem enterAll_flat : ∀ (l : List Ps) (b c : List Ba.T),Po.Sorted b → (enterAll l b = some c ↔ (∀ p ∈ l,Po.entrE p.tot.parts = 0) ∧ Po.goE (flat l) b = 0 ∧ Po.goL (flat l) b = c)
 | [],b,c,_ => by
  show (some b = some c ↔ _)
  rw [Option.some.injEq]
  exact ⟨fun h => ⟨by simp,rfl,h⟩,fun h => h.2.2⟩
 | p :: l,b,c,hb => by
  have hf : flat (p :: l) = Po.entrL p.tot.gross p.tot.parts ++ flat l := rfl
  have ih := enterAll_flat l (Po.goL (Po.entrL p.tot.gross p.tot.parts) b) c (Po.goL_sorted _ hb)
  have he : Po.entE b (Po.entrL p.tot.gross p.tot.parts) = Po.goE (Po.entrL p.tot.gross p.tot.parts) b := Po.ent_go ((Po.right_iff b).2 hb)
  rw [hf,goE_app,Po.goL_app,enterAll,he]
  constructor
  ·
   intro h
   split at h
   ·
    rename_i q
    obtain ⟨h1,h2,h3⟩ := ih.1 h
    refine ⟨fun r hr => ?_,?_,h3⟩
    ·
     rcases List.mem_cons.1 hr with rfl | hr
     · exact q.1
     · exact h1 r hr
    ·
     rw [if_neg (by rw [q.2]; simp)]
     exact h2
   · cases h
  ·
   rintro ⟨h1,h2,h3⟩
   split at h2
   · omega
   ·
    rename_i q
    rw [if_pos ⟨h1 p (by simp),Decidable.not_not.1 q⟩]
    exact ih.2 ⟨fun r hr => h1 r (by simp [hr]),h2,h3⟩
theorem book_iff (l : List Ps) (b : List Ba.T) : BookR l b ↔ enterAll l [] = some b := by
 rw [enterAll_flat l [] b List.Pairwise.nil]
 have he : Po.entE [] (flat l) = Po.goE (flat l) [] := Po.ent_go rfl
 exact ⟨fun h => ⟨h.entr,he ▸ h.entE,h.book⟩,fun ⟨h1,h2,h3⟩ => ⟨h1,he.trans h2,h3⟩⟩
structure Landed (s : St) : Prop where
 tab : Vt.tableB s.tab = true
 ser : Se.rightB s.ser = true
 next : 1 ≤ s.next ∧ s.next ≤ 1099511627776
 sess : Sp.rightB s.sess = true
 ids : ∀ x ∈ s.sess,x.id < s.next
 few : s.post.length ≤ 40
 num : NumR s.post s.ser
 each : ∀ p ∈ s.post,Dt.rightB p.y p.m p.d = true ∧ TotR p.tot
 cred : ∀ i (h : i < s.post.length),CredR s.post i h
 book : BookR s.post s.book
theorem num_inj {l : List Ps} (h : ∀ i (q : i < l.length),l[i].num = (cnt l[i].ser (l.take i) : Int) + 1) : ∀ i j (hi : i < l.length) (hj : j < l.length),l[i].ser = l[j].ser → l[i].num = l[j].num → i = j := by
 have key : ∀ i j (hi : i < l.length) (hj : j < l.length),l[i].ser = l[j].ser → l[i].num = l[j].num → ¬ i < j := by
  intro i j hi hj e f q
  have h1 := h i hi
  have h2 := h j hj
  have h3 := cnt_take l[i].ser l i hi
  rw [if_pos rfl] at h3
  have h4 := cnt_mono l[i].ser l (i := i + 1) (j := j) (by omega)
  rw [← e] at h2
  omega
 intro i j hi hj e f
 have := key i j hi hj e f
 have := key j i hj hi e.symm f.symm
 omega
theorem landed_iff (s : St) : Landed s ↔ Right s := by
 constructor
 ·
  intro h
  have hs := ((Se.right_iff _).1 h.ser).2.2
  obtain ⟨h1,h2,h3⟩ := (num_iff hs).1 h.num
  have pos : ∀ i (hi : i < s.post.length),1 ≤ s.post[i].num := fun i hi => by have := h2 i hi; omega
  exact ⟨h.tab,h.ser,h.sess,h.few,h.next,h.ids,h1,h2,h3,fun p hp => (h.each p hp).1,fun p hp => (h.each p hp).2,cred_link (num_inj h2) pos h.cred,(book_iff _ _).1 h.book⟩
 ·
  intro h
  have hs := ((Se.right_iff _).1 h.ser).2.2
  exact ⟨h.tab,h.ser,h.next,h.sess,h.ids,h.few,(num_iff hs).2 ⟨h.has,h.num,h.full⟩,fun p hp => ⟨h.day p hp,h.tot p hp⟩,link_cred (num_inj h.num) (fun i hi => h.pos i hi) h.link,(book_iff _ _).2 h.book⟩
end Go.Proofs.YtjpfpojbalepeaaGreat.Bl
namespace Go.Proofs.YtjpfpojbalepeaaGreat.Bl
open Vt (Rt)
theorem did_post {s : St} {c : Cm} : (doS s c).post = s.post ∨ (c.kind = 4 ∧ (doS s c).post = s.post ++ [inv s c (Iv.totT s.tab c.y c.m c.d c.lines) .empty 0]) ∨ (c.kind = 5 ∧ (doS s c).post = mark s.post (pix c.ofS c.ofN s.post) ++ [inv s c (Iv.back (old s c).tot) c.ofS c.ofN]) := by
 unfold doS
 split
 · exact .inl rfl
 ·
  split
  · exact .inl rfl
  ·
   split
   · exact .inl rfl
   ·
    split
    ·
     rename_i k
     exact .inr (.inl ⟨k,rfl⟩)
    ·
     split
     ·
      rename_i k
      exact .inr (.inr ⟨k,rfl⟩)
     ·
      split
      · exact .inl rfl
      · exact .inl rfl
structure Grown (s : St) (c : Cl) : Prop where
 kind : kindB c.cmd.kind = true
 not6 : c.cmd.kind ≠ 6
 look : Sp.lookE s.sess c.sess c.seq = 0
 fresh : Sp.lookO s.sess c.sess c.seq = false
 doE : doE s c.cmd = 0
 len : (apply s c).1.post.length = s.post.length + 1
 why : (apply s c).2.why = 0
 last : ∀ h : s.post.length < (apply s c).1.post.length,(apply s c).2.num = ((apply s c).1.post[s.post.length]).num ∧ (apply s c).2.gross = ((apply s c).1.post[s.post.length]).tot.gross ∧ ((apply s c).1.post[s.post.length]).ser = c.cmd.ser
theorem get_last {l : List Ps} {p : Ps} {n : Nat} (e : l.length = n) (h : n < (l ++ [p]).length) : (l ++ [p])[n] = p := by
 subst e
 exact get_new h
theorem grown {s : St} {c : Cl} (h : (apply s c).1.post.length ≠ s.post.length) : Grown s c := by
 have key : ∀ {x : St × Rp.T},Step s c x → x.1.post.length ≠ s.post.length → kindB c.cmd.kind = true ∧ c.cmd.kind ≠ 6 ∧ Sp.lookE s.sess c.sess c.seq = 0 ∧ Sp.lookO s.sess c.sess c.seq = false ∧ Bl.doE s c.cmd = 0 ∧ x.1.post.length = s.post.length + 1 ∧ x.2.why = 0 ∧ ∀ q : s.post.length < x.1.post.length,x.2.num = (x.1.post[s.post.length]).num ∧ x.2.gross = (x.1.post[s.post.length]).tot.gross ∧ (x.1.post[s.post.length]).ser = c.cmd.ser := by
  intro x hx hn
  cases hx with
  | kind => exact absurd rfl hn
  | full => exact absurd rfl hn
  | join hk h6 h8 hn' => exact absurd rfl hn
  | look => exact absurd rfl hn
  | again => exact absurd rfl hn
  | bad hk h6 hl ho he => exact absurd rfl hn
  | good hk h6 hl ho he =>
   refine ⟨hk,h6,hl,ho,he,?_⟩
   have e : (kept (doS s c.cmd) c (doR s c.cmd)).post = (doS s c.cmd).post := rfl
   rcases did_post (s := s) (c := c.cmd) with q | ⟨k,q⟩ | ⟨k,q⟩
   ·
    exfalso
    apply hn
    show (doS s c.cmd).post.length = _
    rw [q]
   ·
    refine ⟨?_,?_,?_⟩
    ·
     show (doS s c.cmd).post.length = _
     rw [q,List.length_append]
     rfl
    ·
     show (doR s c.cmd).why = 0
     unfold doR
     rw [if_pos k]
    ·
     intro hq
     have hq' : s.post.length < (doS s c.cmd).post.length := hq
     show (doR s c.cmd).num = ((doS s c.cmd).post[s.post.length]).num ∧ (doR s c.cmd).gross = ((doS s c.cmd).post[s.post.length]).tot.gross ∧ ((doS s c.cmd).post[s.post.length]).ser = c.cmd.ser
     have : (doS s c.cmd).post[s.post.length] = inv s c.cmd (Iv.totT s.tab c.cmd.y c.cmd.m c.cmd.d c.cmd.lines) .empty 0 := by
      simp only [q]
      exact get_last rfl _
     rw [this]
     unfold doR
     rw [if_pos k]
     exact ⟨rfl,rfl,rfl⟩
   ·
    refine ⟨?_,?_,?_⟩
    ·
     show (doS s c.cmd).post.length = _
     rw [q,List.length_append,mark_len]
     rfl
    ·
     show (doR s c.cmd).why = 0
     unfold doR
     rw [if_neg (by omega),if_pos k]
    ·
     intro hq
     have hq' : s.post.length < (doS s c.cmd).post.length := hq
     show (doR s c.cmd).num = ((doS s c.cmd).post[s.post.length]).num ∧ (doR s c.cmd).gross = ((doS s c.cmd).post[s.post.length]).tot.gross ∧ ((doS s c.cmd).post[s.post.length]).ser = c.cmd.ser
     have : (doS s c.cmd).post[s.post.length] = inv s c.cmd (Iv.back (old s c.cmd).tot) c.cmd.ofS c.cmd.ofN := by
      simp only [q]
      exact get_last (mark_len _ _) _
     rw [this]
     unfold doR
     rw [if_neg (by omega),if_pos k]
     exact ⟨rfl,rfl,rfl⟩
 obtain ⟨a1,a2,a3,a4,a5,a6,a7,a8⟩ := key (apply_step s c) h
 exact ⟨a1,a2,a3,a4,a5,a6,a7,a8⟩
structure Refused (s t : St) : Prop where
 tab : t.tab = s.tab
 ser : t.ser = s.ser
 post : t.post = s.post
 book : t.book = s.book
 next : t.next = s.next
 sess : t.sess.length = s.sess.length
end Go.Proofs.YtjpfpojbalepeaaGreat.Bl
namespace Go.Proofs.YtjpfpojbalepeaaGreat.Mem
structure Sl where
 ao : Option Addr
 n : Nat
 cap : Nat
end Go.Proofs.YtjpfpojbalepeaaGreat.Mem
namespace Go.Proofs.YtjpfpojbalepeaaGreat.Pd
open Go.RowKit
open Mem
structure T where
 ser : ByteArray
 num : Int
 y : Int
 m : Int
 d : Int
 net : Int
 tax : Int
 gross : Int
 parts : Sl
 ofS : ByteArray
 ofN : Int
 back : Bool
def val (r : T) : Value := .agg #[.string r.ser,.int .i64 r.num,.int .i64 r.y,.int .i64 r.m,.int .i64 r.d,.int .i64 r.net,.int .i64 r.tax,.int .i64 r.gross,.slice r.parts.ao r.parts.n r.parts.cap,.string r.ofS,.int .i64 r.ofN,.bool r.back]
def Short (r : T) : Prop := r.ser.size ≤ 140737488355328 ∧ Fit r.num ∧ Fit r.y ∧ Fit r.m ∧ Fit r.d ∧ Fit r.net ∧ Fit r.tax ∧ Fit r.gross ∧ r.ofS.size ≤ 140737488355328 ∧ Fit r.ofN
def box (w : World) (r : T) : World := w.alloc (.cells #[.string r.ser,.int .i64 r.num,.int .i64 r.y,.int .i64 r.m,.int .i64 r.d,.int .i64 r.net,.int .i64 r.tax,.int .i64 r.gross,.slice r.parts.ao r.parts.n r.parts.cap,.string r.ofS,.int .i64 r.ofN,.bool r.back] 66)
def C (u : World) (b : Nat) (r : T) : Prop :=
 u.cell? ⟨b,0,none⟩ = some (.string r.ser) ∧ u.cell? ⟨b,1,none⟩ = some (.int .i64 r.num) ∧ u.cell? ⟨b,2,none⟩ = some (.int .i64 r.y) ∧ u.cell? ⟨b,3,none⟩ = some (.int .i64 r.m) ∧ u.cell? ⟨b,4,none⟩ = some (.int .i64 r.d) ∧ u.cell? ⟨b,5,none⟩ = some (.int .i64 r.net) ∧ u.cell? ⟨b,6,none⟩ = some (.int .i64 r.tax) ∧ u.cell? ⟨b,7,none⟩ = some (.int .i64 r.gross) ∧ u.cell? ⟨b,8,none⟩ = some (.slice r.parts.ao r.parts.n r.parts.cap) ∧ u.cell? ⟨b,9,none⟩ = some (.string r.ofS) ∧ u.cell? ⟨b,10,none⟩ = some (.int .i64 r.ofN) ∧ u.cell? ⟨b,11,none⟩ = some (.bool r.back)
theorem C.below {u v : World} {b : Nat} {r : T} (h : C u b r) (k : Below u.heap.size u v) : C v b r := by
 obtain ⟨h0,h1,h2,h3,h4,h5,h6,h7,h8,h9,h10,h11⟩ := h
 have hl := cell_lt h0
 unfold C
 rw [(bcell k).1 _ _ hl,(bcell k).1 _ _ hl,(bcell k).1 _ _ hl,(bcell k).1 _ _ hl,(bcell k).1 _ _ hl,(bcell k).1 _ _ hl,(bcell k).1 _ _ hl,(bcell k).1 _ _ hl,(bcell k).1 _ _ hl,(bcell k).1 _ _ hl,(bcell k).1 _ _ hl,(bcell k).1 _ _ hl]
 exact ⟨h0,h1,h2,h3,h4,h5,h6,h7,h8,h9,h10,h11⟩
theorem c_box (w : World) (r : T) : C (box w r) w.heap.size r := by
 unfold box C
 simp [go_sem]
theorem box_size (w : World) (r : T) : (box w r).heap.size = w.heap.size + 1 := by
 unfold box
 simp
theorem below_own (w : World) (r : T) : Below w.heap.size w (box w r) := (Below.refl _ _).alloc (Nat.le_refl _) _
theorem boxed1 (w : World) (a : T) : ∃ W,w.alloc (.cells #[.string a.ser,.int .i64 a.num,.int .i64 a.y,.int .i64 a.m,.int .i64 a.d,.int .i64 a.net,.int .i64 a.tax,.int .i64 a.gross,.slice a.parts.ao a.parts.n a.parts.cap,.string a.ofS,.int .i64 a.ofN,.bool a.back] 66) = W ∧ Below w.heap.size w W ∧ C W w.heap.size a :=
 ⟨_,rfl,below_own w a,c_box w a⟩
end Go.Proofs.YtjpfpojbalepeaaGreat.Pd
namespace Go.Proofs.YtjpfpojbalepeaaGreat.Pd
open Go.RowKit
open Mem
structure At (u : World) (b o : Nat) (r : T) : Prop where
 c0 : u.cell? ⟨b,o,none⟩ = some (.string r.ser)
 c1 : u.cell? ⟨b,o + 1,none⟩ = some (.int .i64 r.num)
 c2 : u.cell? ⟨b,o + 2,none⟩ = some (.int .i64 r.y)
 c3 : u.cell? ⟨b,o + 3,none⟩ = some (.int .i64 r.m)
 c4 : u.cell? ⟨b,o + 4,none⟩ = some (.int .i64 r.d)
 c5 : u.cell? ⟨b,o + 5,none⟩ = some (.int .i64 r.net)
 c6 : u.cell? ⟨b,o + 6,none⟩ = some (.int .i64 r.tax)
 c7 : u.cell? ⟨b,o + 7,none⟩ = some (.int .i64 r.gross)
 c8 : u.cell? ⟨b,o + 8,none⟩ = some (.slice r.parts.ao r.parts.n r.parts.cap)
 c9 : u.cell? ⟨b,o + 9,none⟩ = some (.string r.ofS)
 c10 : u.cell? ⟨b,o + 10,none⟩ = some (.int .i64 r.ofN)
 c11 : u.cell? ⟨b,o + 11,none⟩ = some (.bool r.back)
theorem At.below {u v : World} {b o : Nat} {r : T} (h : At u b o r) (k : Below u.heap.size u v) : At v b o r := by
 have hl := cell_lt h.c0
 exact ⟨by rw [(bcell k).1 _ _ hl]; exact h.c0,by rw [(bcell k).1 _ _ hl]; exact h.c1,by rw [(bcell k).1 _ _ hl]; exact h.c2,by rw [(bcell k).1 _ _ hl]; exact h.c3,by rw [(bcell k).1 _ _ hl]; exact h.c4,by rw [(bcell k).1 _ _ hl]; exact h.c5,by rw [(bcell k).1 _ _ hl]; exact h.c6,by rw [(bcell k).1 _ _ hl]; exact h.c7,by rw [(bcell k).1 _ _ hl]; exact h.c8,by rw [(bcell k).1 _ _ hl]; exact h.c9,by rw [(bcell k).1 _ _ hl]; exact h.c10,by rw [(bcell k).1 _ _ hl]; exact h.c11⟩
def Seg (w : World) (ao : Option Addr) (rs : List T) : Prop := rs = [] ∨ ∃ b off,ao = some ⟨b,off,none⟩ ∧ ∀ (k : Nat) (hk : k < rs.length),At w b (off + k * 12) rs[k]
theorem Seg.below {w v : World} {ao : Option Addr} {rs : List T} (h : Seg w ao rs) (k : Below w.heap.size w v) : Seg v ao rs := by
 rcases h with h | ⟨b,off,e,h⟩
 · exact .inl h
 · exact .inr ⟨b,off,e,fun i hi => (h i hi).below k⟩
structure Ls (w : World) (ao : Option Addr) (n cap : Nat) (rs : List T) : Prop where
 len : n = rs.length
 fits : n ≤ cap
 reach : cap ≤ 9223372036854775807
 nil : ao = none → cap = 0
 seg : Seg w ao rs
 short : ∀ r ∈ rs,Short r
theorem Ls.below {w v : World} {ao : Option Addr} {n cap : Nat} {rs : List T} (h : Ls w ao n cap rs) (k : Below w.heap.size w v) : Ls v ao n cap rs :=
 ⟨h.len,h.fits,h.reach,h.nil,h.seg.below k,h.short⟩
theorem Ls.at {w : World} {ao : Option Addr} {n cap : Nat} {rs : List T} (h : Ls w ao n cap rs) (hn : 0 < n) : ∃ b off,ao = some ⟨b,off,none⟩ := by
 rcases h.seg with e | ⟨b,off,e,_⟩
 ·
  have := h.len
  rw [e] at this
  simp at this
  omega
 · exact ⟨b,off,e⟩
theorem Ls.row {w : World} {b off n cap : Nat} {rs : List T} (h : Ls w (some ⟨b,off,none⟩) n cap rs) (k : Nat) (hk : k < rs.length) : At w b (off + k * 12) rs[k] := by
 rcases h.seg with e | ⟨b',off',e,hs⟩
 ·
  subst e
  simp at hk
 ·
  cases e
  exact hs k hk
theorem ls_nil (w : World) : Ls w none 0 0 [] := ⟨rfl,Nat.le_refl _,by omega,fun _ => rfl,.inl rfl,by simp⟩
theorem und : Tryz.prog.underlying 38 = some (.slice (Tryz.prog.elem 38)) := by kernel_rfl
theorem size (u : World) : (sizeOf (Tryz.prog.elem 38)).run Tryz.prog u = .ok 12 u := by
 have h : (Tryz.prog.info? (Tryz.prog.elem 38)).map (·.size) = some 12 := by kernel_rfl
 obtain ⟨i,hi,hs⟩ := Option.map_eq_some_iff.1 h
 simp [sizeOf,typeInfo,hi,hs]
theorem Ls.to {w : World} {ao : Option Addr} {n cap : Nat} {rs : List T} (h : Ls w ao n cap rs) (k : Nat) (hk : k ≤ n) :
  (∀ u,(Instr.slice 38 (.slice ao n cap) none (some (.int .i64 (k : Int))) none).run Tryz.prog u = .ok (.slice ao k cap) u) ∧ Ls w ao k cap (rs.take k) := by
 have hl := h.len
 have hf := h.fits
 refine ⟨fun u => ?_,⟨by rw [List.length_take]; omega,by omega,h.reach,h.nil,?_,fun r hr => h.short r (List.mem_of_mem_take hr)⟩⟩
 ·
  rw [run_slice_h u 38 ao n cap und .i64 k (by omega) (by omega),size]
  have e : Option.map (fun x : Addr => x.add 0) ao = ao := by cases ao <;> simp [Addr.add]
  simp [Result.andThen,sliced,e]
 ·
  rcases h.seg with e | ⟨b,off,e,hc⟩
  · exact .inl (by rw [e]; simp)
  ·
   refine .inr ⟨b,off,e,fun j hj => ?_⟩
   rw [List.length_take] at hj
   rw [List.getElem_take]
   exact hc j (by omega)
end Go.Proofs.YtjpfpojbalepeaaGreat.Pd
namespace Go.Proofs.YtjpfpojbalepeaaGreat.Pd
open Go.RowKit
open Mem
def rv (r : T) : List Value := [.string r.ser,.int .i64 r.num,.int .i64 r.y,.int .i64 r.m,.int .i64 r.d,.int .i64 r.net,.int .i64 r.tax,.int .i64 r.gross,.slice r.parts.ao r.parts.n r.parts.cap,.string r.ofS,.int .i64 r.ofN,.bool r.back]
theorem rv_len (r : T) : (rv r).length = 12 := rfl
theorem flat_len : ∀ rs : List T,(rs.flatMap rv).length = rs.length * 12
 | [] => rfl
 | r :: l => by
  rw [List.flatMap_cons,List.length_append,rv_len,flat_len l,List.length_cons]
  omega
theorem flat_at : ∀ (rs : List T) (k p : Nat) (hk : k < rs.length),p < 12 → (rs.flatMap rv)[k * 12 + p]? = (rv rs[k])[p]?
 | r :: l,0,p,_,hp => by
  rw [List.flatMap_cons,List.getElem?_append_left (by rw [rv_len]; omega),Nat.zero_mul,Nat.zero_add]
  rfl
 | r :: l,k + 1,p,hk,hp => by
  rw [List.flatMap_cons,List.getElem?_append_right (by rw [rv_len]; omega),rv_len,show (k + 1) * 12 + p - 12 = k * 12 + p by omega]
  exact flat_at l k p (by simpa using hk) hp
theorem one_cell (rs : List T) : ∀ v ∈ rs.flatMap rv,v.oneCell' = true := by
 intro v hv
 obtain ⟨r,_,h⟩ := List.mem_flatMap.1 hv
 unfold rv at h
 simp only [List.mem_cons,List.not_mem_nil,or_false] at h
 rcases h with rfl | rfl | rfl | rfl | rfl | rfl | rfl | rfl | rfl | rfl | rfl | rfl <;> rfl
theorem news_of {w : World} {b off : Nat} {rs : List T} (h : ∀ (k : Nat) (hk : k < rs.length),At w b (off + k * 12) rs[k]) (j : Nat) (u : Value) (hu : (rs.flatMap rv)[j]? = some u) : w.cell? ((⟨b,off,none⟩ : Addr).add j) = some u := by
 have hj : j < (rs.flatMap rv).length := by
  obtain ⟨hj,_⟩ := List.getElem?_eq_some_iff.1 hu
  exact hj
 rw [flat_len] at hj
 obtain ⟨k,p,rfl,hp⟩ : ∃ k p,j = k * 12 + p ∧ p < 12 := ⟨j / 12,j % 12,by omega,by omega⟩
 have hk : k < rs.length := by omega
 rw [flat_at rs k p hk hp] at hu
 have ha : (⟨b,off,none⟩ : Addr).add (k * 12 + p) = ⟨b,off + k * 12 + p,none⟩ := by
  unfold Addr.add
  split
  ·
   rename_i e
   simp only [Addr.mk.injEq,true_and,and_true]
   omega
  ·
   simp only [Addr.mk.injEq,true_and,and_true]
   omega
 rw [ha]
 obtain ⟨c0,c1,c2,c3,c4,c5,c6,c7,c8,c9,c10,c11⟩ := h k hk
 have hp' : p = 0 ∨ p = 1 ∨ p = 2 ∨ p = 3 ∨ p = 4 ∨ p = 5 ∨ p = 6 ∨ p = 7 ∨ p = 8 ∨ p = 9 ∨ p = 10 ∨ p = 11 := by omega
 unfold rv at hu
 rcases hp' with rfl | rfl | rfl | rfl | rfl | rfl | rfl | rfl | rfl | rfl | rfl | rfl
 all_goals simp at hu
 all_goals subst hu
 · exact c0
 · exact c1
 · exact c2
 · exact c3
 · exact c4
 · exact c5
 · exact c6
 · exact c7
 · exact c8
 · exact c9
 · exact c10
 · exact c11
def Own (w : World) (B : Nat) (v : Value) (xs : List T) : Prop := w.ownsRow B 66 12 v xs.length (xs.flatMap rv)
theorem own_nil (w : World) (B : Nat) : Own w B (.slice none 0 0) [] := ⟨rfl,.inl ⟨rfl,rfl⟩⟩
theorem own_ls {w : World} {B : Nat} {v : Value} {xs : List T} (h : Own w B v xs) (hs : ∀ r ∈ xs,Short r) : ∃ ao cap,v = .slice ao xs.length cap ∧ Ls w ao xs.length cap xs ∧ (∀ ad,ao = some ad → ∃ g,ad = ⟨g,0,none⟩ ∧ B ≤ g) := by
 rcases h.2 with ⟨h',h2⟩ | ⟨g,cap,cur,h',hb,hg,hnc,hcm,hcs,htake⟩
 ·
  have e : xs = [] := List.length_eq_zero_iff.1 h2
  subst e
  exact ⟨none,0,h',⟨rfl,Nat.le_refl _,by omega,fun _ => rfl,.inl rfl,hs⟩,fun ad k => by cases k⟩
 ·
  refine ⟨some ⟨g,0,none⟩,cap,h',⟨rfl,hnc,hcm,fun k => (by cases k),.inr ⟨g,0,rfl,fun k hk => ?_⟩,hs⟩,fun ad k => by cases k; exact ⟨g,rfl,hb⟩⟩
  have hcell : ∀ p,p < 12 → w.cell? ⟨g,0 + k * 12 + p,none⟩ = (rv xs[k])[p]? := by
   intro p hp
   rw [Nat.zero_add,cell_of_row w g _ _ _ _ hg,← flat_at xs k p hk hp,← htake,List.getElem?_take_of_lt (by omega)]
   simp
  exact ⟨hcell 0 (by omega),hcell 1 (by omega),hcell 2 (by omega),hcell 3 (by omega),hcell 4 (by omega),hcell 5 (by omega),hcell 6 (by omega),hcell 7 (by omega),hcell 8 (by omega),hcell 9 (by omega),hcell 10 (by omega),hcell 11 (by omega)⟩
def zero : T := ⟨.empty,0,0,0,0,0,0,0,⟨none,0,0⟩,.empty,0,false⟩
def zeroV : Value := .agg #[.string .empty,.int .i64 0,.int .i64 0,.int .i64 0,.int .i64 0,.int .i64 0,.int .i64 0,.int .i64 0,.slice none 0 0,.string .empty,.int .i64 0,.bool false]
theorem info : (Tryz.prog.info? 66).map (fun i => (i.zero,i.size,i.bytes)) = some (some zeroV,12,128) := by kernel_rfl
theorem wp_append {o : Oper} {a : Act} {K : Act → World → Prop} {Q : Exit → Act → World → Prop} (w : World) (s x : Operand)
  (ho : o.op = .call { callee := .builtin .append,args := #[s,x],argTypes := #[38,38] })
  (B : Nat) (v : Value) (xs : List T) (hs : a.eval s = v) (hown : Own w B v xs)
  (ao : Option Addr) (n cap : Nat) (zs : List T) (hx : a.eval x = .slice ao n cap) (hn : n = zs.length) (hnil : ao = none → cap = 0) (hsrc : Seg w ao zs) (hl : (xs.length + n) * 128 ≤ 140737488355328) (hb : B ≤ w.heap.size)
  (h : ∀ v' w1,Own w1 B v' (xs ++ zs) → w.grownBy w1 v.ownBlock → (v'.ownBlock = v.ownBlock ∨ v'.ownBlock = some w.heap.size) → K (a.put o.dst v') w1) : o.wp Tryz.prog a w K Q := by
 have hzs : zeroV.cells.size = 12 := rfl
 obtain ⟨i0,hi,hz0,hz1,hz2⟩ := info_parts info
 have hmx : maxLen = 9223372036854775807 := rfl
 have empty : zs = [] → n = 0 → Own w B v (xs ++ zs) := by
  intro e _
  rw [e,List.append_nil]
  exact hown
 cases ao with
 | none =>
  obtain rfl : cap = 0 := hnil rfl
  rcases hsrc with e | ⟨b,off,e,_⟩
  ·
   obtain rfl : n = 0 := by rw [hn,e]; rfl
   have hrun := run_append_owned_none (P := Tryz.prog) (w := w) B 38 o.type 66 i0 12 Tryz.underlying38 hi v _ _ hown
   unfold Oper.wp
   simp [execOp,ho,resolve,invoke,builtin,hs,hx,hrun,Result.andThen]
   exact h v w (empty e rfl) ⟨rfl,rfl,rfl,Nat.le_refl _,fun _ _ _ => rfl⟩ (.inl rfl)
  · cases e
 | some ad =>
  obtain ⟨v',w',hr,h2,h3,_,h5⟩ := run_append_own_at (P := Tryz.prog) w B 38 o.type 66 i0 zeroV 12 128 Tryz.underlying38 hi hz0 hz1 hz2 hzs (by omega) v xs.length (xs.flatMap rv) hown ad n cap (zs.flatMap rv) (by rw [flat_len,hn]) (by
   rcases hsrc with e | ⟨b,off,e,hc⟩
   ·
    rw [e]
    intro j u hu
    simp at hu
   ·
    cases e
    exact fun j u hu => news_of hc j u hu) (one_cell zs) (by omega) hl hb
  unfold Oper.wp execOp
  simp only [ho,resolve,invoke,builtin,Sem.run_bind,Sem.run_pure,Result.andThen_ok,List.map_toArray,List.map_cons,List.map_nil,hs,hx,hr]
  refine h v' w' ?_ h3 h5
  unfold Own
  rw [List.flatMap_append,List.length_append,← hn]
  exact h2
theorem wpList_append {ops : Array Oper} {rest : List Oper} {o : Oper} {a : Act} {Q : Exit → Act → World → Prop} (w : World) (hgd : o.guard = none) (s x : Operand)
  (ho : o.op = .call { callee := .builtin .append,args := #[s,x],argTypes := #[38,38] })
  (B : Nat) (v : Value) (xs : List T) (hs : a.eval s = v) (hown : Own w B v xs)
  (ao : Option Addr) (n cap : Nat) (zs : List T) (hx : a.eval x = .slice ao n cap) (hn : n = zs.length) (hnil : ao = none → cap = 0) (hsrc : Seg w ao zs) (hl : (xs.length + n) * 128 ≤ 140737488355328) (hb : B ≤ w.heap.size)
  (h : ∀ v' w1,Own w1 B v' (xs ++ zs) → w.grownBy w1 v.ownBlock → (v'.ownBlock = v.ownBlock ∨ v'.ownBlock = some w.heap.size) → wpList Tryz.prog ops Q rest (a.put o.dst v') w1) : wpList Tryz.prog ops Q (o :: rest) a w :=
 wpList_plain hgd fun _ hK => wp_append w s x ho B v xs hs hown ao n cap zs hx hn hnil hsrc hl hb fun v' w1 h1 h2 h3 => hK _ _ (h v' w1 h1 h2 h3)
theorem own_ge {w : World} {B : Nat} {v : Value} {xs : List T} (h : Own w B v xs) : ∀ k,v.ownBlock = some k → B ≤ k := by
 intro k hk
 rcases h.2 with ⟨h',_⟩ | ⟨g,cap,cur,h',hb,_⟩
 ·
  rw [h'] at hk
  cases hk
 ·
  rw [h'] at hk
  simp only [Value.ownBlock,Option.some.injEq] at hk
  omega
theorem own_mono {w : World} {B C : Nat} {v : Value} {xs : List T} (h : Own w B v xs) (hc : C ≤ B) : Own w C v xs := by
 obtain ⟨h1,h2⟩ := h
 refine ⟨h1,?_⟩
 rcases h2 with h2 | ⟨g,cap,cur,h',hb,h3⟩
 · exact .inl h2
 · exact .inr ⟨g,cap,cur,h',by omega,h3⟩
theorem own_alloc {w : World} {B : Nat} {v : Value} {xs : List T} (h : Own w B v xs) (o : Obj) : Own (w.alloc o) B v xs := World.ownsRow.alloc h o
theorem own_below {w u : World} {B : Nat} {v : Value} {xs : List T} (h : Own w B v xs) (k : Below w.heap.size w u) : Own u B v xs := by
 obtain ⟨h1,h2⟩ := h
 refine ⟨h1,?_⟩
 rcases h2 with h2 | ⟨g,cap,cur,h',hb,hg,h3⟩
 · exact .inl h2
 ·
  refine .inr ⟨g,cap,cur,h',hb,?_,h3⟩
  have hl : g < w.heap.size := by
   obtain ⟨hl,_⟩ := Array.getElem?_eq_some_iff.1 hg
   exact hl
  rw [k.block g hl]
  exact hg
def block (r : T) : Obj := .cells #[.string r.ser,.int .i64 r.num,.int .i64 r.y,.int .i64 r.m,.int .i64 r.d,.int .i64 r.net,.int .i64 r.tax,.int .i64 r.gross,.slice r.parts.ao r.parts.n r.parts.cap,.string r.ofS,.int .i64 r.ofN,.bool r.back] 66 (0,0)
theorem seg_block {X : World} {g : Nat} {r : T} (h : X.heap[g]? = some (block r)) : Seg X (some ⟨g,0,none⟩) [r] := by
 refine .inr ⟨g,0,rfl,fun k hk => ?_⟩
 obtain rfl : k = 0 := by simpa using hk
 unfold block at h
 refine ⟨?_,?_,?_,?_,?_,?_,?_,?_,?_,?_,?_,?_⟩
 all_goals rw [cell_of_row X g _ _ _ _ h]
 all_goals rfl
end Go.Proofs.YtjpfpojbalepeaaGreat.Pd
namespace Go.Proofs.YtjpfpojbalepeaaGreat.Ca
open Go.RowKit
open Mem
structure T where
 sess : Int
 seq : Int
 kind : Int
 ser : ByteArray
 lim : Int
 cat : ByteArray
 ry : Int
 rm : Int
 rd : Int
 bp : Int
 y : Int
 m : Int
 d : Int
 lines : Sl
 ofS : ByteArray
 ofN : Int
 csess : Int
def val (r : T) : Value := .agg #[.int .i64 r.sess,.int .i64 r.seq,.int .i64 r.kind,.string r.ser,.int .i64 r.lim,.string r.cat,.int .i64 r.ry,.int .i64 r.rm,.int .i64 r.rd,.int .i64 r.bp,.int .i64 r.y,.int .i64 r.m,.int .i64 r.d,.slice r.lines.ao r.lines.n r.lines.cap,.string r.ofS,.int .i64 r.ofN,.int .i64 r.csess]
def Short (r : T) : Prop := Fit r.sess ∧ Fit r.seq ∧ Fit r.kind ∧ r.ser.size ≤ 140737488355328 ∧ Fit r.lim ∧ r.cat.size ≤ 140737488355328 ∧ Fit r.ry ∧ Fit r.rm ∧ Fit r.rd ∧ Fit r.bp ∧ Fit r.y ∧ Fit r.m ∧ Fit r.d ∧ r.ofS.size ≤ 140737488355328 ∧ Fit r.ofN ∧ Fit r.csess
def box (w : World) (r : T) : World := w.alloc (.cells #[.int .i64 r.sess,.int .i64 r.seq,.int .i64 r.kind,.string r.ser,.int .i64 r.lim,.string r.cat,.int .i64 r.ry,.int .i64 r.rm,.int .i64 r.rd,.int .i64 r.bp,.int .i64 r.y,.int .i64 r.m,.int .i64 r.d,.slice r.lines.ao r.lines.n r.lines.cap,.string r.ofS,.int .i64 r.ofN,.int .i64 r.csess] 32)
def C (u : World) (b : Nat) (r : T) : Prop :=
 u.cell? ⟨b,0,none⟩ = some (.int .i64 r.sess) ∧ u.cell? ⟨b,1,none⟩ = some (.int .i64 r.seq) ∧ u.cell? ⟨b,2,none⟩ = some (.int .i64 r.kind) ∧ u.cell? ⟨b,3,none⟩ = some (.string r.ser) ∧ u.cell? ⟨b,4,none⟩ = some (.int .i64 r.lim) ∧ u.cell? ⟨b,5,none⟩ = some (.string r.cat) ∧ u.cell? ⟨b,6,none⟩ = some (.int .i64 r.ry) ∧ u.cell? ⟨b,7,none⟩ = some (.int .i64 r.rm) ∧ u.cell? ⟨b,8,none⟩ = some (.int .i64 r.rd) ∧ u.cell? ⟨b,9,none⟩ = some (.int .i64 r.bp) ∧ u.cell? ⟨b,10,none⟩ = some (.int .i64 r.y) ∧ u.cell? ⟨b,11,none⟩ = some (.int .i64 r.m) ∧ u.cell? ⟨b,12,none⟩ = some (.int .i64 r.d) ∧ u.cell? ⟨b,13,none⟩ = some (.slice r.lines.ao r.lines.n r.lines.cap) ∧ u.cell? ⟨b,14,none⟩ = some (.string r.ofS) ∧ u.cell? ⟨b,15,none⟩ = some (.int .i64 r.ofN) ∧ u.cell? ⟨b,16,none⟩ = some (.int .i64 r.csess)
theorem c_box (w : World) (r : T) : C (box w r) w.heap.size r := by
 unfold box C
 simp [go_sem]
theorem box_size (w : World) (r : T) : (box w r).heap.size = w.heap.size + 1 := by
 unfold box
 simp
theorem below_own (w : World) (r : T) : Below w.heap.size w (box w r) := (Below.refl _ _).alloc (Nat.le_refl _) _
end Go.Proofs.YtjpfpojbalepeaaGreat.Ca
namespace Go.Proofs.YtjpfpojbalepeaaGreat.Ca
open Go.RowKit
open Mem
structure At (u : World) (b o : Nat) (r : T) : Prop where
 c0 : u.cell? ⟨b,o,none⟩ = some (.int .i64 r.sess)
 c1 : u.cell? ⟨b,o + 1,none⟩ = some (.int .i64 r.seq)
 c2 : u.cell? ⟨b,o + 2,none⟩ = some (.int .i64 r.kind)
 c3 : u.cell? ⟨b,o + 3,none⟩ = some (.string r.ser)
 c4 : u.cell? ⟨b,o + 4,none⟩ = some (.int .i64 r.lim)
 c5 : u.cell? ⟨b,o + 5,none⟩ = some (.string r.cat)
 c6 : u.cell? ⟨b,o + 6,none⟩ = some (.int .i64 r.ry)
 c7 : u.cell? ⟨b,o + 7,none⟩ = some (.int .i64 r.rm)
 c8 : u.cell? ⟨b,o + 8,none⟩ = some (.int .i64 r.rd)
 c9 : u.cell? ⟨b,o + 9,none⟩ = some (.int .i64 r.bp)
 c10 : u.cell? ⟨b,o + 10,none⟩ = some (.int .i64 r.y)
 c11 : u.cell? ⟨b,o + 11,none⟩ = some (.int .i64 r.m)
 c12 : u.cell? ⟨b,o + 12,none⟩ = some (.int .i64 r.d)
 c13 : u.cell? ⟨b,o + 13,none⟩ = some (.slice r.lines.ao r.lines.n r.lines.cap)
 c14 : u.cell? ⟨b,o + 14,none⟩ = some (.string r.ofS)
 c15 : u.cell? ⟨b,o + 15,none⟩ = some (.int .i64 r.ofN)
 c16 : u.cell? ⟨b,o + 16,none⟩ = some (.int .i64 r.csess)
theorem At.below {u v : World} {b o : Nat} {r : T} (h : At u b o r) (k : Below u.heap.size u v) : At v b o r := by
 have hl := cell_lt h.c0
 exact ⟨by rw [(bcell k).1 _ _ hl]; exact h.c0,by rw [(bcell k).1 _ _ hl]; exact h.c1,by rw [(bcell k).1 _ _ hl]; exact h.c2,by rw [(bcell k).1 _ _ hl]; exact h.c3,by rw [(bcell k).1 _ _ hl]; exact h.c4,by rw [(bcell k).1 _ _ hl]; exact h.c5,by rw [(bcell k).1 _ _ hl]; exact h.c6,by rw [(bcell k).1 _ _ hl]; exact h.c7,by rw [(bcell k).1 _ _ hl]; exact h.c8,by rw [(bcell k).1 _ _ hl]; exact h.c9,by rw [(bcell k).1 _ _ hl]; exact h.c10,by rw [(bcell k).1 _ _ hl]; exact h.c11,by rw [(bcell k).1 _ _ hl]; exact h.c12,by rw [(bcell k).1 _ _ hl]; exact h.c13,by rw [(bcell k).1 _ _ hl]; exact h.c14,by rw [(bcell k).1 _ _ hl]; exact h.c15,by rw [(bcell k).1 _ _ hl]; exact h.c16⟩
def Seg (w : World) (ao : Option Addr) (rs : List T) : Prop := rs = [] ∨ ∃ b off,ao = some ⟨b,off,none⟩ ∧ ∀ (k : Nat) (hk : k < rs.length),At w b (off + k * 17) rs[k]
theorem Seg.below {w v : World} {ao : Option Addr} {rs : List T} (h : Seg w ao rs) (k : Below w.heap.size w v) : Seg v ao rs := by
 rcases h with h | ⟨b,off,e,h⟩
 · exact .inl h
 · exact .inr ⟨b,off,e,fun i hi => (h i hi).below k⟩
structure Ls (w : World) (ao : Option Addr) (n cap : Nat) (rs : List T) : Prop where
 len : n = rs.length
 fits : n ≤ cap
 reach : cap ≤ 9223372036854775807
 nil : ao = none → cap = 0
 seg : Seg w ao rs
 short : ∀ r ∈ rs,Short r
theorem Ls.below {w v : World} {ao : Option Addr} {n cap : Nat} {rs : List T} (h : Ls w ao n cap rs) (k : Below w.heap.size w v) : Ls v ao n cap rs :=
 ⟨h.len,h.fits,h.reach,h.nil,h.seg.below k,h.short⟩
theorem Ls.at {w : World} {ao : Option Addr} {n cap : Nat} {rs : List T} (h : Ls w ao n cap rs) (hn : 0 < n) : ∃ b off,ao = some ⟨b,off,none⟩ := by
 rcases h.seg with e | ⟨b,off,e,_⟩
 ·
  have := h.len
  rw [e] at this
  simp at this
  omega
 · exact ⟨b,off,e⟩
theorem Ls.row {w : World} {b off n cap : Nat} {rs : List T} (h : Ls w (some ⟨b,off,none⟩) n cap rs) (k : Nat) (hk : k < rs.length) : At w b (off + k * 17) rs[k] := by
 rcases h.seg with e | ⟨b',off',e,hs⟩
 ·
  subst e
  simp at hk
 ·
  cases e
  exact hs k hk
theorem ls_nil (w : World) : Ls w none 0 0 [] := ⟨rfl,Nat.le_refl _,by omega,fun _ => rfl,.inl rfl,by simp⟩
end Go.Proofs.YtjpfpojbalepeaaGreat.Ca
namespace Go.Proofs.YtjpfpojbalepeaaGreat.Ca
open Go.RowKit
open Mem
def rv (r : T) : List Value := [.int .i64 r.sess,.int .i64 r.seq,.int .i64 r.kind,.string r.ser,.int .i64 r.lim,.string r.cat,.int .i64 r.ry,.int .i64 r.rm,.int .i64 r.rd,.int .i64 r.bp,.int .i64 r.y,.int .i64 r.m,.int .i64 r.d,.slice r.lines.ao r.lines.n r.lines.cap,.string r.ofS,.int .i64 r.ofN,.int .i64 r.csess]
theorem rv_len (r : T) : (rv r).length = 17 := rfl
theorem flat_len : ∀ rs : List T,(rs.flatMap rv).length = rs.length * 17
 | [] => rfl
 | r :: l => by
  rw [List.flatMap_cons,List.length_append,rv_len,flat_len l,List.length_cons]
  omega
theorem flat_at : ∀ (rs : List T) (k p : Nat) (hk : k < rs.length),p < 17 → (rs.flatMap rv)[k * 17 + p]? = (rv rs[k])[p]?
 | r :: l,0,p,_,hp => by
  rw [List.flatMap_cons,List.getElem?_append_left (by rw [rv_len]; omega),Nat.zero_mul,Nat.zero_add]
  rfl
 | r :: l,k + 1,p,hk,hp => by
  rw [List.flatMap_cons,List.getElem?_append_right (by rw [rv_len]; omega),rv_len,show (k + 1) * 17 + p - 17 = k * 17 + p by omega]
  exact flat_at l k p (by simpa using hk) hp
theorem one_cell (rs : List T) : ∀ v ∈ rs.flatMap rv,v.oneCell' = true := by
 intro v hv
 obtain ⟨r,_,h⟩ := List.mem_flatMap.1 hv
 unfold rv at h
 simp only [List.mem_cons,List.not_mem_nil,or_false] at h
 rcases h with rfl | rfl | rfl | rfl | rfl | rfl | rfl | rfl | rfl | rfl | rfl | rfl | rfl | rfl | rfl | rfl | rfl <;> rfl
theorem news_of {w : World} {b off : Nat} {rs : List T} (h : ∀ (k : Nat) (hk : k < rs.length),At w b (off + k * 17) rs[k]) (j : Nat) (u : Value) (hu : (rs.flatMap rv)[j]? = some u) : w.cell? ((⟨b,off,none⟩ : Addr).add j) = some u := by
 have hj : j < (rs.flatMap rv).length := by
  obtain ⟨hj,_⟩ := List.getElem?_eq_some_iff.1 hu
  exact hj
 rw [flat_len] at hj
 obtain ⟨k,p,rfl,hp⟩ : ∃ k p,j = k * 17 + p ∧ p < 17 := ⟨j / 17,j % 17,by omega,by omega⟩
 have hk : k < rs.length := by omega
 rw [flat_at rs k p hk hp] at hu
 have ha : (⟨b,off,none⟩ : Addr).add (k * 17 + p) = ⟨b,off + k * 17 + p,none⟩ := by
  unfold Addr.add
  split
  ·
   rename_i e
   simp only [Addr.mk.injEq,true_and,and_true]
   omega
  ·
   simp only [Addr.mk.injEq,true_and,and_true]
   omega
 rw [ha]
 obtain ⟨c0,c1,c2,c3,c4,c5,c6,c7,c8,c9,c10,c11,c12,c13,c14,c15,c16⟩ := h k hk
 have hp' : p = 0 ∨ p = 1 ∨ p = 2 ∨ p = 3 ∨ p = 4 ∨ p = 5 ∨ p = 6 ∨ p = 7 ∨ p = 8 ∨ p = 9 ∨ p = 10 ∨ p = 11 ∨ p = 12 ∨ p = 13 ∨ p = 14 ∨ p = 15 ∨ p = 16 := by omega
 unfold rv at hu
 rcases hp' with rfl | rfl | rfl | rfl | rfl | rfl | rfl | rfl | rfl | rfl | rfl | rfl | rfl | rfl | rfl | rfl | rfl
 all_goals simp at hu
 all_goals subst hu
 · exact c0
 · exact c1
 · exact c2
 · exact c3
 · exact c4
 · exact c5
 · exact c6
 · exact c7
 · exact c8
 · exact c9
 · exact c10
 · exact c11
 · exact c12
 · exact c13
 · exact c14
 · exact c15
 · exact c16
def Own (w : World) (B : Nat) (v : Value) (xs : List T) : Prop := w.ownsRow B 32 17 v xs.length (xs.flatMap rv)
theorem own_nil (w : World) (B : Nat) : Own w B (.slice none 0 0) [] := ⟨rfl,.inl ⟨rfl,rfl⟩⟩
theorem own_ls {w : World} {B : Nat} {v : Value} {xs : List T} (h : Own w B v xs) (hs : ∀ r ∈ xs,Short r) : ∃ ao cap,v = .slice ao xs.length cap ∧ Ls w ao xs.length cap xs ∧ (∀ ad,ao = some ad → ∃ g,ad = ⟨g,0,none⟩ ∧ B ≤ g) := by
 rcases h.2 with ⟨h',h2⟩ | ⟨g,cap,cur,h',hb,hg,hnc,hcm,hcs,htake⟩
 ·
  have e : xs = [] := List.length_eq_zero_iff.1 h2
  subst e
  exact ⟨none,0,h',⟨rfl,Nat.le_refl _,by omega,fun _ => rfl,.inl rfl,hs⟩,fun ad k => by cases k⟩
 ·
  refine ⟨some ⟨g,0,none⟩,cap,h',⟨rfl,hnc,hcm,fun k => (by cases k),.inr ⟨g,0,rfl,fun k hk => ?_⟩,hs⟩,fun ad k => by cases k; exact ⟨g,rfl,hb⟩⟩
  have hcell : ∀ p,p < 17 → w.cell? ⟨g,0 + k * 17 + p,none⟩ = (rv xs[k])[p]? := by
   intro p hp
   rw [Nat.zero_add,cell_of_row w g _ _ _ _ hg,← flat_at xs k p hk hp,← htake,List.getElem?_take_of_lt (by omega)]
   simp
  exact ⟨hcell 0 (by omega),hcell 1 (by omega),hcell 2 (by omega),hcell 3 (by omega),hcell 4 (by omega),hcell 5 (by omega),hcell 6 (by omega),hcell 7 (by omega),hcell 8 (by omega),hcell 9 (by omega),hcell 10 (by omega),hcell 11 (by omega),hcell 12 (by omega),hcell 13 (by omega),hcell 14 (by omega),hcell 15 (by omega),hcell 16 (by omega)⟩
def zero : T := ⟨0,0,0,.empty,0,.empty,0,0,0,0,0,0,0,⟨none,0,0⟩,.empty,0,0⟩
def zeroV : Value := .agg #[.int .i64 0,.int .i64 0,.int .i64 0,.string .empty,.int .i64 0,.string .empty,.int .i64 0,.int .i64 0,.int .i64 0,.int .i64 0,.int .i64 0,.int .i64 0,.int .i64 0,.slice none 0 0,.string .empty,.int .i64 0,.int .i64 0]
theorem info : (Tryz.prog.info? 32).map (fun i => (i.zero,i.size,i.bytes)) = some (some zeroV,17,176) := by kernel_rfl
theorem wp_append {o : Oper} {a : Act} {K : Act → World → Prop} {Q : Exit → Act → World → Prop} (w : World) (s x : Operand)
  (ho : o.op = .call { callee := .builtin .append,args := #[s,x],argTypes := #[35,35] })
  (B : Nat) (v : Value) (xs : List T) (hs : a.eval s = v) (hown : Own w B v xs)
  (ao : Option Addr) (n cap : Nat) (zs : List T) (hx : a.eval x = .slice ao n cap) (hn : n = zs.length) (hnil : ao = none → cap = 0) (hsrc : Seg w ao zs) (hl : (xs.length + n) * 176 ≤ 140737488355328) (hb : B ≤ w.heap.size)
  (h : ∀ v' w1,Own w1 B v' (xs ++ zs) → w.grownBy w1 v.ownBlock → (v'.ownBlock = v.ownBlock ∨ v'.ownBlock = some w.heap.size) → K (a.put o.dst v') w1) : o.wp Tryz.prog a w K Q := by
 have hzs : zeroV.cells.size = 17 := rfl
 obtain ⟨i0,hi,hz0,hz1,hz2⟩ := info_parts info
 have hmx : maxLen = 9223372036854775807 := rfl
 have empty : zs = [] → n = 0 → Own w B v (xs ++ zs) := by
  intro e _
  rw [e,List.append_nil]
  exact hown
 cases ao with
 | none =>
  obtain rfl : cap = 0 := hnil rfl
  rcases hsrc with e | ⟨b,off,e,_⟩
  ·
   obtain rfl : n = 0 := by rw [hn,e]; rfl
   have hrun := run_append_owned_none (P := Tryz.prog) (w := w) B 35 o.type 32 i0 17 Tryz.underlying35 hi v _ _ hown
   unfold Oper.wp
   simp [execOp,ho,resolve,invoke,builtin,hs,hx,hrun,Result.andThen]
   exact h v w (empty e rfl) ⟨rfl,rfl,rfl,Nat.le_refl _,fun _ _ _ => rfl⟩ (.inl rfl)
  · cases e
 | some ad =>
  obtain ⟨v',w',hr,h2,h3,_,h5⟩ := run_append_own_at (P := Tryz.prog) w B 35 o.type 32 i0 zeroV 17 176 Tryz.underlying35 hi hz0 hz1 hz2 hzs (by omega) v xs.length (xs.flatMap rv) hown ad n cap (zs.flatMap rv) (by rw [flat_len,hn]) (by
   rcases hsrc with e | ⟨b,off,e,hc⟩
   ·
    rw [e]
    intro j u hu
    simp at hu
   ·
    cases e
    exact fun j u hu => news_of hc j u hu) (one_cell zs) (by omega) hl hb
  unfold Oper.wp execOp
  simp only [ho,resolve,invoke,builtin,Sem.run_bind,Sem.run_pure,Result.andThen_ok,List.map_toArray,List.map_cons,List.map_nil,hs,hx,hr]
  refine h v' w' ?_ h3 h5
  unfold Own
  rw [List.flatMap_append,List.length_append,← hn]
  exact h2
theorem wpList_append {ops : Array Oper} {rest : List Oper} {o : Oper} {a : Act} {Q : Exit → Act → World → Prop} (w : World) (hgd : o.guard = none) (s x : Operand)
  (ho : o.op = .call { callee := .builtin .append,args := #[s,x],argTypes := #[35,35] })
  (B : Nat) (v : Value) (xs : List T) (hs : a.eval s = v) (hown : Own w B v xs)
  (ao : Option Addr) (n cap : Nat) (zs : List T) (hx : a.eval x = .slice ao n cap) (hn : n = zs.length) (hnil : ao = none → cap = 0) (hsrc : Seg w ao zs) (hl : (xs.length + n) * 176 ≤ 140737488355328) (hb : B ≤ w.heap.size)
  (h : ∀ v' w1,Own w1 B v' (xs ++ zs) → w.grownBy w1 v.ownBlock → (v'.ownBlock = v.ownBlock ∨ v'.ownBlock = some w.heap.size) → wpList Tryz.prog ops Q rest (a.put o.dst v') w1) : wpList Tryz.prog ops Q (o :: rest) a w :=
 wpList_plain hgd fun _ hK => wp_append w s x ho B v xs hs hown ao n cap zs hx hn hnil hsrc hl hb fun v' w1 h1 h2 h3 => hK _ _ (h v' w1 h1 h2 h3)
theorem own_ge {w : World} {B : Nat} {v : Value} {xs : List T} (h : Own w B v xs) : ∀ k,v.ownBlock = some k → B ≤ k := by
 intro k hk
 rcases h.2 with ⟨h',_⟩ | ⟨g,cap,cur,h',hb,_⟩
 ·
  rw [h'] at hk
  cases hk
 ·
  rw [h'] at hk
  simp only [Value.ownBlock,Option.some.injEq] at hk
  omega
theorem own_alloc {w : World} {B : Nat} {v : Value} {xs : List T} (h : Own w B v xs) (o : Obj) : Own (w.alloc o) B v xs := World.ownsRow.alloc h o
theorem own_below {w u : World} {B : Nat} {v : Value} {xs : List T} (h : Own w B v xs) (k : Below w.heap.size w u) : Own u B v xs := by
 obtain ⟨h1,h2⟩ := h
 refine ⟨h1,?_⟩
 rcases h2 with h2 | ⟨g,cap,cur,h',hb,hg,h3⟩
 · exact .inl h2
 ·
  refine .inr ⟨g,cap,cur,h',hb,?_,h3⟩
  have hl : g < w.heap.size := by
   obtain ⟨hl,_⟩ := Array.getElem?_eq_some_iff.1 hg
   exact hl
  rw [k.block g hl]
  exact hg
def block (r : T) : Obj := .cells #[.int .i64 r.sess,.int .i64 r.seq,.int .i64 r.kind,.string r.ser,.int .i64 r.lim,.string r.cat,.int .i64 r.ry,.int .i64 r.rm,.int .i64 r.rd,.int .i64 r.bp,.int .i64 r.y,.int .i64 r.m,.int .i64 r.d,.slice r.lines.ao r.lines.n r.lines.cap,.string r.ofS,.int .i64 r.ofN,.int .i64 r.csess] 32 (0,0)
theorem seg_block {X : World} {g : Nat} {r : T} (h : X.heap[g]? = some (block r)) : Seg X (some ⟨g,0,none⟩) [r] := by
 refine .inr ⟨g,0,rfl,fun k hk => ?_⟩
 obtain rfl : k = 0 := by simpa using hk
 unfold block at h
 refine ⟨?_,?_,?_,?_,?_,?_,?_,?_,?_,?_,?_,?_,?_,?_,?_,?_,?_⟩
 all_goals rw [cell_of_row X g _ _ _ _ h]
 all_goals rfl
end Go.Proofs.YtjpfpojbalepeaaGreat.Ca
namespace Go.Proofs.YtjpfpojbalepeaaGreat
open Go.RowKit
def dayV (y m d : Int) : Value := .agg #[.int .i64 y,.int .i64 m,.int .i64 d]
theorem below_box {w0 w : World} (h : Below w0.heap.size w0 w) (o : Obj) : Below w0.heap.size w0 (w.alloc o) := h.alloc h.size o
theorem bcell {W w1 : World} (hb : Below W.heap.size W w1) : (∀ b o,b < W.heap.size → w1.cell? ⟨b,o,none⟩ = W.cell? ⟨b,o,none⟩) ∧ (∀ b o,b < W.heap.size → w1.frozen? ⟨b,o,none⟩ = W.frozen? ⟨b,o,none⟩) :=
 ⟨fun b o h => hb.cell (p := ⟨b,o,none⟩) h,fun b o h => hb.frozen (p := ⟨b,o,none⟩) h⟩
end Go.Proofs.YtjpfpojbalepeaaGreat
namespace Go.Proofs.YtjpfpojbalepeaaGreat
open Go.RowKit
open Vt (Rt)
def rowV (r : Rt) : Value := .agg #[.string r.cat,.int .i64 r.y,.int .i64 r.m,.int .i64 r.d,.int .i64 r.bp]
def Short (r : Rt) : Prop := r.cat.size ≤ 140737488355328 ∧ Fit r.y ∧ Fit r.m ∧ Fit r.d ∧ Fit r.bp
def boxR (w : World) (r : Rt) : World := w.alloc (.cells #[.string r.cat,.int .i64 r.y,.int .i64 r.m,.int .i64 r.d,.int .i64 r.bp] 25)
theorem cell_lt {u : World} {b o : Nat} {v : Value} (h : u.cell? ⟨b,o,none⟩ = some v) : b < u.heap.size := by
 by_cases k : b < u.heap.size
 · exact k
 ·
  exfalso
  simp [World.cell?,Array.getElem?_eq_none (Nat.le_of_not_lt k)] at h
def RowC (u : World) (b : Nat) (r : Rt) : Prop :=
 u.cell? ⟨b,0,none⟩ = some (.string r.cat) ∧ u.cell? ⟨b,1,none⟩ = some (.int .i64 r.y) ∧ u.cell? ⟨b,2,none⟩ = some (.int .i64 r.m) ∧ u.cell? ⟨b,3,none⟩ = some (.int .i64 r.d) ∧ u.cell? ⟨b,4,none⟩ = some (.int .i64 r.bp)
theorem RowC.below {u v : World} {b : Nat} {r : Rt} (h : RowC u b r) (k : Below u.heap.size u v) : RowC v b r := by
 obtain ⟨h0,h1,h2,h3,h4⟩ := h
 have hl := cell_lt h0
 unfold RowC
 rw [(bcell k).1 _ _ hl,(bcell k).1 _ _ hl,(bcell k).1 _ _ hl,(bcell k).1 _ _ hl,(bcell k).1 _ _ hl]
 exact ⟨h0,h1,h2,h3,h4⟩
theorem rowC_box (w : World) (r : Rt) : RowC (boxR w r) w.heap.size r := by
 unfold boxR RowC
 simp [go_sem]
theorem boxR_size (w : World) (r : Rt) : (boxR w r).heap.size = w.heap.size + 1 := by
 unfold boxR
 simp
theorem below_boxR (w : World) (r : Rt) : Below w.heap.size w (boxR w r) := (Below.refl _ _).alloc (Nat.le_refl _) _
theorem boxed1 (w : World) (a : Rt) : ∃ W,w.alloc (.cells #[.string a.cat,.int .i64 a.y,.int .i64 a.m,.int .i64 a.d,.int .i64 a.bp] 25) = W ∧ Below w.heap.size w W ∧ RowC W w.heap.size a :=
 ⟨_,rfl,below_boxR w a,rowC_box w a⟩
theorem boxed2 (w : World) (a b : Rt) : ∃ W,(w.alloc (.cells #[.string a.cat,.int .i64 a.y,.int .i64 a.m,.int .i64 a.d,.int .i64 a.bp] 25)).alloc (.cells #[.string b.cat,.int .i64 b.y,.int .i64 b.m,.int .i64 b.d,.int .i64 b.bp] 25) = W ∧
  Below w.heap.size w W ∧ RowC W w.heap.size a ∧ RowC W (w.heap.size + 1) b := by
 refine ⟨_,rfl,((below_boxR w a).trans ((below_boxR (boxR w a) b).mono (below_boxR w a).size)),(rowC_box w a).below (below_boxR _ b),?_⟩
 have h := rowC_box (boxR w a) b
 rw [boxR_size] at h
 exact h
def DayC (u : World) (b : Nat) (y m d : Int) : Prop :=
 u.cell? ⟨b,0,none⟩ = some (.int .i64 y) ∧ u.cell? ⟨b,1,none⟩ = some (.int .i64 m) ∧ u.cell? ⟨b,2,none⟩ = some (.int .i64 d)
theorem DayC.below {u v : World} {b : Nat} {y m d : Int} (h : DayC u b y m d) (k : Below u.heap.size u v) : DayC v b y m d := by
 obtain ⟨h0,h1,h2⟩ := h
 have hl := cell_lt h0
 unfold DayC
 rw [(bcell k).1 _ _ hl,(bcell k).1 _ _ hl,(bcell k).1 _ _ hl]
 exact ⟨h0,h1,h2⟩
theorem dayC_box (w : World) (y m d : Int) : DayC (w.alloc (.cells #[.int .i64 y,.int .i64 m,.int .i64 d] 23)) w.heap.size y m d := by
 unfold DayC
 simp [go_sem]
theorem bchain {w0 u v : World} (h : Below w0.heap.size w0 u) (k : Below u.heap.size u v) : Below w0.heap.size w0 v := h.trans (k.mono h.size)
end Go.Proofs.YtjpfpojbalepeaaGreat
namespace Go.Proofs.YtjpfpojbalepeaaGreat
open Go.RowKit
open Vt (Rt)
structure RowAt (u : World) (b o : Nat) (r : Rt) : Prop where
 c0 : u.cell? ⟨b,o,none⟩ = some (.string r.cat)
 c1 : u.cell? ⟨b,o + 1,none⟩ = some (.int .i64 r.y)
 c2 : u.cell? ⟨b,o + 2,none⟩ = some (.int .i64 r.m)
 c3 : u.cell? ⟨b,o + 3,none⟩ = some (.int .i64 r.d)
 c4 : u.cell? ⟨b,o + 4,none⟩ = some (.int .i64 r.bp)
theorem RowAt.below {u v : World} {b o : Nat} {r : Rt} (h : RowAt u b o r) (k : Below u.heap.size u v) : RowAt v b o r := by
 have hl := cell_lt h.c0
 exact ⟨by rw [(bcell k).1 _ _ hl]; exact h.c0,by rw [(bcell k).1 _ _ hl]; exact h.c1,by rw [(bcell k).1 _ _ hl]; exact h.c2,by rw [(bcell k).1 _ _ hl]; exact h.c3,by rw [(bcell k).1 _ _ hl]; exact h.c4⟩
def SegR (w : World) (ao : Option Addr) (rs : List Rt) : Prop := rs = [] ∨ ∃ b off,ao = some ⟨b,off,none⟩ ∧ ∀ (k : Nat) (hk : k < rs.length),RowAt w b (off + k * 5) rs[k]
theorem SegR.below {w v : World} {ao : Option Addr} {rs : List Rt} (h : SegR w ao rs) (k : Below w.heap.size w v) : SegR v ao rs := by
 rcases h with h | ⟨b,off,e,h⟩
 · exact .inl h
 · exact .inr ⟨b,off,e,fun i hi => (h i hi).below k⟩
structure Rts (w : World) (ao : Option Addr) (n cap : Nat) (rs : List Rt) : Prop where
 len : n = rs.length
 fits : n ≤ cap
 reach : cap ≤ 9223372036854775807
 nil : ao = none → cap = 0
 seg : SegR w ao rs
 short : ∀ r ∈ rs,Short r
theorem Rts.below {w v : World} {ao : Option Addr} {n cap : Nat} {rs : List Rt} (h : Rts w ao n cap rs) (k : Below w.heap.size w v) : Rts v ao n cap rs :=
 ⟨h.len,h.fits,h.reach,h.nil,h.seg.below k,h.short⟩
theorem Rts.at {w : World} {ao : Option Addr} {n cap : Nat} {rs : List Rt} (h : Rts w ao n cap rs) (hn : 0 < n) : ∃ b off,ao = some ⟨b,off,none⟩ := by
 rcases h.seg with e | ⟨b,off,e,_⟩
 ·
  have := h.len
  rw [e] at this
  simp at this
  omega
 · exact ⟨b,off,e⟩
theorem Rts.row {w : World} {b off n cap : Nat} {rs : List Rt} (h : Rts w (some ⟨b,off,none⟩) n cap rs) (k : Nat) (hk : k < rs.length) : RowAt w b (off + k * 5) rs[k] := by
 rcases h.seg with e | ⟨b',off',e,hs⟩
 ·
  subst e
  simp at hk
 ·
  cases e
  exact hs k hk
end Go.Proofs.YtjpfpojbalepeaaGreat
namespace Go.Proofs.YtjpfpojbalepeaaGreat.Bl
open Go.RowKit
open Mem
open Vt (Rt)
structure IsP (w : World) (r : Pd.T) (p : Ps) : Prop where
 ser : r.ser = p.ser
 num : r.num = p.num
 y : r.y = p.y
 m : r.m = p.m
 d : r.d = p.d
 net : r.net = p.tot.net
 tax : r.tax = p.tot.tax
 gross : r.gross = p.tot.gross
 parts : Pt.Ls w r.parts.ao r.parts.n r.parts.cap p.tot.parts
 ofS : r.ofS = p.ofS
 ofN : r.ofN = p.ofN
 back : r.back = p.back
theorem IsP.below {w v : World} {r : Pd.T} {p : Ps} (h : IsP w r p) (k : Below w.heap.size w v) : IsP v r p :=
 ⟨h.ser,h.num,h.y,h.m,h.d,h.net,h.tax,h.gross,h.parts.below k,h.ofS,h.ofN,h.back⟩
structure Each (w : World) (rs : List Pd.T) (ps : List Ps) : Prop where
 len : rs.length = ps.length
 each : ∀ i (h : i < rs.length),IsP w rs[i] (ps[i]'(len ▸ h))
theorem Each.below {w v : World} {rs : List Pd.T} {ps : List Ps} (h : Each w rs ps) (k : Below w.heap.size w v) : Each v rs ps :=
 ⟨h.len,fun i q => (h.each i q).below k⟩
theorem each_nil (w : World) : Each w [] [] := ⟨rfl,fun i h => absurd h (Nat.not_lt_zero _)⟩
theorem Each.add {w : World} {rs : List Pd.T} {ps : List Ps} (h : Each w rs ps) {r : Pd.T} {p : Ps} (k : IsP w r p) : Each w (rs ++ [r]) (ps ++ [p]) := by
 have hl : (rs ++ [r]).length = (ps ++ [p]).length := by rw [List.length_append,List.length_append,h.len]; rfl
 refine ⟨hl,fun i hi => ?_⟩
 rw [List.length_append] at hi
 have hi' : i < rs.length + 1 := hi
 rcases Nat.lt_or_ge i rs.length with q | q
 ·
  rw [List.getElem_append_left q,List.getElem_append_left (h.len ▸ q)]
  exact h.each i q
 ·
  obtain rfl : i = rs.length := by omega
  have e1 : (rs ++ [r])[rs.length] = r := by
   rw [List.getElem_append_right (Nat.le_refl _)]
   simp
  have e2 : (ps ++ [p])[rs.length]'(by rw [List.length_append,h.len]; exact Nat.lt_succ_self _) = p := get_last h.len.symm _
  rw [e1,e2]
  exact k
structure Sv where
 tab : Sl
 ser : Sl
 post : Sl
 book : Sl
 sess : Sl
 next : Int
def sl (s : Sl) : Value := .slice s.ao s.n s.cap
def Sv.val (h : Sv) : Value := .agg #[sl h.tab,sl h.ser,sl h.post,sl h.book,sl h.sess,.int .i64 h.next]
structure Lies (w : World) (h : Sv) (s : St) : Prop where
 tab : Rts w h.tab.ao h.tab.n h.tab.cap s.tab
 ser : Sr.Ls w h.ser.ao h.ser.n h.ser.cap s.ser
 post : ∃ rs,Pd.Ls w h.post.ao h.post.n h.post.cap rs ∧ Each w rs s.post
 book : Ba.Ls w h.book.ao h.book.n h.book.cap s.book
 sess : Sn.Ls w h.sess.ao h.sess.n h.sess.cap s.sess
 next : h.next = s.next
 fit : Fit s.next
theorem Lies.below {w v : World} {h : Sv} {s : St} (l : Lies w h s) (k : Below w.heap.size w v) : Lies v h s := by
 obtain ⟨rs,h1,h2⟩ := l.post
 exact ⟨l.tab.below k,l.ser.below k,⟨rs,h1.below k,h2.below k⟩,l.book.below k,l.sess.below k,l.next,l.fit⟩
theorem lies_new (w : World) : Lies w ⟨⟨none,0,0⟩,⟨none,0,0⟩,⟨none,0,0⟩,⟨none,0,0⟩,⟨none,0,0⟩,1⟩ new :=
 ⟨⟨rfl,Nat.le_refl _,by show (0 : Nat) ≤ _; omega,fun _ => rfl,.inl rfl,by intro r hr; cases hr⟩,Sr.ls_nil w,⟨[],Pd.ls_nil w,each_nil w⟩,Ba.ls_nil w,Sn.ls_nil w,rfl,by show Fit 1; unfold Fit; omega⟩
structure IsC (w : World) (r : Ca.T) (c : Cl) : Prop where
 sess : r.sess = c.sess
 seq : r.seq = c.seq
 kind : r.kind = c.cmd.kind
 ser : r.ser = c.cmd.ser
 lim : r.lim = c.cmd.lim
 row : (⟨r.cat,r.ry,r.rm,r.rd,r.bp⟩ : Rt) = c.cmd.row
 y : r.y = c.cmd.y
 m : r.m = c.cmd.m
 d : r.d = c.cmd.d
 lines : Ln.Ls w r.lines.ao r.lines.n r.lines.cap c.cmd.lines
 ofS : r.ofS = c.cmd.ofS
 ofN : r.ofN = c.cmd.ofN
 csess : r.csess = c.cmd.sess
theorem IsC.below {w v : World} {r : Ca.T} {c : Cl} (h : IsC w r c) (k : Below w.heap.size w v) : IsC v r c :=
 ⟨h.sess,h.seq,h.kind,h.ser,h.lim,h.row,h.y,h.m,h.d,h.lines.below k,h.ofS,h.ofN,h.csess⟩
end Go.Proofs.YtjpfpojbalepeaaGreat.Bl
namespace Go.Proofs.YtjpfpojbalepeaaGreat.Pt
open Go.RowKit
open Mem
def rv (r : T) : List Value := [.string r.cat,.int .i64 r.bp,.int .i64 r.net,.int .i64 r.tax]
theorem rv_len (r : T) : (rv r).length = 4 := rfl
theorem flat_len : ∀ rs : List T,(rs.flatMap rv).length = rs.length * 4
 | [] => rfl
 | r :: l => by
  rw [List.flatMap_cons,List.length_append,rv_len,flat_len l,List.length_cons]
  omega
theorem flat_at : ∀ (rs : List T) (k p : Nat) (hk : k < rs.length),p < 4 → (rs.flatMap rv)[k * 4 + p]? = (rv rs[k])[p]?
 | r :: l,0,p,_,hp => by
  rw [List.flatMap_cons,List.getElem?_append_left (by rw [rv_len]; omega),Nat.zero_mul,Nat.zero_add]
  rfl
 | r :: l,k + 1,p,hk,hp => by
  rw [List.flatMap_cons,List.getElem?_append_right (by rw [rv_len]; omega),rv_len,show (k + 1) * 4 + p - 4 = k * 4 + p by omega]
  exact flat_at l k p (by simpa using hk) hp
theorem one_cell (rs : List T) : ∀ v ∈ rs.flatMap rv,v.oneCell' = true := by
 intro v hv
 obtain ⟨r,_,h⟩ := List.mem_flatMap.1 hv
 unfold rv at h
 simp only [List.mem_cons,List.not_mem_nil,or_false] at h
 rcases h with rfl | rfl | rfl | rfl <;> rfl
theorem news_of {w : World} {b off : Nat} {rs : List T} (h : ∀ (k : Nat) (hk : k < rs.length),At w b (off + k * 4) rs[k]) (j : Nat) (u : Value) (hu : (rs.flatMap rv)[j]? = some u) : w.cell? ((⟨b,off,none⟩ : Addr).add j) = some u := by
 have hj : j < (rs.flatMap rv).length := by
  obtain ⟨hj,_⟩ := List.getElem?_eq_some_iff.1 hu
  exact hj
 rw [flat_len] at hj
 obtain ⟨k,p,rfl,hp⟩ : ∃ k p,j = k * 4 + p ∧ p < 4 := ⟨j / 4,j % 4,by omega,by omega⟩
 have hk : k < rs.length := by omega
 rw [flat_at rs k p hk hp] at hu
 have ha : (⟨b,off,none⟩ : Addr).add (k * 4 + p) = ⟨b,off + k * 4 + p,none⟩ := by
  unfold Addr.add
  split
  ·
   rename_i e
   simp only [Addr.mk.injEq,true_and,and_true]
   omega
  ·
   simp only [Addr.mk.injEq,true_and,and_true]
   omega
 rw [ha]
 obtain ⟨c0,c1,c2,c3⟩ := h k hk
 have hp' : p = 0 ∨ p = 1 ∨ p = 2 ∨ p = 3 := by omega
 unfold rv at hu
 rcases hp' with rfl | rfl | rfl | rfl
 all_goals simp at hu
 all_goals subst hu
 · exact c0
 · exact c1
 · exact c2
 · exact c3
def Own (w : World) (B : Nat) (v : Value) (xs : List T) : Prop := w.ownsRow B 105 4 v xs.length (xs.flatMap rv)
theorem own_nil (w : World) (B : Nat) : Own w B (.slice none 0 0) [] := ⟨rfl,.inl ⟨rfl,rfl⟩⟩
theorem own_ls {w : World} {B : Nat} {v : Value} {xs : List T} (h : Own w B v xs) (hs : ∀ r ∈ xs,Short r) : ∃ ao cap,v = .slice ao xs.length cap ∧ Ls w ao xs.length cap xs ∧ (∀ ad,ao = some ad → ∃ g,ad = ⟨g,0,none⟩ ∧ B ≤ g) := by
 rcases h.2 with ⟨h',h2⟩ | ⟨g,cap,cur,h',hb,hg,hnc,hcm,hcs,htake⟩
 ·
  have e : xs = [] := List.length_eq_zero_iff.1 h2
  subst e
  exact ⟨none,0,h',⟨rfl,Nat.le_refl _,by omega,fun _ => rfl,.inl rfl,hs⟩,fun ad k => by cases k⟩
 ·
  refine ⟨some ⟨g,0,none⟩,cap,h',⟨rfl,hnc,hcm,fun k => (by cases k),.inr ⟨g,0,rfl,fun k hk => ?_⟩,hs⟩,fun ad k => by cases k; exact ⟨g,rfl,hb⟩⟩
  have hcell : ∀ p,p < 4 → w.cell? ⟨g,0 + k * 4 + p,none⟩ = (rv xs[k])[p]? := by
   intro p hp
   rw [Nat.zero_add,cell_of_row w g _ _ _ _ hg,← flat_at xs k p hk hp,← htake,List.getElem?_take_of_lt (by omega)]
   simp
  exact ⟨hcell 0 (by omega),hcell 1 (by omega),hcell 2 (by omega),hcell 3 (by omega)⟩
def zero : T := ⟨.empty,0,0,0⟩
def zeroV : Value := .agg #[.string .empty,.int .i64 0,.int .i64 0,.int .i64 0]
theorem info : (Tryz.prog.info? 105).map (fun i => (i.zero,i.size,i.bytes)) = some (some zeroV,4,40) := by kernel_rfl
theorem own_mono {w : World} {B C : Nat} {v : Value} {xs : List T} (h : Own w B v xs) (hc : C ≤ B) : Own w C v xs := by
 obtain ⟨h1,h2⟩ := h
 refine ⟨h1,?_⟩
 rcases h2 with h2 | ⟨g,cap,cur,h',hb,h3⟩
 · exact .inl h2
 · exact .inr ⟨g,cap,cur,h',by omega,h3⟩
def block (r : T) : Obj := .cells #[.string r.cat,.int .i64 r.bp,.int .i64 r.net,.int .i64 r.tax] 105 (0,0)
theorem seg_block {X : World} {g : Nat} {r : T} (h : X.heap[g]? = some (block r)) : Seg X (some ⟨g,0,none⟩) [r] := by
 refine .inr ⟨g,0,rfl,fun k hk => ?_⟩
 obtain rfl : k = 0 := by simpa using hk
 unfold block at h
 refine ⟨?_,?_,?_,?_⟩
 all_goals rw [cell_of_row X g _ _ _ _ h]
 all_goals rfl
end Go.Proofs.YtjpfpojbalepeaaGreat.Pt
namespace Go.Proofs.YtjpfpojbalepeaaGreat.Pt
open Go.RowKit
open Mem
def Block (w : World) (g : Nat) (ts : List T) : Prop := w.heap[g]? = some (.cells (ts.flatMap rv).toArray 105 (0,0))
theorem Block.lt {w : World} {g : Nat} {ts : List T} (h : Block w g ts) : g < w.heap.size := by
 obtain ⟨hg,_⟩ := Array.getElem?_eq_some_iff.1 h
 exact hg
theorem Block.below {w u : World} {g : Nat} {ts : List T} (h : Block w g ts) (k : Below w.heap.size w u) : Block u g ts := (k.block g h.lt).trans h
theorem Block.row {w : World} {g : Nat} {ts : List T} (h : Block w g ts) (k : Nat) (hk : k < ts.length) : At w g (k * 4) ts[k] := by
 have hcell : ∀ p,p < 4 → w.cell? ⟨g,k * 4 + p,none⟩ = (rv ts[k])[p]? := by
  intro p hp
  rw [cell_of_row w g _ _ _ _ h,← flat_at ts k p hk hp]
  simp
 exact ⟨hcell 0 (by omega),hcell 1 (by omega),hcell 2 (by omega),hcell 3 (by omega)⟩
theorem Block.frozen {w : World} {g : Nat} {ts : List T} (h : Block w g ts) (k : Nat) : w.frozen? ⟨g,k,none⟩ = false := frozen_of_row w g k _ _ h
theorem Block.ls {w : World} {g : Nat} {ts zs : List T} (h : Block w g (ts ++ zs)) (n cap : Nat) (hn : n = ts.length) (hc : n ≤ cap) (hm : cap ≤ 9223372036854775807) (hs : ∀ r ∈ ts,Short r) : Ls w (some ⟨g,0,none⟩) n cap ts := by
 refine ⟨hn,hc,hm,(fun k => by cases k),.inr ⟨g,0,rfl,fun k hk => ?_⟩,hs⟩
 have hr := h.row k (by rw [List.length_append]; omega)
 rw [List.getElem_append_left hk] at hr
 rw [Nat.zero_add]
 exact hr
def zeros (n : Nat) : Array Value := ((List.replicate n zero).flatMap rv).toArray
theorem sizeZ : (Tryz.prog.info? 105).map (·.size) = some 4 := by kernel_rfl
theorem made (n : Nat) : madeCells zeroV.cells (n * 4) = zeros n := by
 apply Array.ext_getElem?
 intro j
 by_cases hj : j < n * 4
 ·
  obtain ⟨k,p,rfl,hp⟩ : ∃ k p,j = k * 4 + p ∧ p < 4 := ⟨j / 4,j % 4,by omega,by omega⟩
  have hk : k < n := by omega
  have hz : (zeros n)[k * 4 + p]? = (rv zero)[p]? := by
   unfold zeros
   rw [List.getElem?_toArray,flat_at (List.replicate n zero) k p (by simpa using hk) hp,List.getElem_replicate]
  rw [hz]
  have e : (k * 4 + p) % 4 = p := by omega
  have hp' : p = 0 ∨ p = 1 ∨ p = 2 ∨ p = 3 := by omega
  unfold madeCells
  rw [Array.getElem?_map,Array.getElem?_range,if_pos hj]
  simp only [Option.map_some]
  rw [show zeroV.cells.size = 4 from rfl,e]
  rcases hp' with rfl | rfl | rfl | rfl <;> rfl
 ·
  rw [Array.getElem?_eq_none (by rw [size_madeCells]; omega),Array.getElem?_eq_none]
  unfold zeros
  rw [List.size_toArray,flat_len,List.length_replicate]
  omega
theorem make (n : Nat) (hn : n ≤ 100000) (u : World) : (Instr.makeSlice 62 (.int .i64 (n : Int)) (.int .i64 (n : Int))).run Tryz.prog u =
  .ok (.slice (some ⟨u.heap.size,0,none⟩) n n) (u.alloc (.cells (zeros n) 105)) := by
 obtain ⟨i0,hi,hz0,hz1,hz2⟩ := info_parts info
 have h := run_make (P := Tryz.prog) u 62 105 i0 zeroV Tryz.underlying62 hi hz0 .i64 .i64 (n : Int) (n : Int) (by omega) (Int.le_refl _) (by rw [hz2]; omega) (by omega)
 rw [hz1,Int.toNat_natCast,made] at h
 exact h
theorem block_made (u : World) (n : Nat) : Block (u.alloc (.cells (zeros n) 105)) u.heap.size (List.replicate n zero) := heap_alloc_new u _
theorem copy (u : World) (g : Nat) (ts : List T) (dCap : Nat) (ao : Option Addr) (n cap : Nat) (rs : List T) (hb : Block u g (List.replicate n zero ++ ts)) (hn : n = rs.length) (hs : Seg u ao rs) :
  ∃ u',(Builtin.copy_ #[62,62] 3 #[.slice (some ⟨g,0,none⟩) (n + ts.length) dCap,.slice ao n cap]).run Tryz.prog u = .ok (goInt n) u' ∧ Block u' g (rs ++ ts) ∧ (∀ B w0,Below B w0 u → B ≤ g → Below B w0 u') ∧ u'.heap.size = u.heap.size := by
 obtain ⟨i0,hi,hiK⟩ := Option.map_eq_some_iff.1 sizeZ
 have hmin : Nat.min n (n + ts.length) = n := Nat.min_eq_left (by omega)
 rcases hs with e | ⟨b,off,rfl,hc⟩
 ·
  subst e
  obtain rfl : n = 0 := hn
  refine ⟨u,?_,by simpa using hb,fun _ _ h _ => h,rfl⟩
  have hl : ∀ (x : Addr),(loadCells x 0).run Tryz.prog u = .ok #[] u := fun x => by simpa using run_loadCells_list (P := Tryz.prog) u x [] (by simp)
  cases ao <;> simp [Builtin.copy_,run_underlying Tryz.underlying62,Builtin.lenOf,Builtin.firstCells,sizeOf,typeInfo,hi,storeCells,hl]
 ·
  have hl := run_loadCells_list (P := Tryz.prog) u ⟨b,off,none⟩ (rs.flatMap rv) (fun j v hv => news_of hc j v hv)
  have hst := run_storeCells_at Tryz.prog g 0 105 (rs.flatMap rv) 0 _ u hb (by rw [List.size_toArray,flat_len,flat_len,List.length_append,List.length_replicate]; omega) (one_cell rs)
  have hlen : (rs.flatMap rv).length = n * 4 := by rw [flat_len,hn]
  have e : (((List.replicate n zero ++ ts).flatMap rv).toArray.toList.take (0 + 0) ++ rs.flatMap rv ++ ((List.replicate n zero ++ ts).flatMap rv).toArray.toList.drop (0 + 0 + (rs.flatMap rv).length)) = (rs ++ ts).flatMap rv := by
   rw [List.toList_toArray,List.take_zero,List.nil_append,Nat.zero_add,hlen,List.flatMap_append,List.flatMap_append,List.drop_left' (by rw [flat_len,List.length_replicate])]
  rw [e] at hst
  refine ⟨u.setRow g ((rs ++ ts).flatMap rv).toArray,?_,setRow_heap u g _ _ 105 _ hb,fun B w0 h hB => below_setRow h hB _,by simp [World.setRow]⟩
  rw [hlen] at hl
  simp [Builtin.copy_,run_underlying Tryz.underlying62,Builtin.lenOf,Builtin.firstCells,sizeOf,typeInfo,hi,hiK,hmin,hl,hst]
theorem set_right {a : T} (X : List Value) (k p : Nat) (v : Value) : (rv a ++ X).set ((k + 1) * 4 + p) v = rv a ++ X.set (k * 4 + p) v := by
 rw [List.set_append_right _ _ (by rw [rv_len]; omega),rv_len,show (k + 1) * 4 + p - 4 = k * 4 + p by omega]
theorem flat_set : ∀ (ts : List T) (k : Nat) (r : T),k < ts.length → (ts.set k r).flatMap rv = (((((ts.flatMap rv).set (k * 4) (.string r.cat)).set (k * 4 + 1) (.int .i64 r.bp)).set (k * 4 + 2) (.int .i64 r.net)).set (k * 4 + 3) (.int .i64 r.tax))
 | a :: l,0,r,_ => rfl
 | a :: l,k + 1,r,h => by
  have ih := flat_set l k r (by simpa using h)
  have e0 := fun (X : List Value) (v : Value) => set_right (a := a) X k 0 v
  simp only [Nat.add_zero] at e0
  rw [List.set_cons_succ,List.flatMap_cons,ih,List.flatMap_cons,e0,set_right,set_right,set_right]
theorem Block.store {w : World} {g : Nat} {ts : List T} (h : Block w g ts) (k : Nat) (hk : k < ts.length) (r : T) :
  Block ((((w.setCell ⟨g,k * 4,none⟩ (.string r.cat)).setCell ⟨g,k * 4 + 1,none⟩ (.int .i64 r.bp)).setCell ⟨g,k * 4 + 2,none⟩ (.int .i64 r.net)).setCell ⟨g,k * 4 + 3,none⟩ (.int .i64 r.tax)) g (ts.set k r) := by
 have h1 := heap_setCell_same _ g (k * 4) _ _ (.string r.cat) h
 have h2 := heap_setCell_same _ g (k * 4 + 1) _ _ (.int .i64 r.bp) h1
 have h3 := heap_setCell_same _ g (k * 4 + 2) _ _ (.int .i64 r.net) h2
 have h4 := heap_setCell_same _ g (k * 4 + 3) _ _ (.int .i64 r.tax) h3
 unfold Block
 rw [h4,flat_set ts k r hk]
 simp only [List.setIfInBounds_toArray]
theorem below_store {B g : Nat} {w0 w : World} (h : Below B w0 w) (hg : B ≤ g) (k : Nat) (x0 x1 x2 x3 : Value) :
  Below B w0 ((((w.setCell ⟨g,k * 4,none⟩ x0).setCell ⟨g,k * 4 + 1,none⟩ x1).setCell ⟨g,k * 4 + 2,none⟩ x2).setCell ⟨g,k * 4 + 3,none⟩ x3) :=
 ((((h.setCell hg x0).setCell hg x1).setCell hg x2).setCell hg x3)
theorem flat_put (r : T) (p : Nat) (x : Value) (hp : p < 4) : ∀ (M : List T) (k : Nat) (hk : k < M.length),rv r = (rv M[k]).set p x → (M.set k r).flatMap rv = (M.flatMap rv).set (k * 4 + p) x
 | a :: l,0,_,h => by
  have h' : rv r = (rv a).set p x := h
  rw [List.set_cons_zero,List.flatMap_cons,List.flatMap_cons,Nat.zero_mul,Nat.zero_add,List.set_append_left _ _ (by rw [rv_len]; exact hp),h']
 | a :: l,k + 1,hk,h => by
  have ih := flat_put r p x hp l k (by simpa using hk) (by simpa using h)
  rw [List.set_cons_succ,List.flatMap_cons,List.flatMap_cons,List.set_append_right _ _ (by rw [rv_len]; omega),rv_len,show (k + 1) * 4 + p - 4 = k * 4 + p by omega,ih]
theorem own_of_block {w : World} {B g n : Nat} {M : List T} (h : Block w g M) (hB : B ≤ g) (hn : n = M.length) (hm : n ≤ 100000) : Own w B (.slice (some ⟨g,0,none⟩) n n) M := by
 subst hn
 exact ⟨by rw [flat_len],.inr ⟨g,M.length,_,rfl,hB,h,Nat.le_refl _,by have : maxLen = 9223372036854775807 := rfl; omega,by rw [List.size_toArray,flat_len],List.take_of_length_le (by show (M.flatMap rv).length ≤ _; rw [flat_len]; exact Nat.le_refl _)⟩⟩
theorem own_far {w : World} {B : Nat} {v : Value} {M : List T} (h : Own w B v M) {b : Nat} (hne : b < B) (o : Nat) (x : Value) : Own (w.setCell ⟨b,o,none⟩ x) B v M := by
 obtain ⟨h1,h2⟩ := h
 refine ⟨h1,?_⟩
 rcases h2 with h2 | ⟨g,cap,cur,h',hb,hg,h3⟩
 · exact .inl h2
 · exact .inr ⟨g,cap,cur,h',hb,by rw [heap_setCell_other w ⟨b,o,none⟩ g x (by show g ≠ b; omega)]; exact hg,h3⟩
end Go.Proofs.YtjpfpojbalepeaaGreat.Pt
namespace Go.Proofs.YtjpfpojbalepeaaGreat.Tt
open Go.RowKit
open Mem
def val (n t s : Int) (v : Value) : Value := .agg #[.int .i64 n,.int .i64 t,.int .i64 s,v]
def At (u : World) (g : Nat) (n t s : Int) (v : Value) : Prop := u.heap[g]? = some (.cells #[.int .i64 n,.int .i64 t,.int .i64 s,v] 64 (0,0))
def box (w : World) (n t s : Int) (v : Value) : World := w.alloc (.cells #[.int .i64 n,.int .i64 t,.int .i64 s,v] 64)
theorem at_box (w : World) (n t s : Int) (v : Value) : At (box w n t s v) w.heap.size n t s v := heap_alloc_new w _
theorem box_size (w : World) (n t s : Int) (v : Value) : (box w n t s v).heap.size = w.heap.size + 1 := by
 unfold box
 simp
theorem below_own (w : World) (n t s : Int) (v : Value) : Below w.heap.size w (box w n t s v) := (Below.refl _ _).alloc (Nat.le_refl _) _
section
variable {u u' : World} {g : Nat} {n t s : Int} {v : Value}
theorem At.lt (h : At u g n t s v) : g < u.heap.size := by
 obtain ⟨hl,_⟩ := Array.getElem?_eq_some_iff.1 h
 exact hl
theorem At.below (h : At u g n t s v) (b : Below u.heap.size u u') : At u' g n t s v := (b.block g h.lt).trans h
theorem At.cells (h : At u g n t s v) : u.cell? ⟨g,0,none⟩ = some (.int .i64 n) ∧ u.cell? ⟨g,1,none⟩ = some (.int .i64 t) ∧ u.cell? ⟨g,2,none⟩ = some (.int .i64 s) ∧ u.cell? ⟨g,3,none⟩ = some v := by
 refine ⟨?_,?_,?_,?_⟩
 all_goals
  rw [cell_of_row u g _ _ _ _ h]
  rfl
theorem At.frozen (h : At u g n t s v) (k : Nat) : u.frozen? ⟨g,k,none⟩ = false := frozen_of_row u g k _ _ h
theorem At.far (h : At u g n t s v) {b : Nat} (hne : g ≠ b) (o : Nat) (x : Value) : At (u.setCell ⟨b,o,none⟩ x) g n t s v := by
 unfold At
 rw [heap_setCell_other u ⟨b,o,none⟩ g x hne]
 exact h
theorem At.set0 (h : At u g n t s v) (x : Int) : At (u.setCell ⟨g,0,none⟩ (.int .i64 x)) g x t s v := (heap_setCell_same u g 0 _ _ _ h).trans rfl
theorem At.set1 (h : At u g n t s v) (x : Int) : At (u.setCell ⟨g,1,none⟩ (.int .i64 x)) g n x s v := (heap_setCell_same u g 1 _ _ _ h).trans rfl
theorem At.set2 (h : At u g n t s v) (x : Int) : At (u.setCell ⟨g,2,none⟩ (.int .i64 x)) g n t x v := (heap_setCell_same u g 2 _ _ _ h).trans rfl
theorem At.set3 (h : At u g n t s v) (x : Value) : At (u.setCell ⟨g,3,none⟩ x) g n t s x := (heap_setCell_same u g 3 _ _ _ h).trans rfl
theorem At.set4 (h : At u g n t s v) (n' t' s' : Int) (v' : Value) : At ((((u.setCell ⟨g,0,none⟩ (.int .i64 n')).setCell ⟨g,1,none⟩ (.int .i64 t')).setCell ⟨g,2,none⟩ (.int .i64 s')).setCell ⟨g,3,none⟩ v') g n' t' s' v' := (((h.set0 n').set1 t').set2 s').set3 v'
end
def Ans (w : World) (E : Int) (T : Iv.Tot) (e : Ending) (w' : World) : Prop := ∃ v,e = .returned (.tuple #[val T.net T.tax T.gross v,.int .i64 E]) ∧ Pt.Own w' w.heap.size v T.parts ∧ Below w.heap.size w w'
end Go.Proofs.YtjpfpojbalepeaaGreat.Tt
namespace Go.Proofs.YtjpfpojbalepeaaGreat.Pt
open Go.RowKit
open Mem
open Go.Sort (grow)
def eqB (a b : T) : Bool := decide (a.cat = b.cat ∧ a.bp = b.bp ∧ a.net = b.net ∧ a.tax = b.tax)
theorem eqB_iff (a b : T) : eqB a b = true ↔ a = b := by
 unfold eqB
 rw [decide_eq_true_iff]
 cases a
 cases b
 simp
def sameB : List T → List T → Bool
 | [],[] => true
 | a :: l,b :: m => eqB a b && sameB l m
 | _,_ => false
theorem sameB_iff : ∀ l m : List T,sameB l m = true ↔ l = m
 | [],[] => by simp [sameB]
 | [],_ :: _ => by simp [sameB]
 | _ :: _,[] => by simp [sameB]
 | a :: l,b :: m => by
  rw [sameB,Bool.and_eq_true,eqB_iff,sameB_iff l m,List.cons.injEq]
theorem sameB_self (l : List T) : sameB l l = true := (sameB_iff l l).2 rfl
theorem sameB_len {l m : List T} (h : l.length ≠ m.length) : sameB l m = false := by
 rw [Bool.eq_false_iff]
 intro k
 exact h (congrArg List.length ((sameB_iff l m).1 k))
theorem same_at (l m : List T) (k : Nat) (h : k < l.length) (h' : k < m.length) : sameB (l.drop k) (m.drop k) = (eqB l[k] m[k] && sameB (l.drop (k + 1)) (m.drop (k + 1))) := by
 rw [List.drop_eq_getElem_cons h,List.drop_eq_getElem_cons h',sameB]
end Go.Proofs.YtjpfpojbalepeaaGreat.Pt
namespace Go.Proofs.YtjpfpojbalepeaaGreat.Ba
open Go.RowKit
open Mem
open Go.Sort (grow)
def eqB (a b : T) : Bool := decide (a.acct = b.acct ∧ a.amt = b.amt)
theorem eqB_iff (a b : T) : eqB a b = true ↔ a = b := by
 unfold eqB
 rw [decide_eq_true_iff]
 cases a
 cases b
 simp
def sameB : List T → List T → Bool
 | [],[] => true
 | a :: l,b :: m => eqB a b && sameB l m
 | _,_ => false
theorem sameB_iff : ∀ l m : List T,sameB l m = true ↔ l = m
 | [],[] => by simp [sameB]
 | [],_ :: _ => by simp [sameB]
 | _ :: _,[] => by simp [sameB]
 | a :: l,b :: m => by
  rw [sameB,Bool.and_eq_true,eqB_iff,sameB_iff l m,List.cons.injEq]
theorem sameB_self (l : List T) : sameB l l = true := (sameB_iff l l).2 rfl
theorem sameB_len {l m : List T} (h : l.length ≠ m.length) : sameB l m = false := by
 rw [Bool.eq_false_iff]
 intro k
 exact h (congrArg List.length ((sameB_iff l m).1 k))
theorem same_at (l m : List T) (k : Nat) (h : k < l.length) (h' : k < m.length) : sameB (l.drop k) (m.drop k) = (eqB l[k] m[k] && sameB (l.drop (k + 1)) (m.drop (k + 1))) := by
 rw [List.drop_eq_getElem_cons h,List.drop_eq_getElem_cons h',sameB]
end Go.Proofs.YtjpfpojbalepeaaGreat.Ba
namespace Go.Proofs.YtjpfpojbalepeaaGreat
open Go.RowKit
open Mem
def Bl.box (w : World) (h : Bl.Sv) : World := w.alloc (.cells #[Bl.sl h.tab,Bl.sl h.ser,Bl.sl h.post,Bl.sl h.book,Bl.sl h.sess,.int .i64 h.next] 42)
def Bl.At (u : World) (g : Nat) (h : Bl.Sv) : Prop := u.heap[g]? = some (.cells #[Bl.sl h.tab,Bl.sl h.ser,Bl.sl h.post,Bl.sl h.book,Bl.sl h.sess,.int .i64 h.next] 42 (0,0))
theorem Bl.at_box (w : World) (h : Bl.Sv) : Bl.At (Bl.box w h) w.heap.size h := heap_alloc_new w _
theorem Bl.box_size (w : World) (h : Bl.Sv) : (Bl.box w h).heap.size = w.heap.size + 1 := by
 unfold Bl.box
 simp
theorem Bl.below_own (w : World) (h : Bl.Sv) : Below w.heap.size w (Bl.box w h) := (Below.refl _ _).alloc (Nat.le_refl _) _
theorem Bl.At.lt {u : World} {g : Nat} {h : Bl.Sv} (a : Bl.At u g h) : g < u.heap.size := by
 obtain ⟨hl,_⟩ := Array.getElem?_eq_some_iff.1 a
 exact hl
theorem Bl.At.below {u v : World} {g : Nat} {h : Bl.Sv} (a : Bl.At u g h) (b : Below u.heap.size u v) : Bl.At v g h := (b.block g a.lt).trans a
theorem Bl.At.cells {u : World} {g : Nat} {h : Bl.Sv} (a : Bl.At u g h) : u.cell? ⟨g,0,none⟩ = some (.slice h.tab.ao h.tab.n h.tab.cap) ∧ u.cell? ⟨g,1,none⟩ = some (.slice h.ser.ao h.ser.n h.ser.cap) ∧ u.cell? ⟨g,2,none⟩ = some (.slice h.post.ao h.post.n h.post.cap) ∧ u.cell? ⟨g,3,none⟩ = some (.slice h.book.ao h.book.n h.book.cap) ∧ u.cell? ⟨g,4,none⟩ = some (.slice h.sess.ao h.sess.n h.sess.cap) ∧ u.cell? ⟨g,5,none⟩ = some (.int .i64 h.next) := by
 refine ⟨?_,?_,?_,?_,?_,?_⟩
 all_goals
  rw [cell_of_row u g _ _ _ _ a]
  rfl
theorem Bl.At.frozen {u : World} {g : Nat} {h : Bl.Sv} (a : Bl.At u g h) (k : Nat) : u.frozen? ⟨g,k,none⟩ = false := frozen_of_row u g k _ _ a
end Go.Proofs.YtjpfpojbalepeaaGreat
namespace Go.Proofs.YtjpfpojbalepeaaGreat
open Go.ChangeShapes Go.WideShapes Go.ChangeAt Go.RowKit
theorem own : ownKnob Tryz.prog.godebug = none := by kernel_rfl
theorem laidOut : laidOutB Tryz.prog = true := by kernel_rfl
end Go.Proofs.YtjpfpojbalepeaaGreat
namespace Go.Proofs.YtjpfpojbalepeaaGreat.Ln
open Go.RowKit
open Mem
def rv (r : T) : List Value := [.string r.text,.string r.category,.int .i64 r.count,.int .i64 r.price]
def zero : T := ⟨.empty,.empty,0,0⟩
end Go.Proofs.YtjpfpojbalepeaaGreat.Ln
namespace Go.Proofs.YtjpfpojbalepeaaGreat.Ln
open Go.ChangeShapes Go.WideShapes Go.ChangeAt Go.RowKit Mem
set_option maxRecDepth 100000
theorem cellsOf : Tryz.prog.cellsOf 71 = 4 := by kernel_rfl
def datum (H : Type) (r : T) : DataW H := .agg [.lit (.string (txt r.text)),.lit (.string (txt r.category)),.lit (.int .i64 r.count),.lit (.int .i64 r.price)]
theorem open_cells {H : Type} {enc : TypeId × Value → H} {w : World} {base : Nat} {spare : Nat → Bool} {held : Bool} {fuel : Nat} {cs : List Value} {x : DataW H × List MemPlace}
  (h : DataW.trod enc Tryz.prog w base spare held fuel 71 cs = some x) : ∃ r : T,cs = rv r ∧ x.1 = datum H r ∧ Fit r.count ∧ Fit r.price := by
 obtain ⟨xs,n,_,rfl,hl,hxl,hf⟩ := DataW.trod_struct Tryz.underlying71 h
 rw [cellsOf] at hl
 match cs,hl with
 | [v0,v1,v2,v3],_ =>
  match xs,hxl with
  | [y0,y1,y2,y3],_ =>
   have g0 : DataW.trod enc Tryz.prog w base spare held n 9 (List.take (Tryz.prog.cellsOf 9) (List.drop 0 [v0,v1,v2,v3])) = some y0 := hf 0 _ rfl
   rw [show Tryz.prog.cellsOf 9 = 1 by kernel_rfl] at g0
   simp only [List.drop,List.take] at g0
   have g1 : DataW.trod enc Tryz.prog w base spare held n 9 (List.take (Tryz.prog.cellsOf 9) (List.drop 1 [v0,v1,v2,v3])) = some y1 := hf 1 _ rfl
   rw [show Tryz.prog.cellsOf 9 = 1 by kernel_rfl] at g1
   simp only [List.drop,List.take] at g1
   have g2 : DataW.trod enc Tryz.prog w base spare held n 3 (List.take (Tryz.prog.cellsOf 3) (List.drop 2 [v0,v1,v2,v3])) = some y2 := hf 2 _ rfl
   rw [show Tryz.prog.cellsOf 3 = 1 by kernel_rfl] at g2
   simp only [List.drop,List.take] at g2
   have g3 : DataW.trod enc Tryz.prog w base spare held n 3 (List.take (Tryz.prog.cellsOf 3) (List.drop 3 [v0,v1,v2,v3])) = some y3 := hf 3 _ rfl
   rw [show Tryz.prog.cellsOf 3 = 1 by kernel_rfl] at g3
   simp only [List.drop,List.take] at g3
   obtain ⟨x0,e0,rfl,_⟩ := DataW.trod_string Tryz.underlying9 g0
   obtain ⟨x1,e1,rfl,_⟩ := DataW.trod_string Tryz.underlying9 g1
   obtain ⟨x2,e2,rfl,w2⟩ := DataW.trod_int Tryz.underlying3 g2
   obtain ⟨x3,e3,rfl,w3⟩ := DataW.trod_int Tryz.underlying3 g3
   simp only [List.cons.injEq,and_true] at e0 e1 e2 e3
   subst e0 e1 e2 e3
   exact ⟨⟨x0,x1,x2,x3⟩,rfl,rfl,fit_in w2,fit_in w3⟩
theorem weights_text {H : Type} (r : T) : (txt r.text).length ∈ (datum H r).weights Tryz.prog 71 := by
 unfold datum
 simp [DataW.weights,Tryz.underlying71,DataW.weightsEach]
theorem weights_category {H : Type} (r : T) : (txt r.category).length ∈ (datum H r).weights Tryz.prog 71 := by
 unfold datum
 simp [DataW.weights,Tryz.underlying71,DataW.weightsEach]
theorem weights_all {H : Type} {P : Program} {e : TypeId} {d : DataW H} {n : Nat} (hn : n ∈ d.weights P e) : ∀ (l : List (DataW H)),d ∈ l → n ∈ DataW.weightsAll P e l
 | a :: l,h => by
  rw [DataW.weightsAll,List.mem_append]
  rcases List.mem_cons.1 h with rfl | h
  · exact .inl hn
  · exact .inr (weights_all hn l h)
def AtA (w : World) (a : Addr) (r : T) : Prop := ∀ p,p < 4 → w.cell? (a.add p) = (rv r)[p]?
def Tight (r : T) : Prop := r.text.size ≤ 140737488351232 ∧ r.category.size ≤ 140737488351232
theorem list_tight {H : Type} {enc : TypeId × Value → H} {W : World} {ao : Option Addr} {n cap : Nat} {d : DataW H} {p : List MemPlace} {ts : List TypeId} {ds : List (DataW H)} (j : Nat)
  (hj : DataW.Trod enc Tryz.prog W 0 (fun _ => true) true 26 (.slice ao n cap) d p)
  (hsz : (DataW.weightsEach Tryz.prog ts ds).all (· ≤ reachBytes) = true) (ht : ts[j]? = some 26) (hd : ds[j]? = some d) : ∃ rs,Ls W ao n cap rs ∧ ∀ r ∈ rs,Tight r := by
 haveI : Inhabited T := ⟨zero⟩
 obtain ⟨fuel,hf⟩ := hj
 rcases Go.Deep.open_slice Tryz.underlying26 hf with ⟨hcs,_⟩ | ⟨a,len,c,m,k,D,Pl,hcs,_,hl,hm,hmm,hx,hel⟩
 ·
  simp [Value.cells] at hcs
  obtain ⟨rfl,rfl,rfl⟩ := hcs
  exact ⟨[],ls_nil W,by simp⟩
 ·
  simp [Value.cells] at hcs
  obtain ⟨rfl,rfl,rfl⟩ := hcs
  simp only [if_true] at hmm
  subst hmm
  obtain ⟨R,hR⟩ := Go.Deep.choose_lt (α := T) (n := m) (p := fun i r => AtA W (a.add (i * 4)) r ∧ D i = datum H r ∧ Fit r.count ∧ Fit r.price) (fun i hi => by
   obtain ⟨cs',h1,h2⟩ := hel i hi
   rw [cellsOf] at h1
   obtain ⟨_,_,hcell⟩ := World.cells?_some h1
   obtain ⟨r,e,hx',f⟩ := open_cells h2
   subst e
   exact ⟨r,fun p hp => hcell p hp,hx',f⟩)
  have hd' := congrArg Prod.fst hx
  simp only at hd'
  rw [hd'] at hd
  have hall : ∀ r ∈ (List.range n).map R,Short r ∧ Tight r := by
   intro r hr
   obtain ⟨i,hi,rfl⟩ := List.mem_map.1 hr
   rw [List.mem_range] at hi
   obtain ⟨_,hDi,hf0,hf1⟩ := hR i (by omega)
   have hq_text : (R i).text.size ≤ 140737488351232 := by
    have hw := List.all_eq_true.1 hsz _ (DataW.weights_mem_each ht hd (txt (R i).text).length (by
     rw [DataW.weights,Tryz.underlying26]
     refine List.mem_cons_of_mem _ (List.mem_append.2 (.inl (weights_all (weights_text (R i)) _ ?_)))
     rw [← hDi]
     exact List.mem_map.2 ⟨i,List.mem_range.2 hi,rfl⟩))
    rw [decide_eq_true_eq,txt_len] at hw
    unfold reachBytes at hw
    omega
   have hq_category : (R i).category.size ≤ 140737488351232 := by
    have hw := List.all_eq_true.1 hsz _ (DataW.weights_mem_each ht hd (txt (R i).category).length (by
     rw [DataW.weights,Tryz.underlying26]
     refine List.mem_cons_of_mem _ (List.mem_append.2 (.inl (weights_all (weights_category (R i)) _ ?_)))
     rw [← hDi]
     exact List.mem_map.2 ⟨i,List.mem_range.2 hi,rfl⟩))
    rw [decide_eq_true_eq,txt_len] at hw
    unfold reachBytes at hw
    omega
   have hs_text : (R i).text.size ≤ 140737488355328 := Nat.le_trans hq_text (by omega)
   have hs_category : (R i).category.size ≤ 140737488355328 := Nat.le_trans hq_category (by omega)
   exact ⟨⟨hs_text,hs_category,hf0,hf1⟩,⟨hq_text,hq_category⟩⟩
  refine ⟨(List.range n).map R,⟨by simp,hl,hm,(fun h => by cases h),?_,fun r hr => (hall r hr).1⟩,fun r hr => (hall r hr).2⟩
  ·
   by_cases h0 : 0 < n
   ·
    obtain ⟨b,off,spot⟩ := a
    have h1 := (hR 0 (by omega)).1 0 (by omega)
    have hspot : spot = none := by
     have h2 : W.cell? ((Addr.mk b off spot).add 0) = some (.string (R 0).text) := by
      rw [show (Addr.mk b off spot).add 0 = ((Addr.mk b off spot).add (0 * 4)).add 0 by simp [Addr.add]]
      exact h1
     simpa [Addr.add] using World.cell?_spot h2
    subst hspot
    refine .inr ⟨b,off,rfl,fun k hk => ?_⟩
    simp only [List.length_map,List.length_range] at hk
    have hcell : ∀ p,p < 4 → W.cell? ⟨b,off + k * 4 + p,none⟩ = (rv (R k))[p]? := by
     intro p hp
     rw [← (hR k (by omega)).1 p hp,Go.WideShapes.add_plain,Go.WideShapes.add_plain]
    simp only [List.getElem_map,List.getElem_range]
    exact ⟨hcell 0 (by omega),hcell 1 (by omega),hcell 2 (by omega),hcell 3 (by omega)⟩
   · exact .inl (by rw [show n = 0 by omega]; rfl)
end Go.Proofs.YtjpfpojbalepeaaGreat.Ln
namespace Go.Proofs.YtjpfpojbalepeaaGreat.Ca
open Go.ChangeShapes Go.WideShapes Go.ChangeAt Go.RowKit Mem
set_option maxRecDepth 100000
theorem cellsOf : Tryz.prog.cellsOf 32 = 17 := by kernel_rfl
def datum (H : Type) (r : T) (dl : DataW H) : DataW H := .agg [.lit (.int .i64 r.sess),.lit (.int .i64 r.seq),.agg [.lit (.int .i64 r.kind),.lit (.string (txt r.ser)),.lit (.int .i64 r.lim),.agg [.lit (.string (txt r.cat)),.agg [.lit (.int .i64 r.ry),.lit (.int .i64 r.rm),.lit (.int .i64 r.rd)],.lit (.int .i64 r.bp)],.agg [.lit (.int .i64 r.y),.lit (.int .i64 r.m),.lit (.int .i64 r.d)],dl,.agg [.lit (.string (txt r.ofS)),.lit (.int .i64 r.ofN)],.lit (.int .i64 r.csess)]]
theorem open_cells {H : Type} {enc : TypeId × Value → H} {w : World} {base : Nat} {spare : Nat → Bool} {held : Bool} {fuel : Nat} {cs : List Value} {x : DataW H × List MemPlace}
  (h : DataW.trod enc Tryz.prog w base spare held fuel 32 cs = some x) : ∃ (r : T) (dl : DataW H) (pl : List MemPlace),cs = rv r ∧ x.1 = datum H r dl ∧ DataW.Trod enc Tryz.prog w base spare held 26 (.slice r.lines.ao r.lines.n r.lines.cap) dl pl ∧ Fit r.sess ∧ Fit r.seq ∧ Fit r.kind ∧ Fit r.lim ∧ Fit r.ry ∧ Fit r.rm ∧ Fit r.rd ∧ Fit r.bp ∧ Fit r.y ∧ Fit r.m ∧ Fit r.d ∧ Fit r.ofN ∧ Fit r.csess := by
 obtain ⟨xs,n,_,rfl,hl,hxl,hf⟩ := DataW.trod_struct Tryz.underlying32 h
 rw [cellsOf] at hl
 match cs,hl with
 | [v0,v1,v2,v3,v4,v5,v6,v7,v8,v9,v10,v11,v12,v13,v14,v15,v16],_ =>
  match xs,hxl with
  | [y0,y1,y2],_ =>
   have g0 : DataW.trod enc Tryz.prog w base spare held n 3 (List.take (Tryz.prog.cellsOf 3) (List.drop 0 [v0,v1,v2,v3,v4,v5,v6,v7,v8,v9,v10,v11,v12,v13,v14,v15,v16])) = some y0 := hf 0 _ rfl
   rw [show Tryz.prog.cellsOf 3 = 1 by kernel_rfl] at g0
   simp only [List.drop,List.take] at g0
   have g1 : DataW.trod enc Tryz.prog w base spare held n 3 (List.take (Tryz.prog.cellsOf 3) (List.drop 1 [v0,v1,v2,v3,v4,v5,v6,v7,v8,v9,v10,v11,v12,v13,v14,v15,v16])) = some y1 := hf 1 _ rfl
   rw [show Tryz.prog.cellsOf 3 = 1 by kernel_rfl] at g1
   simp only [List.drop,List.take] at g1
   have g2 : DataW.trod enc Tryz.prog w base spare held n 30 (List.take (Tryz.prog.cellsOf 30) (List.drop 2 [v0,v1,v2,v3,v4,v5,v6,v7,v8,v9,v10,v11,v12,v13,v14,v15,v16])) = some y2 := hf 2 _ rfl
   rw [show Tryz.prog.cellsOf 30 = 15 by kernel_rfl] at g2
   simp only [List.drop,List.take] at g2
   obtain ⟨x0,e0,rfl,w0⟩ := DataW.trod_int Tryz.underlying3 g0
   obtain ⟨x1,e1,rfl,w1⟩ := DataW.trod_int Tryz.underlying3 g1
   obtain ⟨q2_zs,q2_k,_,rfl,_,q2_hl,q2_hf⟩ := DataW.trod_struct Tryz.underlying30 g2
   match q2_zs,q2_hl with
   | [q2_z0,q2_z1,q2_z2,q2_z3,q2_z4,q2_z5,q2_z6,q2_z7],_ =>
    have q2_g0 : DataW.trod enc Tryz.prog w base spare held q2_k 3 (List.take (Tryz.prog.cellsOf 3) (List.drop 0 [v2,v3,v4,v5,v6,v7,v8,v9,v10,v11,v12,v13,v14,v15,v16])) = some q2_z0 := q2_hf 0 _ rfl
    rw [show Tryz.prog.cellsOf 3 = 1 by kernel_rfl] at q2_g0
    simp only [List.drop,List.take] at q2_g0
    have q2_g1 : DataW.trod enc Tryz.prog w base spare held q2_k 9 (List.take (Tryz.prog.cellsOf 9) (List.drop 1 [v2,v3,v4,v5,v6,v7,v8,v9,v10,v11,v12,v13,v14,v15,v16])) = some q2_z1 := q2_hf 1 _ rfl
    rw [show Tryz.prog.cellsOf 9 = 1 by kernel_rfl] at q2_g1
    simp only [List.drop,List.take] at q2_g1
    have q2_g2 : DataW.trod enc Tryz.prog w base spare held q2_k 3 (List.take (Tryz.prog.cellsOf 3) (List.drop 2 [v2,v3,v4,v5,v6,v7,v8,v9,v10,v11,v12,v13,v14,v15,v16])) = some q2_z2 := q2_hf 2 _ rfl
    rw [show Tryz.prog.cellsOf 3 = 1 by kernel_rfl] at q2_g2
    simp only [List.drop,List.take] at q2_g2
    have q2_g3 : DataW.trod enc Tryz.prog w base spare held q2_k 25 (List.take (Tryz.prog.cellsOf 25) (List.drop 3 [v2,v3,v4,v5,v6,v7,v8,v9,v10,v11,v12,v13,v14,v15,v16])) = some q2_z3 := q2_hf 3 _ rfl
    rw [show Tryz.prog.cellsOf 25 = 5 by kernel_rfl] at q2_g3
    simp only [List.drop,List.take] at q2_g3
    have q2_g4 : DataW.trod enc Tryz.prog w base spare held q2_k 23 (List.take (Tryz.prog.cellsOf 23) (List.drop 8 [v2,v3,v4,v5,v6,v7,v8,v9,v10,v11,v12,v13,v14,v15,v16])) = some q2_z4 := q2_hf 4 _ rfl
    rw [show Tryz.prog.cellsOf 23 = 3 by kernel_rfl] at q2_g4
    simp only [List.drop,List.take] at q2_g4
    have q2_g5 : DataW.trod enc Tryz.prog w base spare held q2_k 26 (List.take (Tryz.prog.cellsOf 26) (List.drop 11 [v2,v3,v4,v5,v6,v7,v8,v9,v10,v11,v12,v13,v14,v15,v16])) = some q2_z5 := q2_hf 5 _ rfl
    rw [show Tryz.prog.cellsOf 26 = 1 by kernel_rfl] at q2_g5
    simp only [List.drop,List.take] at q2_g5
    have q2_g6 : DataW.trod enc Tryz.prog w base spare held q2_k 28 (List.take (Tryz.prog.cellsOf 28) (List.drop 12 [v2,v3,v4,v5,v6,v7,v8,v9,v10,v11,v12,v13,v14,v15,v16])) = some q2_z6 := q2_hf 6 _ rfl
    rw [show Tryz.prog.cellsOf 28 = 2 by kernel_rfl] at q2_g6
    simp only [List.drop,List.take] at q2_g6
    have q2_g7 : DataW.trod enc Tryz.prog w base spare held q2_k 3 (List.take (Tryz.prog.cellsOf 3) (List.drop 14 [v2,v3,v4,v5,v6,v7,v8,v9,v10,v11,v12,v13,v14,v15,v16])) = some q2_z7 := q2_hf 7 _ rfl
    rw [show Tryz.prog.cellsOf 3 = 1 by kernel_rfl] at q2_g7
    simp only [List.drop,List.take] at q2_g7
    obtain ⟨x2,e2,rfl,w2⟩ := DataW.trod_int Tryz.underlying3 q2_g0
    obtain ⟨x3,e3,rfl,_⟩ := DataW.trod_string Tryz.underlying9 q2_g1
    obtain ⟨x4,e4,rfl,w4⟩ := DataW.trod_int Tryz.underlying3 q2_g2
    obtain ⟨q2_q3_zs,q2_q3_k,_,rfl,_,q2_q3_hl,q2_q3_hf⟩ := DataW.trod_struct Tryz.underlying25 q2_g3
    match q2_q3_zs,q2_q3_hl with
    | [q2_q3_z0,q2_q3_z1,q2_q3_z2],_ =>
     have q2_q3_g0 : DataW.trod enc Tryz.prog w base spare held q2_q3_k 9 (List.take (Tryz.prog.cellsOf 9) (List.drop 0 [v5,v6,v7,v8,v9])) = some q2_q3_z0 := q2_q3_hf 0 _ rfl
     rw [show Tryz.prog.cellsOf 9 = 1 by kernel_rfl] at q2_q3_g0
     simp only [List.drop,List.take] at q2_q3_g0
     have q2_q3_g1 : DataW.trod enc Tryz.prog w base spare held q2_q3_k 23 (List.take (Tryz.prog.cellsOf 23) (List.drop 1 [v5,v6,v7,v8,v9])) = some q2_q3_z1 := q2_q3_hf 1 _ rfl
     rw [show Tryz.prog.cellsOf 23 = 3 by kernel_rfl] at q2_q3_g1
     simp only [List.drop,List.take] at q2_q3_g1
     have q2_q3_g2 : DataW.trod enc Tryz.prog w base spare held q2_q3_k 3 (List.take (Tryz.prog.cellsOf 3) (List.drop 4 [v5,v6,v7,v8,v9])) = some q2_q3_z2 := q2_q3_hf 2 _ rfl
     rw [show Tryz.prog.cellsOf 3 = 1 by kernel_rfl] at q2_q3_g2
     simp only [List.drop,List.take] at q2_q3_g2
     obtain ⟨x5,e5,rfl,_⟩ := DataW.trod_string Tryz.underlying9 q2_q3_g0
     obtain ⟨q2_q3_q1_zs,q2_q3_q1_k,_,rfl,_,q2_q3_q1_hl,q2_q3_q1_hf⟩ := DataW.trod_struct Tryz.underlying23 q2_q3_g1
     match q2_q3_q1_zs,q2_q3_q1_hl with
     | [q2_q3_q1_z0,q2_q3_q1_z1,q2_q3_q1_z2],_ =>
      have q2_q3_q1_g0 : DataW.trod enc Tryz.prog w base spare held q2_q3_q1_k 3 (List.take (Tryz.prog.cellsOf 3) (List.drop 0 [v6,v7,v8])) = some q2_q3_q1_z0 := q2_q3_q1_hf 0 _ rfl
      rw [show Tryz.prog.cellsOf 3 = 1 by kernel_rfl] at q2_q3_q1_g0
      simp only [List.drop,List.take] at q2_q3_q1_g0
      have q2_q3_q1_g1 : DataW.trod enc Tryz.prog w base spare held q2_q3_q1_k 3 (List.take (Tryz.prog.cellsOf 3) (List.drop 1 [v6,v7,v8])) = some q2_q3_q1_z1 := q2_q3_q1_hf 1 _ rfl
      rw [show Tryz.prog.cellsOf 3 = 1 by kernel_rfl] at q2_q3_q1_g1
      simp only [List.drop,List.take] at q2_q3_q1_g1
      have q2_q3_q1_g2 : DataW.trod enc Tryz.prog w base spare held q2_q3_q1_k 3 (List.take (Tryz.prog.cellsOf 3) (List.drop 2 [v6,v7,v8])) = some q2_q3_q1_z2 := q2_q3_q1_hf 2 _ rfl
      rw [show Tryz.prog.cellsOf 3 = 1 by kernel_rfl] at q2_q3_q1_g2
      simp only [List.drop,List.take] at q2_q3_q1_g2
      obtain ⟨x6,e6,rfl,w6⟩ := DataW.trod_int Tryz.underlying3 q2_q3_q1_g0
      obtain ⟨x7,e7,rfl,w7⟩ := DataW.trod_int Tryz.underlying3 q2_q3_q1_g1
      obtain ⟨x8,e8,rfl,w8⟩ := DataW.trod_int Tryz.underlying3 q2_q3_q1_g2
      obtain ⟨x9,e9,rfl,w9⟩ := DataW.trod_int Tryz.underlying3 q2_q3_g2
      obtain ⟨q2_q4_zs,q2_q4_k,_,rfl,_,q2_q4_hl,q2_q4_hf⟩ := DataW.trod_struct Tryz.underlying23 q2_g4
      match q2_q4_zs,q2_q4_hl with
      | [q2_q4_z0,q2_q4_z1,q2_q4_z2],_ =>
       have q2_q4_g0 : DataW.trod enc Tryz.prog w base spare held q2_q4_k 3 (List.take (Tryz.prog.cellsOf 3) (List.drop 0 [v10,v11,v12])) = some q2_q4_z0 := q2_q4_hf 0 _ rfl
       rw [show Tryz.prog.cellsOf 3 = 1 by kernel_rfl] at q2_q4_g0
       simp only [List.drop,List.take] at q2_q4_g0
       have q2_q4_g1 : DataW.trod enc Tryz.prog w base spare held q2_q4_k 3 (List.take (Tryz.prog.cellsOf 3) (List.drop 1 [v10,v11,v12])) = some q2_q4_z1 := q2_q4_hf 1 _ rfl
       rw [show Tryz.prog.cellsOf 3 = 1 by kernel_rfl] at q2_q4_g1
       simp only [List.drop,List.take] at q2_q4_g1
       have q2_q4_g2 : DataW.trod enc Tryz.prog w base spare held q2_q4_k 3 (List.take (Tryz.prog.cellsOf 3) (List.drop 2 [v10,v11,v12])) = some q2_q4_z2 := q2_q4_hf 2 _ rfl
       rw [show Tryz.prog.cellsOf 3 = 1 by kernel_rfl] at q2_q4_g2
       simp only [List.drop,List.take] at q2_q4_g2
       obtain ⟨x10,e10,rfl,w10⟩ := DataW.trod_int Tryz.underlying3 q2_q4_g0
       obtain ⟨x11,e11,rfl,w11⟩ := DataW.trod_int Tryz.underlying3 q2_q4_g1
       obtain ⟨x12,e12,rfl,w12⟩ := DataW.trod_int Tryz.underlying3 q2_q4_g2
       obtain ⟨ao,nn,cap,e13⟩ : ∃ ao nn cap,[v13] = [Value.slice ao nn cap] := by
        rcases Go.Deep.open_slice Tryz.underlying26 q2_g5 with ⟨hcs,_⟩ | ⟨a,len,c,_,_,_,_,hcs,_⟩
        · exact ⟨_,_,_,hcs⟩
        · exact ⟨_,_,_,hcs⟩
       obtain ⟨q2_q6_zs,q2_q6_k,_,rfl,_,q2_q6_hl,q2_q6_hf⟩ := DataW.trod_struct Tryz.underlying28 q2_g6
       match q2_q6_zs,q2_q6_hl with
       | [q2_q6_z0,q2_q6_z1],_ =>
        have q2_q6_g0 : DataW.trod enc Tryz.prog w base spare held q2_q6_k 9 (List.take (Tryz.prog.cellsOf 9) (List.drop 0 [v14,v15])) = some q2_q6_z0 := q2_q6_hf 0 _ rfl
        rw [show Tryz.prog.cellsOf 9 = 1 by kernel_rfl] at q2_q6_g0
        simp only [List.drop,List.take] at q2_q6_g0
        have q2_q6_g1 : DataW.trod enc Tryz.prog w base spare held q2_q6_k 3 (List.take (Tryz.prog.cellsOf 3) (List.drop 1 [v14,v15])) = some q2_q6_z1 := q2_q6_hf 1 _ rfl
        rw [show Tryz.prog.cellsOf 3 = 1 by kernel_rfl] at q2_q6_g1
        simp only [List.drop,List.take] at q2_q6_g1
        obtain ⟨x14,e14,rfl,_⟩ := DataW.trod_string Tryz.underlying9 q2_q6_g0
        obtain ⟨x15,e15,rfl,w15⟩ := DataW.trod_int Tryz.underlying3 q2_q6_g1
        obtain ⟨x16,e16,rfl,w16⟩ := DataW.trod_int Tryz.underlying3 q2_g7
        simp only [List.cons.injEq,and_true] at e0 e1 e2 e3 e4 e5 e6 e7 e8 e9 e10 e11 e12 e13 e14 e15 e16
        subst e0 e1 e2 e3 e4 e5 e6 e7 e8 e9 e10 e11 e12 e13 e14 e15 e16
        exact ⟨⟨x0,x1,x2,x3,x4,x5,x6,x7,x8,x9,x10,x11,x12,⟨ao,nn,cap⟩,x14,x15,x16⟩,q2_z5.1,q2_z5.2,rfl,rfl,⟨q2_k,q2_g5⟩,fit_in w0,fit_in w1,fit_in w2,fit_in w4,fit_in w6,fit_in w7,fit_in w8,fit_in w9,fit_in w10,fit_in w11,fit_in w12,fit_in w15,fit_in w16⟩
theorem weights_ser {H : Type} (r : T) (dl : DataW H) : (txt r.ser).length ∈ (datum H r dl).weights Tryz.prog 32 := by
 unfold datum
 simp [DataW.weights,DataW.weightsEach,Tryz.underlying32,Tryz.underlying30,Tryz.underlying25,Tryz.underlying23,Tryz.underlying28]
theorem weights_cat {H : Type} (r : T) (dl : DataW H) : (txt r.cat).length ∈ (datum H r dl).weights Tryz.prog 32 := by
 unfold datum
 simp [DataW.weights,DataW.weightsEach,Tryz.underlying32,Tryz.underlying30,Tryz.underlying25,Tryz.underlying23,Tryz.underlying28]
theorem weights_ofS {H : Type} (r : T) (dl : DataW H) : (txt r.ofS).length ∈ (datum H r dl).weights Tryz.prog 32 := by
 unfold datum
 simp [DataW.weights,DataW.weightsEach,Tryz.underlying32,Tryz.underlying30,Tryz.underlying25,Tryz.underlying23,Tryz.underlying28]
theorem weights_dl {H : Type} (r : T) (dl : DataW H) (k : Nat) (h : k ∈ dl.weights Tryz.prog 26) : k ∈ (datum H r dl).weights Tryz.prog 32 := by
 unfold datum
 simp [DataW.weights,DataW.weightsEach,Tryz.underlying32,Tryz.underlying30,Tryz.underlying25,Tryz.underlying23,Tryz.underlying28,h]
def Sub (W : World) (r : T) : Prop := ∃ ls,Ln.Ls W r.lines.ao r.lines.n r.lines.cap ls ∧ ∀ x ∈ ls,Ln.Tight x
theorem weights_all {H : Type} {P : Program} {e : TypeId} {d : DataW H} {n : Nat} (hn : n ∈ d.weights P e) : ∀ (l : List (DataW H)),d ∈ l → n ∈ DataW.weightsAll P e l
 | a :: l,h => by
  rw [DataW.weightsAll,List.mem_append]
  rcases List.mem_cons.1 h with rfl | h
  · exact .inl hn
  · exact .inr (weights_all hn l h)
def AtA (w : World) (a : Addr) (r : T) : Prop := ∀ p,p < 17 → w.cell? (a.add p) = (rv r)[p]?
theorem list_in {H : Type} {enc : TypeId × Value → H} {W : World} {ao : Option Addr} {n cap : Nat} {d : DataW H} {p : List MemPlace} {ts : List TypeId} {ds : List (DataW H)} (j : Nat)
  (hj : DataW.Trod enc Tryz.prog W 0 (fun _ => true) true 35 (.slice ao n cap) d p)
  (hsz : (DataW.weightsEach Tryz.prog ts ds).all (· ≤ reachBytes) = true) (ht : ts[j]? = some 35) (hd : ds[j]? = some d) : ∃ rs,Ls W ao n cap rs ∧ ∀ r ∈ rs,Sub W r := by
 haveI : Inhabited T := ⟨zero⟩
 obtain ⟨fuel,hf⟩ := hj
 rcases Go.Deep.open_slice Tryz.underlying35 hf with ⟨hcs,_⟩ | ⟨a,len,c,m,k,D,Pl,hcs,_,hl,hm,hmm,hx,hel⟩
 ·
  simp [Value.cells] at hcs
  obtain ⟨rfl,rfl,rfl⟩ := hcs
  exact ⟨[],ls_nil W,by simp⟩
 ·
  simp [Value.cells] at hcs
  obtain ⟨rfl,rfl,rfl⟩ := hcs
  simp only [if_true] at hmm
  subst hmm
  obtain ⟨R,hR⟩ := Go.Deep.choose_lt (α := T) (n := m) (p := fun i r => AtA W (a.add (i * 17)) r ∧ (∃ (dl : DataW H) (pl : List MemPlace),D i = datum H r dl ∧ DataW.Trod enc Tryz.prog W 0 (fun _ => true) true 26 (.slice r.lines.ao r.lines.n r.lines.cap) dl pl) ∧ Fit r.sess ∧ Fit r.seq ∧ Fit r.kind ∧ Fit r.lim ∧ Fit r.ry ∧ Fit r.rm ∧ Fit r.rd ∧ Fit r.bp ∧ Fit r.y ∧ Fit r.m ∧ Fit r.d ∧ Fit r.ofN ∧ Fit r.csess) (fun i hi => by
   obtain ⟨cs',h1,h2⟩ := hel i hi
   rw [cellsOf] at h1
   obtain ⟨_,_,hcell⟩ := World.cells?_some h1
   obtain ⟨r,dl,pl,e,hx',hl',f⟩ := open_cells h2
   subst e
   exact ⟨r,fun p hp => hcell p hp,⟨dl,pl,hx',hl'⟩,f⟩)
  have hd' := congrArg Prod.fst hx
  simp only at hd'
  rw [hd'] at hd
  have hin : ∀ i,i < n → ∀ dl,D i = datum H (R i) dl → ∀ k,k ∈ (datum H (R i) dl).weights Tryz.prog 32 → decide (k ≤ reachBytes) = true := by
   intro i hi dl hDi k hk
   refine List.all_eq_true.1 hsz k (DataW.weights_mem_each ht hd k ?_)
   rw [DataW.weights,Tryz.underlying35]
   refine List.mem_cons_of_mem _ (List.mem_append.2 (.inl (weights_all hk _ ?_)))
   rw [← hDi]
   exact List.mem_map.2 ⟨i,List.mem_range.2 hi,rfl⟩
  have hall : ∀ r ∈ (List.range n).map R,Short r ∧ Sub W r := by
   intro r hr
   obtain ⟨i,hi,rfl⟩ := List.mem_map.1 hr
   rw [List.mem_range] at hi
   obtain ⟨_,⟨dl,pl,hDi,hL⟩,f_sess,f_seq,f_kind,f_lim,f_ry,f_rm,f_rd,f_bp,f_y,f_m,f_d,f_ofN,f_csess⟩ := hR i (by omega)
   have hs_ser : (R i).ser.size ≤ 140737488355328 := by
    have hw := hin i hi dl hDi _ (weights_ser (R i) dl)
    rw [decide_eq_true_eq,txt_len] at hw
    unfold reachBytes at hw
    omega
   have hs_cat : (R i).cat.size ≤ 140737488355328 := by
    have hw := hin i hi dl hDi _ (weights_cat (R i) dl)
    rw [decide_eq_true_eq,txt_len] at hw
    unfold reachBytes at hw
    omega
   have hs_ofS : (R i).ofS.size ≤ 140737488355328 := by
    have hw := hin i hi dl hDi _ (weights_ofS (R i) dl)
    rw [decide_eq_true_eq,txt_len] at hw
    unfold reachBytes at hw
    omega
   have hz : (DataW.weightsEach Tryz.prog [26] [dl]).all (· ≤ reachBytes) = true := by
    refine List.all_eq_true.2 fun k hk => ?_
    refine hin i hi dl hDi k (weights_dl (R i) dl k ?_)
    simpa [DataW.weightsEach] using hk
   obtain ⟨ls,hls,htg⟩ := Ln.list_tight 0 hL hz rfl rfl
   exact ⟨⟨f_sess,f_seq,f_kind,hs_ser,f_lim,hs_cat,f_ry,f_rm,f_rd,f_bp,f_y,f_m,f_d,hs_ofS,f_ofN,f_csess⟩,⟨ls,hls,htg⟩⟩
  refine ⟨(List.range n).map R,⟨by simp,hl,hm,(fun h => by cases h),?_,fun r hr => (hall r hr).1⟩,fun r hr => (hall r hr).2⟩
  ·
   by_cases h0 : 0 < n
   ·
    obtain ⟨b,off,spot⟩ := a
    have h1 := (hR 0 (by omega)).1 0 (by omega)
    have hspot : spot = none := by
     have h2 : W.cell? ((Addr.mk b off spot).add 0) = some (.int .i64 (R 0).sess) := by
      rw [show (Addr.mk b off spot).add 0 = ((Addr.mk b off spot).add (0 * 17)).add 0 by simp [Addr.add]]
      exact h1
     simpa [Addr.add] using World.cell?_spot h2
    subst hspot
    refine .inr ⟨b,off,rfl,fun k hk => ?_⟩
    simp only [List.length_map,List.length_range] at hk
    have hcell : ∀ p,p < 17 → W.cell? ⟨b,off + k * 17 + p,none⟩ = (rv (R k))[p]? := by
     intro p hp
     rw [← (hR k (by omega)).1 p hp,Go.WideShapes.add_plain,Go.WideShapes.add_plain]
    simp only [List.getElem_map,List.getElem_range]
    exact ⟨hcell 0 (by omega),hcell 1 (by omega),hcell 2 (by omega),hcell 3 (by omega),hcell 4 (by omega),hcell 5 (by omega),hcell 6 (by omega),hcell 7 (by omega),hcell 8 (by omega),hcell 9 (by omega),hcell 10 (by omega),hcell 11 (by omega),hcell 12 (by omega),hcell 13 (by omega),hcell 14 (by omega),hcell 15 (by omega),hcell 16 (by omega)⟩
   · exact .inl (by rw [show n = 0 by omega]; rfl)
end Go.Proofs.YtjpfpojbalepeaaGreat.Ca
