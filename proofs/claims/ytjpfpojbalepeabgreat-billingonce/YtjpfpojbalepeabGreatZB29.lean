import Derived.Deep.RegionHeld3
import Derived.Lib.QuietBelow
import Derived.Deep.RegionLaw
import Derived.Deep.DeepCutAuto
import Derived.Deep.CutBlock
import Derived.Lib.Overlaps
import Derived.Lib.JoinLaws
import Derived.Test.YtjpfpojbalepeabGreatZB21
import Derived.Test.YtjpfpojbalepeabGreatZB22
import Derived.Test.YtjpfpojbalepeabGreatZB23
import Derived.Test.YtjpfpojbalepeabGreatZB25
import Derived.Test.YtjpfpojbalepeabGreatZB26
import Derived.Test.YtjpfpojbalepeabGreatZB27
import Derived.Test.YtjpfpojbalepeabGreatZB28
set_option maxRecDepth 100000
set_option linter.unusedVariables false
namespace Go.Proofs.YtjpfpojbalepeabGreat
open Go.RowKit
open Mem
open Go.Sort (grow)
theorem Po.one_acct {bs ls : List Ba.T} (hS : Po.Sorted bs) : ∀ x ∈ bs ++ Po.news bs ls,∀ y ∈ bs ++ Po.news bs ls,x.acct = y.acct → x = y := by
 intro x hx y hy e
 rcases List.mem_append.1 hx with h | h
 ·
  rcases List.mem_append.1 hy with k | k
  ·
   obtain ⟨p1,_⟩ := Po.look hS h rfl
   obtain ⟨p2,_⟩ := Po.look hS k e.symm
   rw [← p1,← p2]
  ·
   have h1 := (Po.has_iff hS y.acct).2 ⟨x,h,e⟩
   rw [(Po.mem_news.1 k).2.1] at h1
   cases h1
 ·
  rcases List.mem_append.1 hy with k | k
  ·
   have h1 := (Po.has_iff hS x.acct).2 ⟨y,k,e.symm⟩
   rw [(Po.mem_news.1 h).2.1] at h1
   cases h1
  · exact eq_of e (by rw [(Po.mem_news.1 h).1,(Po.mem_news.1 k).1])
theorem Po.opened_rows {bs ls : List Ba.T} {D : Array Ba.T} (hS : Po.Sorted bs) (hp : D.toList.Perm (bs ++ Po.news bs ls)) (hs : ∀ i j,i < j → j < D.size → Po.lt D[j]!.acct D[i]!.acct = false) : Po.Opened bs ls (Lib.compactUpTo D D.size) := by
 have hmem : ∀ i,i < D.size → D[i]! ∈ bs ++ Po.news bs ls := fun i hi => by
  rw [← hp.mem_iff,getElem!_pos D i hi]
  simp
 obtain ⟨h1,h2⟩ := Po.compact_spec D hs (fun i j hi hj e => Po.one_acct hS _ (hmem i hi) _ (hmem j hj) e) D.size (Nat.le_refl _)
 refine Po.opened_of hS h1 fun x => ?_
 rw [h2 x,← hp.mem_iff]
 constructor
 ·
  rintro ⟨i,hi,rfl⟩
  rw [getElem!_pos D i hi]
  simp
 ·
  intro hx
  obtain ⟨i,hi,e⟩ := List.getElem_of_mem hx
  have hi' : i < D.size := by simpa using hi
  exact ⟨i,hi',by rw [getElem!_pos D i hi']; simpa using e⟩
theorem Po.news_short {bs : List Ba.T} : ∀ {ls : List Ba.T},(∀ r ∈ ls,Ba.Short r) → ∀ r ∈ Po.news bs ls,Ba.Short r
 | [],_,r,h => by cases h
 | x :: l,hs,r,h => by
  unfold Po.news at h
  split at h
  · exact Po.news_short (fun y hy => hs y (by simp [hy])) r h
  ·
   rcases List.mem_cons.1 h with rfl | h
   · exact ⟨(hs x (by simp)).1,⟨by show (-9223372036854775808 : Int) ≤ 0; omega,by show (0 : Int) ≤ 9223372036854775807; omega⟩⟩
   · exact Po.news_short (fun y hy => hs y (by simp [hy])) r h
theorem own_cap_len {w : World} {B n cap : Nat} {ao : Option Addr} {M : List Ba.T} (h : Ba.Own w B (.slice ao n cap) M) : n = M.length := (own_reach h).1
set_option maxHeartbeats 8000000 in
theorem post_opened (bs ls : List Ba.T) (ao bo : Option Addr) (n ca k0 cb : Nat) (w : World) (hB : Ba.Ls w ao n ca bs) (hL : Ba.Ls w bo k0 cb ls) (hS : Po.Sorted bs) (hn : n ≤ 1000) (hk0 : k0 ≤ 1000) :
  Calls Tryz.prog 86 #[.slice ao n ca,.slice bo k0 cb] w fun e w' => ∃ (v : Value) (M : List Ba.T),e = .returned v ∧ Ba.Own w' w.heap.size v M ∧ Po.Opened bs ls M ∧ (∀ r ∈ M,Ba.Short r) ∧ M.length ≤ 2000 ∧ Below w.heap.size w w' := by
 have HBs := Lib.hid hB
 have HL := Lib.hid hL
 have HN := Lib.hid hB.len
 have HLn := Lib.hid hL.len
 have HS := Lib.hid hS
 have hca := hB.reach
 have hna := hB.fits
 have hcb := hL.reach
 have hfb := hL.fits
 have hmk := Ba.make n (by omega)
 have hblk0 := Ba.block_made w n
 have hbel0 : Below w.heap.size w (w.alloc (.cells (Ba.zeros n) 77)) := (Below.refl _ _).alloc (Nat.le_refl _) _
 obtain ⟨W1,hcp,hblk,hbel,hsz⟩ := Ba.copy (w.alloc (.cells (Ba.zeros n) 77)) w.heap.size [] n ao n ca bs (by rw [List.append_nil]; exact hblk0) hB.len ((hB.below hbel0).seg)
 rw [List.length_nil,Nat.add_zero] at hcp
 rw [List.append_nil] at hblk
 have HB1 := Lib.hid (hbel _ _ hbel0 (Nat.le_refl _))
 have HO1 : Hid (Ba.Own W1 w.heap.size (.slice (some ⟨w.heap.size,0,none⟩) n n) (bs ++ Po.news bs (ls.take 0))) := Lib.hid (by
  rw [List.take_zero,Po.news,List.append_nil]
  exact Ba.own_of_block hblk (Nat.le_refl _) hB.len (by omega))
 clear hB hL hS hblk0 hbel0 hblk hbel hsz
 go_enter Tryz.func86,Tryz.ntmps86
 go_wp2_with fail
 clear hcp hmk
 go_loopw [5,7,16] (fun t _ i wr => ∃ (k : Nat) (vo : Option Addr) (q vc : Nat),k ≤ k0 ∧ i = .int .i64 k ∧ t = .slice vo q vc ∧ Hid (Below w.heap.size w wr) ∧ Hid (Ba.Own wr w.heap.size (.slice vo q vc) (bs ++ Po.news bs (ls.take k)))) (fun _ _ i _ => k0 - (intOf i).toNat)
 case atStart => exact ⟨0,_,n,n,by omega,rfl,rfl,HB1,HO1⟩
 case round =>
  clear HB1 HO1
  rename World => wz
  obtain ⟨k,vo,q,vc,hk,rfl,rfl,HB,HO⟩ := hrel
  by_cases hlt : k < k0
  ·
   obtain ⟨lb,loff,rfl⟩ := HL.out.at (by omega)
   have hkl : k < ls.length := HLn.out ▸ hlt
   have hrow := (HL.out.row k hkl).below HB.out
   have HSt := Lib.hid (Po.news_step bs ls k hkl)
   have HLe : Hid ((bs ++ Po.news bs (ls.take k)).length ≤ 2000) := Lib.hid (by
    rw [List.length_append]
    have h1 := Po.news_len bs (ls.take k)
    rw [List.length_take] at h1
    have h2 := HN.out
    omega)
   obtain ⟨x,hx⟩ : ∃ x,ls[k] = x := ⟨_,rfl⟩
   rw [hx] at hrow HSt
   clear hx
   obtain ⟨r0,r1⟩ := hrow
   obtain ⟨W,hW,hbW,hA⟩ := Ba.boxed1 wz x
   have HBW := Lib.hid (bchain HB.out hbW)
   have HOW := Lib.hid (Ba.own_below HO.out hbW)
   unfold Ba.C at hA
   obtain ⟨a0,a1⟩ := hA
   clear hbW
   go_wp2_with fail
   refine (post_has bs x.acct ao n ca W (HBs.out.below HBW.out) HS.out).mono ?_
   rintro e w2 ⟨rfl,hw2⟩
   have hw3 := hw2.symm
   clear hw2
   subst hw3
   clear hW
   cases hh : Po.has x.acct bs
   ·
    rw [hh,if_neg (by simp)] at HSt
    have hsz2 : w.heap.size ≤ W.heap.size := HBW.out.size
    clear hh
    go_wp2_with (at_builtin; go_must (refine Ba.wpList_append _ rfl (.tmp 25) (.tmp 29) rfl w.heap.size (.slice vo q vc) (bs ++ Po.news bs (ls.take k)) rfl (Ba.own_alloc HOW.out _) (some ⟨W.heap.size,0,none⟩) 1 1 [⟨x.acct,0⟩] rfl rfl (fun h => by cases h) (Ba.seg_block (heap_alloc_new W _)) (by have := HLe.out; omega) (by simp; omega) ?_))
    intro v1 w3 o1 gr1 _
    have HB3 : Hid (Below w.heap.size w w3) := Lib.hid ((below_box HBW.out _).grown gr1 (by simp; omega) (Ba.own_ge HOW.out))
    try rw [List.append_assoc] at o1
    rw [← HSt.out] at o1
    have HO3 := Lib.hid o1
    obtain ⟨va,q2,vc2,hv1⟩ : ∃ va q2 vc2,v1 = .slice va q2 vc2 := by
     rcases o1.2 with ⟨h',_⟩ | ⟨g',cap',cur,h',_⟩
     · exact ⟨_,_,_,h'⟩
     · exact ⟨_,_,_,h'⟩
    subst hv1
    clear gr1 o1 hsz2
    go_wp2_with fail
    go_roundw
    case rel => exact ⟨k + 1,va,q2,vc2,by omega,by go_num,rfl,HB3,HO3⟩
    case measure => simp [intOf]; omega
   ·
    rw [hh,if_pos rfl,List.append_nil] at HSt
    have HO3 : Hid (Ba.Own W w.heap.size (.slice vo q vc) (bs ++ Po.news bs (ls.take (k + 1)))) := Lib.hid (by rw [HSt.out]; exact HOW.out)
    clear hh
    go_wp2_with fail
    go_roundw
    case rel => exact ⟨k + 1,vo,q,vc,by omega,by go_num,rfl,HBW,HO3⟩
    case measure => simp [intOf]; omega
  ·
   obtain rfl : k = k0 := by omega
   have HO3 : Hid (Ba.Own wz w.heap.size (.slice vo q vc) (bs ++ Po.news bs ls)) := Lib.hid (by have h := HO.out; rw [List.take_of_length_le (Nat.le_of_eq HLn.out.symm)] at h; exact h)
   have HQ := Lib.hid (own_cap_len HO3.out)
   have HLe : Hid ((bs ++ Po.news bs ls).length ≤ 2000) := Lib.hid (by
    rw [List.length_append]
    have h1 := Po.news_len bs ls
    have h2 := HN.out
    have h3 := HLn.out
    omega)
   have HSh : Hid (∀ r ∈ bs ++ Po.news bs ls,Ba.Short r) := Lib.hid (by
    intro r hr
    rcases List.mem_append.1 hr with h | h
    · exact HBs.out.short r h
    · exact Po.news_short HL.out.short r h)
   have hq : q ≤ 2000 := by have h1 := HQ.out; have h2 := HLe.out; omega
   obtain ⟨h0,hh0⟩ : ∃ h0,w.heap.size = h0 := ⟨_,rfl⟩
   have HH0 := Lib.hid hh0
   rw [hh0] at HO3 HB
   rw [hh0]
   clear hh0 HO
   go_wp2_with fail
   refine (rows_sort _ h0 q vc vo w _ HB.out HO3.out HQ.out (by omega)).mono ?_
   rintro e w2 ⟨rfl,D,o2,hp,hD,hs,b2⟩
   have HO4 := Lib.hid o2
   have HB4 := Lib.hid b2
   have HOp := Lib.hid (Po.opened_rows HS.out hp hs)
   have HD : Hid (q = D.size) := Lib.hid (by rw [hD]; exact HQ.out)
   have HMe : Hid (∀ r ∈ Lib.compactUpTo D D.size,Ba.Short r) := Lib.hid (by
    intro r hr
    unfold Lib.compactUpTo at hr
    obtain ⟨i,hi,rfl⟩ := List.mem_map.1 hr
    have hi' : i < D.size := by
     have := (List.mem_filter.1 hi).1
     rwa [List.mem_range] at this
    apply HSh.out
    rw [← hp.mem_iff,getElem!_pos D i hi']
    simp)
   have HLc : Hid ((Lib.compactUpTo D D.size).length ≤ 2000) := Lib.hid (by
    unfold Lib.compactUpTo
    rw [List.length_map]
    have h1 := List.length_filter_le (Lib.keeps D) (List.range D.size)
    rw [List.length_range] at h1
    have := HD.out
    omega)
   clear o2 b2 hp hD hs HB HO3 HSh
   go_wp2_with fail
   refine (rows_compact D h0 q vc vo w _ HB4.out HO4.out HD.out (by omega)).mono ?_
   rintro e w3 ⟨k3,rfl,o3,b3⟩
   have HO5 := Lib.hid o3
   have HB5 := Lib.hid b3
   clear o3 b3 HO4 HB4
   go_wp2_with fail
   go_ret
   exact ⟨_,_,rfl,by rw [HH0.out]; exact HO5.out,HOp.out,HMe.out,HLc.out,by rw [HH0.out]; exact HB5.out⟩
end Go.Proofs.YtjpfpojbalepeabGreat
namespace Go.Proofs.YtjpfpojbalepeabGreat
open Go.RowKit
theorem both_fit {x : Int} (h : Mn.Fit x) : both (Mn.amt x) (Mn.err x) = both x 0 := by rw [Mn.amt_fit h,Mn.err_fit h]
theorem both_not {x : Int} (h : ¬ Mn.Fit x) : both (Mn.amt x) (Mn.err x) = both 0 7 := by rw [Mn.amt_not h,Mn.err_not h]
theorem add_any (a b : Int) (w : World) (ha : Mn.Fit a) (hb : Mn.Fit b) :
  Calls Tryz.prog 88 #[.int .i64 a,.int .i64 b] w fun e w' => e = both (Mn.amt (a + b)) (Mn.err (a + b)) ∧ w' = w := by
 obtain ⟨ha0,ha1⟩ := ha
 obtain ⟨hb0,hb1⟩ := hb
 go_enter Tryz.func88,Tryz.ntmps88
 by_cases hf : Mn.Fit (a + b)
 ·
  rw [both_fit hf]
  obtain ⟨hf0,hf1⟩ := hf
  by_cases h1 : 0 < b
  ·
   have h2 : ¬ 9223372036854775807 - b < a := by omega
   have h3 : ¬ b < 0 := by omega
   go_wp2
   go_ret2
   exact ⟨rfl,rfl⟩
  ·
   by_cases h3 : b < 0
   ·
    have h2 : ¬ a < -9223372036854775808 - b := by omega
    go_wp2
    go_ret2
    exact ⟨rfl,rfl⟩
   ·
    go_wp2
    go_ret2
    exact ⟨rfl,rfl⟩
 ·
  rw [both_not hf]
  by_cases h1 : 0 < b
  ·
   have h2 : 9223372036854775807 - b < a := by unfold Mn.Fit at hf; omega
   clear hf
   go_wp2
   go_ret2
   exact ⟨rfl,rfl⟩
  ·
   have h3 : b < 0 := by unfold Mn.Fit at hf; omega
   have h2 : a < -9223372036854775808 - b := by unfold Mn.Fit at hf; omega
   clear hf
   go_wp2
   go_ret2
   exact ⟨rfl,rfl⟩
theorem sub_any (a b : Int) (w : World) (ha : Mn.Fit a) (hb : Mn.Fit b) :
  Calls Tryz.prog 84 #[.int .i64 a,.int .i64 b] w fun e w' => e = both (Mn.amt (a - b)) (Mn.err (a - b)) ∧ w' = w := by
 obtain ⟨ha0,ha1⟩ := ha
 obtain ⟨hb0,hb1⟩ := hb
 go_enter Tryz.func84,Tryz.ntmps84
 by_cases hf : Mn.Fit (a - b)
 ·
  rw [both_fit hf]
  obtain ⟨hf0,hf1⟩ := hf
  by_cases h1 : 0 < b
  ·
   have h2 : ¬ a < -9223372036854775808 + b := by omega
   have h3 : ¬ b < 0 := by omega
   go_wp2
   go_ret2
   exact ⟨rfl,rfl⟩
  ·
   by_cases h3 : b < 0
   ·
    have h2 : ¬ 9223372036854775807 + b < a := by omega
    go_wp2
    go_ret2
    exact ⟨rfl,rfl⟩
   ·
    go_wp2
    go_ret2
    exact ⟨rfl,rfl⟩
 ·
  rw [both_not hf]
  by_cases h1 : 0 < b
  ·
   have h2 : a < -9223372036854775808 + b := by unfold Mn.Fit at hf; omega
   clear hf
   go_wp2
   go_ret2
   exact ⟨rfl,rfl⟩
  ·
   have h3 : b < 0 := by unfold Mn.Fit at hf; omega
   have h2 : 9223372036854775807 + b < a := by unfold Mn.Fit at hf; omega
   clear hf
   go_wp2
   go_ret2
   exact ⟨rfl,rfl⟩
theorem fits_any (a b : Int) (w : World) (ha : Mn.Fit a) (hb : Mn.Fit b) :
  Calls Tryz.prog 149 #[.int .i64 a,.int .i64 b] w fun e w' => e = .returned (.bool (decide (Mn.Fit (a * b)))) ∧ w' = w := by
 obtain ⟨ha0,ha1⟩ := ha
 obtain ⟨hb0,hb1⟩ := hb
 go_enter Tryz.func149,Tryz.ntmps149
 by_cases ha : a = 0
 ·
  subst ha
  go_wp2
  go_ret
  exact ⟨ret_bool (by rw [Int.zero_mul]; rfl),rfl⟩
 by_cases hb : b = 0
 ·
  subst hb
  go_wp2
  go_ret
  exact ⟨ret_bool (by rw [Int.mul_zero]; rfl),rfl⟩
 have ha' : (a == 0) = false := by simpa using ha
 have hb' : (b == 0) = false := by simpa using hb
 by_cases h1 : 0 < a
 ·
  by_cases h2 : 0 < b
  ·
   have HQ := Lib.hid (Mn.fits_pp a b h1 h2)
   have HM := Lib.hid (Mn.mul_pos h1 h2)
   have hqb := Mn.tdiv_small 9223372036854775807 b (by omega) hb
   by_cases hq : a ≤ (9223372036854775807 : Int).tdiv b
   ·
    go_wp2
    go_ret
    refine ⟨ret_bool (decide_eq_true ?_).symm,rfl⟩
    have hm := HM.out
    have hr := HQ.out.1 hq
    exact ⟨by omega,by omega⟩
   ·
    go_wp2
    go_ret
    refine ⟨ret_bool (decide_eq_false fun hf => ?_).symm,rfl⟩
    have hr := HQ.out.2
    unfold Mn.Fit at hf
    omega
  ·
   have HQ := Lib.hid (Mn.fits_pn a b h1)
   have HM := Lib.hid (Mn.mul_pn h1 (show b < 0 by omega))
   have hqb := Mn.tdiv_pos 9223372036854775808 a (by omega) h1
   by_cases hq : -(9223372036854775808 : Int).tdiv a ≤ b
   ·
    go_wp2
    go_ret
    refine ⟨ret_bool (decide_eq_true ?_).symm,rfl⟩
    have hm := HM.out
    have hr := HQ.out.1 hq
    exact ⟨by omega,by omega⟩
   ·
    go_wp2
    go_ret
    refine ⟨ret_bool (decide_eq_false fun hf => ?_).symm,rfl⟩
    have hr := HQ.out.2
    unfold Mn.Fit at hf
    omega
 ·
  by_cases h2 : 0 < b
  ·
   have HQ := Lib.hid (Mn.fits_np a b h2)
   have HM := Lib.hid (Mn.mul_np (show a < 0 by omega) h2)
   have hqb := Mn.tdiv_pos 9223372036854775808 b (by omega) h2
   by_cases hq : -(9223372036854775808 : Int).tdiv b ≤ a
   ·
    go_wp2
    go_ret
    refine ⟨ret_bool (decide_eq_true ?_).symm,rfl⟩
    have hm := HM.out
    have hr := HQ.out.1 hq
    exact ⟨by omega,by omega⟩
   ·
    go_wp2
    go_ret
    refine ⟨ret_bool (decide_eq_false fun hf => ?_).symm,rfl⟩
    have hr := HQ.out.2
    unfold Mn.Fit at hf
    omega
  ·
   have HQ := Lib.hid (Mn.fits_nn a b (show b < 0 by omega))
   have HM := Lib.hid (Mn.mul_nn (show a < 0 by omega) (show b < 0 by omega))
   have hqb := Mn.tdiv_small 9223372036854775807 b (by omega) hb
   by_cases hq : (9223372036854775807 : Int).tdiv b ≤ a
   ·
    go_wp2
    go_ret
    refine ⟨ret_bool (decide_eq_true ?_).symm,rfl⟩
    have hm := HM.out
    have hr := HQ.out.1 hq
    exact ⟨by omega,by omega⟩
   ·
    go_wp2
    go_ret
    refine ⟨ret_bool (decide_eq_false fun hf => ?_).symm,rfl⟩
    have hr := HQ.out.2
    unfold Mn.Fit at hf
    omega
theorem mul_any (a b : Int) (w : World) (ha : Mn.Fit a) (hb : Mn.Fit b) :
  Calls Tryz.prog 135 #[.int .i64 a,.int .i64 b] w fun e w' => e = both (Mn.amt (a * b)) (Mn.err (a * b)) ∧ w' = w := by
 by_cases hf : Mn.Fit (a * b)
 ·
  rw [both_fit hf]
  go_enter Tryz.func135,Tryz.ntmps135
  go_wp2_with fail
  refine (fits_any a b _ ha hb).mono ?_
  rintro e _ ⟨rfl,rfl⟩
  rw [decide_eq_true hf]
  obtain ⟨hf0,hf1⟩ := hf
  clear ha hb
  go_wp2
  go_ret2
  exact ⟨rfl,rfl⟩
 ·
  rw [both_not hf]
  go_enter Tryz.func135,Tryz.ntmps135
  go_wp2_with fail
  refine (fits_any a b _ ha hb).mono ?_
  rintro e _ ⟨rfl,rfl⟩
  rw [decide_eq_false hf]
  clear hf ha hb
  go_wp2
  go_ret2
  exact ⟨rfl,rfl⟩
end Go.Proofs.YtjpfpojbalepeabGreat
namespace Go.Proofs.YtjpfpojbalepeabGreat
open Go.RowKit
open Mem
open Go.Sort (grow)
def EnterE (w : World) (b l : List Ba.T) (e : Ending) (w' : World) : Prop := ∃ v,e = .returned (.tuple #[v,.int .i64 (Po.entE b l)]) ∧ Ba.Own w' w.heap.size v (Po.entL b l) ∧ Below w.heap.size w w'
structure ESt (w wr : World) (vo : Option Addr) (q vc : Nat) (M : List Ba.T) : Prop where
 bel : Below w.heap.size w wr
 own : Ba.Own wr w.heap.size (.slice vo q vc) M
 sh : ∀ r ∈ M,Ba.Short r
section
variable {w wr v : World} {vo : Option Addr} {q vc : Nat} {M : List Ba.T}
theorem ESt.below (h : ESt w wr vo q vc M) (b : Below wr.heap.size wr v) : ESt w v vo q vc M := ⟨bchain h.bel b,Ba.own_below h.own b,h.sh⟩
theorem ESt.len (h : ESt w wr vo q vc M) : q = M.length ∧ q ≤ vc ∧ vc ≤ 9223372036854775807 ∧ Ba.Ls wr vo q vc M := by
 obtain ⟨ao,cap,e,hL,_⟩ := Ba.own_ls h.own h.sh
 simp only [Value.slice.injEq] at e
 obtain ⟨e1,e2,e3⟩ := e
 subst e1 e3
 rw [← e2] at hL
 exact ⟨e2,hL.fits,hL.reach,hL⟩
theorem ESt.at (h : ESt w wr vo q vc M) (k : Nat) (hk : k < M.length) : ∃ b,vo = some ⟨b,0,none⟩ ∧ w.heap.size ≤ b ∧ Ba.At wr b (k * 2) M[k] ∧ (∀ o,wr.frozen? ⟨b,o,none⟩ = false) := by
 obtain ⟨ao,cap,e,hL,hg⟩ := Ba.own_ls h.own h.sh
 simp only [Value.slice.injEq] at e
 obtain ⟨e1,e2,e3⟩ := e
 subst e1 e3
 obtain ⟨b,off,hb⟩ := hL.at (by omega)
 obtain ⟨b',hb',hB⟩ := hg _ hb
 rw [hb'] at hb
 subst hb
 obtain ⟨h1,h2,h3⟩ := Ba.own_at h.own k hk
 exact ⟨b',rfl,hB,h1,h2⟩
theorem ESt.put (h : ESt w wr vo q vc M) {b : Nat} (hv : vo = some ⟨b,0,none⟩) (hb : w.heap.size ≤ b) (k p : Nat) (hk : k < M.length) (hp : p < 2) (x : Value) (r : Ba.T) (hr : Ba.rv r = (Ba.rv M[k]).set p x) (hs : Ba.Short r) : ESt w (wr.setCell ⟨b,k * 2 + p,none⟩ x) vo q vc (M.set k r) := by
 subst hv
 refine ⟨bset h.bel hb _ _,Ba.own_put h.own k p hk hp x r hr,?_⟩
 intro a ha
 rcases List.mem_or_eq_of_mem_set ha with ha | rfl
 · exact h.sh a ha
 · exact hs
end
theorem Iv_err_0 {x : Int} (h : Mn.err x = 0) : Mn.Fit x := by
 unfold Mn.err at h
 split at h
 · assumption
 · omega
theorem Po.part_short {c : ByteArray} (hc : c.size ≤ 140737488355328) : ∀ {M : List Ba.T},(∀ r ∈ M,Ba.Short r) → Ba.Short (Po.part c M)
 | [],_ => ⟨hc,⟨by show (-9223372036854775808 : Int) ≤ 0; omega,by show (0 : Int) ≤ _; omega⟩⟩
 | a :: l,hs => by
  unfold Po.part
  split
  · exact Po.part_short hc fun x hx => hs x (by simp [hx])
  ·
   split
   · exact hs a (by simp)
   · exact ⟨hc,⟨by show (-9223372036854775808 : Int) ≤ 0; omega,by show (0 : Int) ≤ _; omega⟩⟩
theorem Po.ins_short {c : ByteArray} (hc : c.size ≤ 140737488355328) : ∀ {M : List Ba.T},(∀ r ∈ M,Ba.Short r) → ∀ r ∈ Po.ins c M,Ba.Short r
 | [],_,r,hr => by
  obtain rfl := List.mem_singleton.1 hr
  exact ⟨hc,⟨by show (-9223372036854775808 : Int) ≤ 0; omega,by show (0 : Int) ≤ _; omega⟩⟩
 | a :: l,hs,r,hr => by
  unfold Po.ins at hr
  split at hr
  ·
   rcases List.mem_cons.1 hr with rfl | hr
   · exact hs _ (by simp)
   · exact Po.ins_short hc (fun x hx => hs x (by simp [hx])) r hr
  ·
   split at hr
   · exact hs r hr
   ·
    rcases List.mem_cons.1 hr with rfl | hr
    · exact ⟨hc,⟨by show (-9223372036854775808 : Int) ≤ 0; omega,by show (0 : Int) ≤ _; omega⟩⟩
    · exact hs r hr
end Go.Proofs.YtjpfpojbalepeabGreat
namespace Go.Proofs.YtjpfpojbalepeabGreat
open Go.RowKit
open Mem
open Go.Sort (grow)
theorem Po.enter_set {c : ByteArray} {n : Int} {M : List Ba.T} (h : Po.has c M = true) : ∃ hs : Po.spot c M < M.length,M[Po.spot c M] = Po.part c M ∧ Po.enter c n M = M.set (Po.spot c M) (Po.more (Po.part c M) n) := by
 have h1 := Po.ins_at (c := c) M
 have h2 := Po.ins_lt (c := c) M
 rw [Po.ins_has h] at h1 h2
 refine ⟨h2,?_,by unfold Po.enter; rw [Po.ins_has h]⟩
 rw [List.getElem?_eq_getElem h2] at h1
 exact Option.some.inj h1
structure Way (bs ls M b : List Ba.T) (k : Nat) : Prop where
 sorted : Po.Sorted M
 has : ∀ c,Po.has c M = (Po.has c bs || Po.named c ls)
 val : ∀ c,Po.val c M = Po.val c b
 right : Po.Sorted b
 goE : Po.goE (ls.drop k) b = Po.goE ls bs
 goL : Po.goL (ls.drop k) b = Po.goL ls bs
theorem Way.start {bs ls M : List Ba.T} (h : Po.Opened bs ls M) (hS : Po.Sorted bs) : Way bs ls M bs 0 := ⟨h.sorted,h.has,h.val,hS,rfl,rfl⟩
theorem named_at {ls : List Ba.T} {k : Nat} (hk : k < ls.length) : Po.named ls[k].acct ls = true := List.any_eq_true.2 ⟨_,List.getElem_mem hk,decide_eq_true rfl⟩
theorem Way.there {bs ls M b : List Ba.T} {k : Nat} (h : Way bs ls M b k) (hk : k < ls.length) : Po.has ls[k].acct M = true := by
 rw [h.has,named_at hk,Bool.or_true]
theorem Way.err {bs ls M b : List Ba.T} {k : Nat} (h : Way bs ls M b k) (hk : k < ls.length) : Mn.err ((Po.part ls[k].acct M).amt + ls[k].amt) = Po.enterE ls[k].acct ls[k].amt b := by
 have := h.val ls[k].acct
 unfold Po.val at this
 unfold Po.enterE
 rw [this]
theorem Way.step {bs ls M b : List Ba.T} {k : Nat} (h : Way bs ls M b k) (hk : k < ls.length) (he : Po.enterE ls[k].acct ls[k].amt b = 0) : Way bs ls (Po.enter ls[k].acct ls[k].amt M) (Po.enter ls[k].acct ls[k].amt b) (k + 1) := by
 refine ⟨Po.enter_sorted h.sorted,fun c => ?_,fun c => ?_,Po.enter_sorted h.right,?_,?_⟩
 ·
  have h1 := Po.val_enter c ls[k].acct ls[k].amt M
  rw [h1.2,h.has]
  by_cases e : ls[k].acct = c
  ·
   rw [← e,named_at hk]
   simp
  · rw [decide_eq_false e,Bool.or_false]
 ·
  have h1 := Po.val_enter c ls[k].acct ls[k].amt M
  have h2 := Po.val_enter c ls[k].acct ls[k].amt b
  rw [h1.1,h2.1,h.val]
 ·
  have := Po.goE_at ls b k hk
  rw [he,if_neg (by simp)] at this
  rw [← this]
  exact h.goE
 ·
  rw [← Po.goL_at ls b k hk]
  exact h.goL
theorem Way.done {bs ls M b : List Ba.T} {k : Nat} (h : Way bs ls M b k) (hk : k = ls.length) : M = Po.goL ls bs ∧ Po.goE ls bs = 0 := by
 have h1 := h.goL
 have h2 := h.goE
 rw [List.drop_eq_nil_of_le (Nat.le_of_eq hk.symm)] at h1 h2
 have e1 : b = Po.goL ls bs := h1
 refine ⟨?_,h2.symm⟩
 rw [← e1]
 refine Po.ext_val h.sorted h.right fun c => ⟨?_,h.val c⟩
 rw [h.has,e1,(Po.val_goL c ls bs).2]
theorem Way.stop {bs ls M b : List Ba.T} {k : Nat} (h : Way bs ls M b k) (hk : k < ls.length) (he : Po.enterE ls[k].acct ls[k].amt b = 7) : Po.goE ls bs = 7 := by
 rw [← h.goE,Po.goE_at ls b k hk,he]
 rfl
set_option maxHeartbeats 8000000 in
theorem post_enter (bs ls : List Ba.T) (ao bo : Option Addr) (n ca k0 cb : Nat) (w : World) (hB : Ba.Ls w ao n ca bs) (hL : Ba.Ls w bo k0 cb ls) (hn : n ≤ 1000) (hk0 : k0 ≤ 1000) :
  Calls Tryz.prog 58 #[.slice ao n ca,.slice bo k0 cb] w (EnterE w bs ls) := by
 have HBs := Lib.hid hB
 have HL := Lib.hid hL
 have HN := Lib.hid hB.len
 have HLn := Lib.hid hL.len
 have hca := hB.reach
 have hna := hB.fits
 have hcb := hL.reach
 have hfb := hL.fits
 clear hB hL
 go_enter Tryz.func58,Tryz.ntmps58
 go_wp2_with fail
 refine (post_right bs ao n ca w _ (Below.refl _ _) HBs.out).mono ?_
 rintro e w1 ⟨rfl,b1⟩
 have HB1 := Lib.hid b1
 clear b1
 cases hT : Po.rightB bs
 ·
  have HP := Lib.hid (Po.ent_arg (l := ls) hT)
  clear hT
  go_wp2_with fail
  go_ret2
  exact ⟨_,by rw [HP.out.1]; rfl,by rw [HP.out.2]; exact Ba.own_nil _ _,HB1.out⟩
 ·
  have HT := Lib.hid (Po.ent_go (l := ls) hT)
  have HS := Lib.hid ((Po.right_iff bs).1 hT)
  clear hT
  go_wp2_with fail
  refine (post_opened bs ls ao bo n ca k0 cb w1 (HBs.out.below HB1.out) (HL.out.below HB1.out) HS.out hn hk0).mono ?_
  rintro e w2 ⟨v,M0,rfl,o2,hop,hsh,hlen,b2⟩
  have HW0 := Lib.hid (Way.start hop HS.out)
  obtain ⟨va,vc0,hv1,hV,_⟩ := Ba.own_ls o2 hsh
  subst hv1
  have HE0 : Hid (ESt w w2 va M0.length vc0 M0) := Lib.hid ⟨bchain HB1.out b2,Ba.own_mono o2 HB1.out.size,hsh⟩
  have HLe := Lib.hid hlen
  clear o2 hop hsh hV b2 hlen HB1
  obtain ⟨q0,hq0⟩ : ∃ q0,M0.length = q0 := ⟨_,rfl⟩
  rw [hq0] at HE0 HLe
  rw [hq0]
  clear hq0
  go_wp2_with fail
  go_loopw [8,9,10,11,20] (fun _ _ _ _ i wr => ∃ (k : Nat) (M b : List Ba.T),k ≤ k0 ∧ i = .int .i64 k ∧ Hid (ESt w wr va q0 vc0 M) ∧ Hid (Way bs ls M b k)) (fun _ _ _ _ i _ => k0 - (intOf i).toNat)
  case atStart => exact ⟨0,M0,bs,by omega,rfl,HE0,HW0⟩
  case round =>
   clear HE0 HW0
   rename World => wz
   obtain ⟨k,M,b,hk,rfl,H,HG⟩ := hrel
   by_cases hlt : k < k0
   ·
    obtain ⟨lb,loff,rfl⟩ := HL.out.at (by omega)
    have hkl : k < ls.length := HLn.out ▸ hlt
    have hrow := (HL.out.row k hkl).below H.out.bel
    have HSh := Lib.hid (HL.out.short _ (List.getElem_mem hkl))
    have HTh := Lib.hid (HG.out.there hkl)
    have HEr := Lib.hid (HG.out.err hkl)
    have HStep : Hid (Po.enterE ls[k].acct ls[k].amt b = 0 → Way bs ls (Po.enter ls[k].acct ls[k].amt M) (Po.enter ls[k].acct ls[k].amt b) (k + 1)) := Lib.hid (HG.out.step hkl)
    have HStop : Hid (Po.enterE ls[k].acct ls[k].amt b = 7 → Po.goE ls bs = 7) := Lib.hid (HG.out.stop hkl)
    obtain ⟨x,hx⟩ : ∃ x,ls[k] = x := ⟨_,rfl⟩
    rw [hx] at hrow HSh HTh HEr HStep HStop
    clear hx
    obtain ⟨hsl,hps,hent⟩ := Po.enter_set (n := x.amt) HTh.out
    obtain ⟨r0,r1⟩ := hrow
    obtain ⟨W,hW,hbW,hA⟩ := Ba.boxed1 wz x
    have H1 := Lib.hid (H.out.below hbW)
    unfold Ba.C at hA
    obtain ⟨a0,a1⟩ := hA
    clear hbW H
    obtain ⟨hq1,hq2,hq3,hLs⟩ := H1.out.len
    obtain ⟨g,hvb,hgb,hAt,hfz⟩ := H1.out.at (Po.spot x.acct M) hsl
    rw [hps] at hAt
    subst hvb
    have HPl := Lib.hid (post_place M x.acct _ q0 vc0 W hLs HG.out.sorted)
    have HSl := Lib.hid hsl
    have HPs : Hid (M[Po.spot x.acct M]? = some (Po.part x.acct M)) := Lib.hid (by rw [List.getElem?_eq_getElem hsl,hps])
    have HEn := Lib.hid hent
    have hsq : Po.spot x.acct M < q0 := hq1 ▸ hsl
    obtain ⟨s,hs⟩ : ∃ s,Po.spot x.acct M = s := ⟨_,rfl⟩
    have HPh := Lib.hid (H1.out.sh _ (List.getElem_mem hsl))
    rw [hps] at HPh
    obtain ⟨p,hp⟩ : ∃ p,Po.part x.acct M = p := ⟨_,rfl⟩
    rw [hp] at HPh hAt HEr HEn HPs
    rw [hs] at HPl hAt HEn hsq HSl HPs
    clear hps hent hsl hLs hq1 hs hp
    obtain ⟨d0,d1⟩ := hAt
    have f1 := hfz (s * 2 + 1)
    have k1 := cell_regrown d1
    have l1 := cell_regrown a1
    obtain ⟨E,hE⟩ : ∃ E,Mn.err (p.amt + x.amt) = E := ⟨_,rfl⟩
    obtain ⟨X,hX⟩ : ∃ X,Mn.amt (p.amt + x.amt) = X := ⟨_,rfl⟩
    have c1 : ∀ i os,Calls Tryz.prog 88 #[.int .i64 p.amt,.int .i64 x.amt] (grow (redrawn W i) os) fun e w'' => e = .returned (.tuple #[.int .i64 X,.int .i64 E]) ∧ ∃ q : Regrown,w'' = grow (redrawn W q.d) q.os := fun i os => Calls.regrown_of ((add_any p.amt x.amt _ HPh.out.2 HSh.out.2).mono fun e w'' ⟨h1,h2⟩ => ⟨by rw [h1,hE,hX]; rfl,h2 ▸ Below.refl _ _⟩)
    have HEx := Lib.hid (And.intro hE hX)
    clear hE hX hfz
    go_wp2_with fail
    refine HPl.out.mono ?_
    rintro e w3 ⟨rfl,hw3⟩
    have hw4 := hw3.symm
    clear hw3
    subst hw4
    clear hW HPl
    go_wp2_with fail
    refine wp_region_quiet_below (by kernel_rfl) (by kernel_rfl) ?_
    repeat (first | go_big_quiet_step (first | (go_at_call 88; exact c1 _ _)) | quiet_step (first | (go_at_call 88; exact c1 _ _)))
    refine wpQuiet_nil ?_
    intro _ hw'
    obtain ⟨⟨dq,osq⟩,hw''⟩ := hw'
    subst hw''
    have H7 := Lib.hid (H1.out.below (below_regrown W dq osq))
    clear k1 l1 c1 d0 d1 a0 a1 r0 r1 f1 H1
    generalize grow (redrawn W dq) osq = wx at *
    rcases Mn.err_two (p.amt + x.amt) with e1 | e1
    ·
     have hE0 : E = 0 := HEx.out.1.symm.trans e1
     have hX0 : X = p.amt + x.amt := HEx.out.2.symm.trans (Mn.amt_fit (Iv_err_0 e1))
     subst hE0 hX0
     have HE0 := Lib.hid (HStep.out (HEr.out.symm.trans e1))
     have HFx := Lib.hid (Iv_err_0 e1)
     obtain ⟨b2,hb2,_,hAt,hfz⟩ := H7.out.at s HSl.out
     cases hb2
     have hps2 : M[s]'HSl.out = p := by
      have h := HPs.out
      rw [List.getElem?_eq_getElem HSl.out] at h
      exact Option.some.inj h
     have HPut : Hid (ESt w (wx.setCell ⟨g,s * 2 + 1,none⟩ (.int .i64 (p.amt + x.amt))) (some ⟨g,0,none⟩) q0 vc0 (Po.enter x.acct x.amt M)) := Lib.hid (by
      have h := H7.out.put rfl hgb s 1 HSl.out (by omega) (.int .i64 (p.amt + x.amt)) ⟨p.acct,p.amt + x.amt⟩ (by rw [hps2]; rfl) ⟨HPh.out.1,HFx.out⟩
      rw [HEn.out]
      exact h)
     rw [hps2] at hAt
     obtain ⟨r0,r1⟩ := hAt
     have f1 := hfz (s * 2 + 1)
     clear e1 hfz hps2
     go_wp2_with fail
     go_roundw
     case rel => exact ⟨k + 1,Po.enter x.acct x.amt M,Po.enter x.acct x.amt b,by omega,by go_num,HPut,HE0⟩
     case measure => simp [intOf]; omega
    ·
     have hE0 : E = 7 := HEx.out.1.symm.trans e1
     subst hE0
     have HE7 := Lib.hid (HStop.out (HEr.out.symm.trans e1))
     have HP : Hid (Po.entE bs ls = 7 ∧ Po.entL bs ls = []) := Lib.hid (by
      have h : Po.entE bs ls = 7 := by rw [HT.out,HE7.out]
      exact ⟨h,by unfold Po.entL; rw [h]; rfl⟩)
     have HBf := Lib.hid H7.out.bel
     clear e1
     go_wp2_with fail
     go_ret2
     exact ⟨_,by rw [HP.out.1]; rfl,by rw [HP.out.2]; exact Ba.own_nil _ _,HBf.out⟩
   ·
    obtain rfl : k = k0 := by omega
    have HD := Lib.hid (HG.out.done HLn.out)
    have HP : Hid (Po.entE bs ls = 0 ∧ Po.entL bs ls = M) := Lib.hid (by
     have h : Po.entE bs ls = 0 := by rw [HT.out,HD.out.2]
     exact ⟨h,by unfold Po.entL; rw [h,HD.out.1]; rfl⟩)
    have HO := Lib.hid H.out.own
    have HBf := Lib.hid H.out.bel
    go_wp2_with fail
    go_ret2
    exact ⟨_,by rw [HP.out.1]; rfl,by rw [HP.out.2]; exact HO.out,HBf.out⟩
end Go.Proofs.YtjpfpojbalepeabGreat
namespace Go.Proofs.YtjpfpojbalepeabGreat
open Go.RowKit
open Mem
theorem text_add (a b : ByteArray) (h : a.size + b.size ≤ 9223372036854775807) : ∀ u,(Op.stringOp .add a b).run Tryz.prog u = .ok (.string (a ++ b)) u := fun u => run_string_add_sum u a b h
def EntrE (w : World) (g : Int) (ps : List Pt.T) (e : Ending) (w' : World) : Prop := ∃ v,e = .returned (.tuple #[v,.int .i64 (Po.entrE ps)]) ∧ Ba.Own w' w.heap.size v (Po.entrR g ps) ∧ Below w.heap.size w w'
theorem Iv_err_z {x : Int} (h : Mn.err x = 0) : Mn.Fit x := by
 unfold Mn.err at h
 split at h
 · assumption
 · omega
theorem entr_len (g : Int) (ps : List Pt.T) : (Po.entrL g ps).length = 1 + 2 * ps.length := by
 unfold Po.entrL
 rw [List.length_cons]
 have : (ps.flatMap Po.rowsOf).length = 2 * ps.length := by
  induction ps with
  | nil => rfl
  | cons p l ih =>
   rw [List.flatMap_cons,List.length_append,ih,List.length_cons]
   show 2 + _ = _
   omega
 omega
theorem entr_short {g : Int} {ps : List Pt.T} (hg : Fit g) (hs : ∀ x ∈ ps,Pt.Short x) (hc : ∀ x ∈ ps,x.cat.size ≤ 140737488351232) (hb : ∀ x ∈ ps,Po.badE x = false) : ∀ r ∈ Po.entrL g ps,Ba.Short r := by
 intro r hr
 unfold Po.entrL at hr
 rcases List.mem_cons.1 hr with rfl | hr
 · exact ⟨(by decide : Po.owedA.size ≤ 140737488355328),hg⟩
 ·
  obtain ⟨p,hp,hr⟩ := List.mem_flatMap.1 hr
  have h1 := hc p hp
  have h2 := hb p hp
  unfold Po.badE at h2
  rw [decide_eq_false_iff_not] at h2
  have e1 : Mn.err (-p.net) = 0 := Decidable.byContradiction fun q => h2 (.inl q)
  have e2 : Mn.err (-p.tax) = 0 := Decidable.byContradiction fun q => h2 (.inr q)
  unfold Po.rowsOf at hr
  simp only [List.mem_cons,List.not_mem_nil,or_false] at hr
  rcases hr with rfl | rfl
  · exact ⟨by show (Po.netA ++ p.cat).size ≤ _; rw [ByteArray.size_append]; have : Po.netA.size = 4 := rfl; omega,Iv_err_z e1⟩
  · exact ⟨by show (Po.taxA ++ p.cat).size ≤ _; rw [ByteArray.size_append]; have : Po.taxA.size = 4 := rfl; omega,Iv_err_z e2⟩
end Go.Proofs.YtjpfpojbalepeabGreat
namespace Go.Proofs.YtjpfpojbalepeabGreat
open Go.RowKit
open Mem
theorem subZ (x : Int) (w : World) (hx : Fit x) : Calls Tryz.prog 84 #[.int .i64 0,.int .i64 x] w fun e w' => e = both (Mn.amt (-x)) (Mn.err (-x)) ∧ w' = w := by
 have h := sub_any 0 x w (by decide) hx
 rw [Int.zero_sub] at h
 exact h
theorem make_two (p : Nat) (hp : p ≤ 1000) (u : World) : (Instr.makeSlice 37 (.int .i64 0) (.int .i64 (1 + 2 * (p : Int)))).run Tryz.prog u =
  .ok (.slice (some ⟨u.heap.size,0,none⟩) 0 (1 + 2 * p)) (u.alloc (.cells (Ba.zeros (1 + 2 * p)) 77)) := by
 obtain ⟨i0,hi,hz0,hz1,hz2⟩ := info_parts Ba.info
 have h := run_make (P := Tryz.prog) u 37 77 i0 Ba.zeroV Tryz.underlying37 hi hz0 .i64 .i64 0 (1 + 2 * (p : Int)) (by omega) (by omega) (by rw [hz2]; omega) (by omega)
 rw [hz1,show (1 + 2 * (p : Int)).toNat = 1 + 2 * p from by omega,Ba.made] at h
 exact h
theorem own_two (u : World) (p : Nat) (hp : p ≤ 1000) : Ba.Own (u.alloc (.cells (Ba.zeros (1 + 2 * p)) 77)) u.heap.size (.slice (some ⟨u.heap.size,0,none⟩) 0 (1 + 2 * p)) [] :=
 ⟨rfl,.inr ⟨u.heap.size,1 + 2 * p,Ba.zeros (1 + 2 * p),rfl,Nat.le_refl _,heap_alloc_new u _,Nat.zero_le _,by have : maxLen = 9223372036854775807 := rfl; omega,by unfold Ba.zeros; rw [List.size_toArray,Ba.flat_len,List.length_replicate],rfl⟩⟩
theorem index_0 (a b c d : Value) (u : World) : (Instr.index 144 (.agg #[a,b,c,d]) (.int .i64 0)).run Tryz.prog u = .ok (.agg #[a,b]) u := by kernel_rfl
theorem index_1 (a b c d : Value) (u : World) : (Instr.index 144 (.agg #[a,b,c,d]) (.int .i64 1)).run Tryz.prog u = .ok (.agg #[c,d]) u := by kernel_rfl
theorem rows_take (G : Int) (ps : List Pt.T) (r : Pt.T) (k j : Nat) : (Po.entrL G (ps.take k) ++ (Po.rowsOf r).take j).length ≤ 1 + 2 * k + 2 := by
 rw [List.length_append,entr_len,List.length_take,List.length_take]
 have : (Po.rowsOf r).length = 2 := rfl
 omega
theorem own_slice {w : World} {B : Nat} {v : Value} {M : List Ba.T} (h : Ba.Own w B v M) : ∃ ao n cap,v = .slice ao n cap := by
 rcases h.2 with ⟨h',_⟩ | ⟨g',cap',cur,h',_⟩
 · exact ⟨_,_,_,h'⟩
 · exact ⟨_,_,_,h'⟩
set_option maxHeartbeats 8000000 in
theorem post_entries (N X G : Int) (ps : List Pt.T) (ao : Option Addr) (p cap : Nat) (w : World) (hL : Pt.Ls w ao p cap ps) (hG : Fit G) (hp : p ≤ 1000) (hc : ∀ x ∈ ps,x.cat.size ≤ 140737488351232) :
  Calls Tryz.prog 57 #[Tt.val N X G (.slice ao p cap)] w (EntrE w G ps) := by
 have HL := Lib.hid hL
 have HLn := Lib.hid hL.len
 have HCa := Lib.hid hc
 have hcap := hL.reach
 have hfit := hL.fits
 obtain ⟨U,hU⟩ : ∃ U,w.alloc (.cells #[.int .i64 N,.int .i64 X,.int .i64 G,.slice ao p cap] 57) = U := ⟨_,rfl⟩
 have hbU : Below w.heap.size w U := hU ▸ (Below.refl _ _).alloc (Nat.le_refl _) _
 have hAU : Tt.At U w.heap.size N X G (.slice ao p cap) := hU ▸ Tt.at_box w N X G (.slice ao p cap)
 have HBU := Lib.hid hbU
 obtain ⟨V,hV⟩ : ∃ V,U.alloc (.cells (Ba.zeros (1 + 2 * p)) 77) = V := ⟨_,rfl⟩
 have hbV : Below U.heap.size U V := hV ▸ (Below.refl _ _).alloc (Nat.le_refl _) _
 have HBV := Lib.hid hbV
 have HOV : Hid (Ba.Own V U.heap.size (.slice (some ⟨U.heap.size,0,none⟩) 0 (1 + 2 * p)) []) := Lib.hid (hV ▸ own_two U p hp)
 have HAU := Lib.hid hAU
 obtain ⟨u0,u1,u2,u3⟩ := hAU.cells
 obtain ⟨c0,c1,c2,c3⟩ := (hAU.below hbV).cells
 have hmk := make_two p hp
 have HLU := Lib.hid (hL.below hbU)
 have hUV : U.heap.size ≤ V.heap.size := hbV.size
 clear hL hc hG hbU hAU hbV u0 u1 c0 c1
 unfold Tt.val
 go_enter Tryz.func57,Tryz.ntmps57
 go_wp2_with (at_builtin; go_must (refine Ba.wpList_append _ rfl (.tmp 17) (.tmp 21) rfl U.heap.size (.slice (some ⟨U.heap.size,0,none⟩) 0 (1 + 2 * p)) [] rfl (Ba.own_alloc HOV.out _) (some ⟨V.heap.size,0,none⟩) 1 1 [⟨Po.owedA,G⟩] rfl rfl (fun h => by cases h) (Ba.seg_block (heap_alloc_new V _)) (by simp) (by simp; omega) ?_))
 intro v1 w2 o1 gr1 _
 have HB0 : Hid (Below U.heap.size U w2) := Lib.hid ((below_box HBV.out _).grown gr1 (by simp; omega) (Ba.own_ge HOV.out))
 obtain ⟨va,q1,vc1,hv1⟩ := own_slice o1
 subst hv1
 have HO0 : Hid (Ba.Own w2 U.heap.size (.slice va q1 vc1) (Po.entrL G (ps.take 0))) := Lib.hid o1
 have c3' := (HAU.out.below HB0.out).cells.2.2.2
 clear gr1 o1 hU hV hmk u2 u3 c2 c3 hUV HBV HOV
 obtain ⟨h,hh⟩ : ∃ h,w.heap.size = h := ⟨_,rfl⟩
 rw [hh] at c3' HAU
 rw [hh]
 have HHw := Lib.hid hh
 clear hh
 go_wp2_with fail
 clear c3'
 go_loopw [4,6,8,9,10,26] (fun t _ _ _ _ i wr => ∃ (k : Nat) (vo : Option Addr) (q vc : Nat),k ≤ p ∧ i = .int .i64 k ∧ t = .slice vo q vc ∧ Hid (Below U.heap.size U wr) ∧ Hid (Ba.Own wr U.heap.size (.slice vo q vc) (Po.entrL G (ps.take k))) ∧ Hid (∀ x ∈ ps.take k,Po.badE x = false)) (fun _ _ _ _ _ i _ => p - (intOf i).toNat)
 case atStart => exact ⟨0,va,q1,vc1,by omega,rfl,rfl,HB0,HO0,Lib.hid (by simp)⟩
 case round =>
  clear HB0 HO0
  rename World => wz
  obtain ⟨k,vo,q,vc,hk,rfl,rfl,HB,HO,HK⟩ := hrel
  by_cases hlt : k < p
  ·
   obtain ⟨b,off,rfl⟩ := HLU.out.at (by omega)
   have hkl : k < ps.length := HLn.out ▸ hlt
   have hrow := (HLU.out.row k hkl).below HB.out
   have HSt := Lib.hid (Po.entr_step G ps k hkl)
   have HTk := Lib.hid (List.take_succ_eq_append_getElem hkl)
   have HSh := Lib.hid (HL.out.short _ (List.getElem_mem hkl))
   have HMm : Hid (ps[k] ∈ ps) := Lib.hid (List.getElem_mem hkl)
   have HCk := Lib.hid (HCa.out _ (List.getElem_mem hkl))
   obtain ⟨r,hr⟩ : ∃ r,ps[k] = r := ⟨_,rfl⟩
   rw [hr] at hrow HSt HTk HSh HMm HCk
   clear hr
   obtain ⟨r0,r1,r2,r3⟩ := hrow
   obtain ⟨W,hW,hbW,hA⟩ := Pt.boxed1 wz r
   have HBW := Lib.hid (bchain HB.out hbW)
   have HOW : Hid (Ba.Own W U.heap.size (.slice vo q vc) (Po.entrL G (ps.take k) ++ (Po.rowsOf r).take 0)) := Lib.hid (by
    rw [List.take_zero,List.append_nil]
    exact Ba.own_below HO.out hbW)
   unfold Pt.C at hA
   obtain ⟨a0,a1,a2,a3⟩ := hA
   obtain ⟨t1,ht1⟩ : ∃ t1,Po.netA ++ r.cat = t1 := ⟨_,rfl⟩
   obtain ⟨t2,ht2⟩ : ∃ t2,Po.taxA ++ r.cat = t2 := ⟨_,rfl⟩
   have hadd1 : ∀ u,(Op.stringOp .add ⟨#[110,101,116,47]⟩ r.cat).run Tryz.prog u = .ok (.string t1) u := fun u => by
    rw [← ht1]
    exact text_add Po.netA r.cat (by have := HCk.out; have : Po.netA.size = 4 := rfl; omega) u
   have hadd2 : ∀ u,(Op.stringOp .add ⟨#[116,97,120,47]⟩ r.cat).run Tryz.prog u = .ok (.string t2) u := fun u => by
    rw [← ht2]
    exact text_add Po.taxA r.cat (by have := HCk.out; have : Po.taxA.size = 4 := rfl; omega) u
   have HRw : Hid (Po.rowsOf r = [⟨t1,-r.net⟩,⟨t2,-r.tax⟩]) := Lib.hid (by unfold Po.rowsOf; rw [ht1,ht2])
   clear ht1 ht2 hbW HO
   go_wp2_with fail
   clear hadd1 hadd2 hW a0 a1 a2 a3 r0 r1 r2 r3
   go_loopw [4,8,9,10,43] (fun t _ _ _ i wr => ∃ (j : Nat) (uo : Option Addr) (uq uc : Nat),j ≤ 2 ∧ i = .int .i64 j ∧ t = .slice uo uq uc ∧ Hid (Below U.heap.size U wr) ∧ Hid (Ba.Own wr U.heap.size (.slice uo uq uc) (Po.entrL G (ps.take k) ++ (Po.rowsOf r).take j)) ∧ Hid ((1 ≤ j → Mn.err (-r.net) = 0) ∧ (2 ≤ j → Mn.err (-r.tax) = 0))) (fun _ _ _ _ i _ => 2 - (intOf i).toNat)
   case atStart => exact ⟨0,vo,q,vc,by omega,rfl,rfl,HBW,HOW,Lib.hid ⟨fun h => by omega,fun h => by omega⟩⟩
   case round =>
    clear HBW HOW HB
    rename World => wy
    obtain ⟨j,uo,uq,uc,hj,rfl,rfl,HB,HO,HJ⟩ := hrel
    have HLe := Lib.hid (rows_take G ps r k j)
    rcases (show j = 0 ∨ j = 1 ∨ j = 2 by omega) with rfl | rfl | rfl
    ·
     have hix := index_0 (.string t1) (.int .i64 r.net) (.string t2) (.int .i64 r.tax)
     obtain ⟨Z,hZ,hbZ,hC⟩ := Ba.boxed1 wy ⟨t1,r.net⟩
     have HBZ := Lib.hid (bchain HB.out hbZ)
     have HOZ := Lib.hid (Ba.own_below HO.out hbZ)
     have hsz2 : U.heap.size ≤ Z.heap.size := HBZ.out.size
     unfold Ba.C at hC
     obtain ⟨d0,d1⟩ := hC
     simp only at hZ d0 d1
     clear hbZ
     go_wp2_with fail
     refine (subZ r.net _ HSh.out.2.2.1).mono ?_
     rintro e w3 ⟨rfl,hw3⟩
     have hw4 := hw3.symm
     clear hw3
     subst hw4
     clear hZ
     unfold both
     rcases Mn.err_two (-r.net) with e1 | e1
     ·
      rw [e1,Mn.amt_fit (Iv_err_z e1)]
      have HE1 := Lib.hid e1
      clear e1
      go_wp2_with (at_builtin; go_must (refine Ba.wpList_append _ rfl (.tmp 55) (.tmp 60) rfl U.heap.size (.slice uo uq uc) (Po.entrL G (ps.take k) ++ (Po.rowsOf r).take 0) rfl (Ba.own_alloc HOZ.out _) (some ⟨Z.heap.size,0,none⟩) 1 1 [⟨t1,-r.net⟩] rfl rfl (fun h => by cases h) (Ba.seg_block (heap_alloc_new Z _)) (by have := HLe.out; omega) (by simp; omega) ?_))
      intro v3 w5 o3 gr3 _
      have HB3 : Hid (Below U.heap.size U w5) := Lib.hid ((below_box HBZ.out _).grown gr3 (by simp; omega) (Ba.own_ge HOZ.out))
      obtain ⟨xa,xq,xc,hx1⟩ := own_slice o3
      subst hx1
      have HO3 : Hid (Ba.Own w5 U.heap.size (.slice xa xq xc) (Po.entrL G (ps.take k) ++ (Po.rowsOf r).take (0 + 1))) := Lib.hid (by
       have e : Po.entrL G (ps.take k) ++ (Po.rowsOf r).take (0 + 1) = Po.entrL G (ps.take k) ++ (Po.rowsOf r).take 0 ++ [⟨t1,-r.net⟩] := by
        rw [HRw.out]
        simp
       rw [e]
       first | exact o3 | (rw [List.append_assoc]; exact o3) | simpa using o3)
      clear gr3 o3 hsz2 d0 d1
      go_wp2_with fail
      go_roundw
      case rel => exact ⟨0 + 1,xa,xq,xc,by omega,rfl,rfl,HB3,HO3,Lib.hid ⟨fun _ => HE1.out,fun h => by omega⟩⟩
      case measure => simp [intOf]
     ·
      have HP := Lib.hid (Po.entr_bad G HMm.out (Po.bad_yes (.inl (by rw [e1]; omega))))
      rw [e1]
      clear e1
      go_wp2_with fail
      go_ret2
      exact ⟨_,by rw [HP.out.1]; rfl,by rw [HP.out.2]; exact Ba.own_nil _ _,bchain HBU.out HBZ.out⟩
    ·
     have hix := index_1 (.string t1) (.int .i64 r.net) (.string t2) (.int .i64 r.tax)
     obtain ⟨Z,hZ,hbZ,hC⟩ := Ba.boxed1 wy ⟨t2,r.tax⟩
     have HBZ := Lib.hid (bchain HB.out hbZ)
     have HOZ := Lib.hid (Ba.own_below HO.out hbZ)
     have hsz2 : U.heap.size ≤ Z.heap.size := HBZ.out.size
     unfold Ba.C at hC
     obtain ⟨d0,d1⟩ := hC
     simp only at hZ d0 d1
     clear hbZ
     go_wp2_with fail
     refine (subZ r.tax _ HSh.out.2.2.2).mono ?_
     rintro e w3 ⟨rfl,hw3⟩
     have hw4 := hw3.symm
     clear hw3
     subst hw4
     clear hZ
     unfold both
     rcases Mn.err_two (-r.tax) with e1 | e1
     ·
      rw [e1,Mn.amt_fit (Iv_err_z e1)]
      have HE1 := Lib.hid e1
      clear e1
      go_wp2_with (at_builtin; go_must (refine Ba.wpList_append _ rfl (.tmp 55) (.tmp 60) rfl U.heap.size (.slice uo uq uc) (Po.entrL G (ps.take k) ++ (Po.rowsOf r).take 1) rfl (Ba.own_alloc HOZ.out _) (some ⟨Z.heap.size,0,none⟩) 1 1 [⟨t2,-r.tax⟩] rfl rfl (fun h => by cases h) (Ba.seg_block (heap_alloc_new Z _)) (by have := HLe.out; omega) (by simp; omega) ?_))
      intro v3 w5 o3 gr3 _
      have HB3 : Hid (Below U.heap.size U w5) := Lib.hid ((below_box HBZ.out _).grown gr3 (by simp; omega) (Ba.own_ge HOZ.out))
      obtain ⟨xa,xq,xc,hx1⟩ := own_slice o3
      subst hx1
      have HO3 : Hid (Ba.Own w5 U.heap.size (.slice xa xq xc) (Po.entrL G (ps.take k) ++ (Po.rowsOf r).take (1 + 1))) := Lib.hid (by
       have e : Po.entrL G (ps.take k) ++ (Po.rowsOf r).take (1 + 1) = Po.entrL G (ps.take k) ++ (Po.rowsOf r).take 1 ++ [⟨t2,-r.tax⟩] := by
        rw [HRw.out]
        simp
       rw [e]
       first | exact o3 | (rw [List.append_assoc]; exact o3) | simpa using o3)
      clear gr3 o3 hsz2 d0 d1
      go_wp2_with fail
      go_roundw
      case rel => exact ⟨1 + 1,xa,xq,xc,by omega,rfl,rfl,HB3,HO3,Lib.hid ⟨fun _ => HJ.out.1 (by omega),fun _ => HE1.out⟩⟩
      case measure => simp [intOf]
     ·
      have HP := Lib.hid (Po.entr_bad G HMm.out (Po.bad_yes (.inr (by rw [e1]; omega))))
      rw [e1]
      clear e1
      go_wp2_with fail
      go_ret2
      exact ⟨_,by rw [HP.out.1]; rfl,by rw [HP.out.2]; exact Ba.own_nil _ _,bchain HBU.out HBZ.out⟩
    ·
     have HE1 := HJ.out.1 (by omega)
     have HE2 := HJ.out.2 (by omega)
     have HBd := Lib.hid (Po.bad_no HE1 HE2)
     have HKn : Hid (∀ x ∈ ps.take (k + 1),Po.badE x = false) := Lib.hid (by
      rw [HTk.out]
      intro x hx
      rcases List.mem_append.1 hx with hx | hx
      · exact HK.out x hx
      ·
       obtain rfl := List.mem_singleton.1 hx
       exact HBd.out)
     have HO3 : Hid (Ba.Own wy U.heap.size (.slice uo uq uc) (Po.entrL G (ps.take (k + 1)))) := Lib.hid (by rw [HSt.out]; exact HO.out)
     clear HE1 HE2 HJ HLe
     go_wp2_with fail
     go_roundw
     case rel => exact ⟨k + 1,uo,uq,uc,by omega,by go_num,rfl,HB,HO3,HKn⟩
     case measure => simp [intOf]; omega
  ·
   obtain rfl : k = p := by omega
   have HTk : Hid (ps.take k = ps) := Lib.hid (List.take_of_length_le (by rw [HLn.out]; exact Nat.le_refl _))
   have HP := Lib.hid (Po.entr_ok G (fun x hx => HK.out x (by rw [HTk.out]; exact hx)))
   go_wp2_with fail
   go_ret2
   refine ⟨.slice vo q vc,by rw [HP.out.1]; rfl,?_,bchain HBU.out HB.out⟩
   rw [HP.out.2]
   have ho := HO.out
   rw [HTk.out] at ho
   exact Ba.own_mono ho HBU.out.size
end Go.Proofs.YtjpfpojbalepeabGreat
namespace Go.Proofs.YtjpfpojbalepeabGreat
theorem Po.enter_short {c : ByteArray} {n : Int} {M : List Ba.T} (hc : c.size ≤ 140737488355328) (hs : ∀ r ∈ M,Ba.Short r) (he : Po.enterE c n M = 0) : ∀ r ∈ Po.enter c n M,Ba.Short r := by
 intro r hr
 unfold Po.enter at hr
 rcases List.mem_or_eq_of_mem_set hr with hr | rfl
 · exact Po.ins_short hc hs r hr
 · exact ⟨(Po.part_short hc hs).1,Iv_err_0 he⟩
theorem Po.goL_short : ∀ (ls M : List Ba.T),(∀ x ∈ ls,Ba.Short x) → (∀ r ∈ M,Ba.Short r) → Po.goE ls M = 0 → ∀ r ∈ Po.goL ls M,Ba.Short r
 | [],_,_,hp,_ => hp
 | x :: l,M,hl,hp,he => by
  rw [Po.goE] at he
  by_cases h2 : Po.enterE x.acct x.amt M = 0
  ·
   rw [h2,if_neg (by simp)] at he
   exact Po.goL_short l _ (fun z hz => hl z (by simp [hz])) (Po.enter_short (hl x (by simp)).1 hp h2) he
  ·
   rw [if_pos h2] at he
   omega
theorem Po.entL_short {bs ls : List Ba.T} (hb : ∀ r ∈ bs,Ba.Short r) (hl : ∀ x ∈ ls,Ba.Short x) : ∀ r ∈ Po.entL bs ls,Ba.Short r := by
 unfold Po.entL
 split
 ·
  rename_i h
  unfold Po.entE at h
  split at h
  · omega
  · exact Po.goL_short ls bs hl hb h
 ·
  intro r hr
  cases hr
theorem Po.entrR_short {g : Int} {ps : List Pt.T} (hg : Fit g) (hs : ∀ x ∈ ps,Pt.Short x) (hc : ∀ x ∈ ps,x.cat.size ≤ 140737488351232) : ∀ r ∈ Po.entrR g ps,Ba.Short r := by
 unfold Po.entrR
 split
 ·
  rename_i h
  refine entr_short hg hs hc fun x hx => ?_
  unfold Po.entrE at h
  split at h
  · omega
  ·
   rename_i h2
   cases hb : Po.badE x with
   | false => rfl
   | true => exact absurd (List.any_eq_true.2 ⟨x,hx,hb⟩) h2
 ·
  intro r hr
  cases hr
end Go.Proofs.YtjpfpojbalepeabGreat
namespace Go.Proofs.YtjpfpojbalepeabGreat
open Go.RowKit
open Mem
open Go.Sort (grow)
set_option maxHeartbeats 4000000 in
theorem bil_with (rs : List Pd.T) (p : Pd.T) (ao : Option Addr) (n cap : Nat) (w : World) (hL : Pd.Ls w ao n cap rs) (hn : n ≤ 100) :
  Calls Tryz.prog 125 #[.slice ao n cap,Pd.val p] w fun e w' => ∃ v,e = .returned v ∧ Pd.Own w' w.heap.size v (rs ++ [p]) ∧ Below w.heap.size w w' := by
 have HL := Lib.hid hL
 have HN := Lib.hid hL.len
 have hcap := hL.reach
 have hfit := hL.fits
 obtain ⟨U,hU,hbU,hC⟩ := Pd.boxed1 w p
 have hmk := Pd.make_cap n (by omega)
 have hB0 : Below U.heap.size U (U.alloc (.cells (Pd.zeros (n + 1)) 59)) := (Below.refl _ _).alloc (Nat.le_refl _) _
 have hO0 := Pd.own_cap U U.heap.size (n + 1) (Nat.le_refl _) (by omega)
 have HC := Lib.hid hC
 have HBU := Lib.hid hbU
 have HB0 := Lib.hid hB0
 have HL0 := Lib.hid (hL.below (bchain hbU hB0))
 obtain ⟨X,hX⟩ : ∃ X,U.alloc (.cells (Pd.zeros (n + 1)) 59) = X := ⟨_,rfl⟩
 rw [hX] at HB0 HL0 hO0
 have HO0 := Lib.hid hO0
 clear hL hB0 hbU hC hO0
 unfold Pd.val
 go_enter Tryz.func125,Tryz.ntmps125
 go_wp2_with (first | (at_builtin; go_must (refine Pd.wpList_append X rfl (.tmp 10) (.tmp 11) rfl U.heap.size (.slice (some ⟨U.heap.size,0,none⟩) 0 (n + 1)) [] rfl HO0.out ao n cap rs rfl HN.out HL0.out.nil HL0.out.seg (by simp; omega) HB0.out.size ?_)))
 intro v1 w1 o1 gr1 _
 have hb1 := HB0.out.grown gr1 HB0.out.size (Pd.own_ge HO0.out)
 have HB1 := Lib.hid hb1
 have HO1 : Hid (∀ o,Pd.Own (w1.alloc o) U.heap.size v1 rs) := Lib.hid fun o => Pd.own_alloc o1 o
 have hC1 := HC.out.below hb1
 clear o1 gr1 hb1 hX hU hmk
 go_wp2_with (first | ((with_reducible apply Pd.wpl_loadC hC1); rfl; rfl; rfl) | ((with_reducible apply Pd.wpl_one (r := p)); rfl; rfl; rfl) | (at_builtin; go_must (refine Pd.wpList_append (w1.alloc (Pd.block p)) rfl (.tmp 13) (.tmp 15) rfl U.heap.size v1 rs rfl (HO1.out _) (some ⟨w1.heap.size,0,none⟩) 1 1 [p] rfl rfl (fun h => by cases h) (Pd.seg_block (heap_alloc_new w1 _)) (by rw [← HN.out]; omega) (by have := HB1.out.size; simp; omega) ?_)))
 intro v2 w2 o2 gr2 _
 have hb2 := (below_box HB1.out (Pd.block p)).grown gr2 (below_box HB1.out (Pd.block p)).size (Pd.own_ge (HO1.out (Pd.block p)))
 have HO2 := Lib.hid o2
 have HB2 := Lib.hid hb2
 clear o2 gr2 hb2
 go_wp2_with fail
 go_ret
 exact ⟨v2,rfl,Pd.own_mono HO2.out HBU.out.size,bchain HBU.out HB2.out⟩
def Bl.bookE (b : List Ba.T) (t : Iv.Tot) : Int := if Po.entrE t.parts ≠ 0 then Po.entrE t.parts else Po.entE b (Po.entrL t.gross t.parts)
def Bl.bookL (b : List Ba.T) (t : Iv.Tot) : List Ba.T := if Po.entrE t.parts ≠ 0 then [] else Po.entL b (Po.entrL t.gross t.parts)
theorem Bl.book_bad {b : List Ba.T} {t : Iv.Tot} (h : Po.entrE t.parts ≠ 0) : Bl.bookE b t = Po.entrE t.parts ∧ Bl.bookL b t = [] := ⟨if_pos h,if_pos h⟩
theorem Bl.book_go {b : List Ba.T} {t : Iv.Tot} (h : Po.entrE t.parts = 0) : Bl.bookE b t = Po.entE b (Po.entrL t.gross t.parts) ∧ Bl.bookL b t = Po.entL b (Po.entrL t.gross t.parts) := ⟨if_neg (by rw [h]; simp),if_neg (by rw [h]; simp)⟩
theorem Po.entrL_len (g : Int) : ∀ ps : List Pt.T,(Po.entrL g ps).length = 1 + 2 * ps.length
 | [] => rfl
 | p :: l => by
  have := Po.entrL_len g l
  unfold Po.entrL at this ⊢
  rw [List.flatMap_cons,List.length_cons,List.length_append]
  rw [List.length_cons] at this
  show 2 + _ + 1 = _
  rw [List.length_cons]
  omega
set_option maxHeartbeats 4000000 in
theorem bil_enter (bs : List Ba.T) (t : Iv.Tot) (ao bo : Option Addr) (n ca p cb : Nat) (w : World) (hB : Ba.Ls w ao n ca bs) (hP : Pt.Ls w bo p cb t.parts) (hn : n ≤ 1000) (hp : p ≤ 100) (hg : Fit t.gross) (hc : ∀ x ∈ t.parts,x.cat.size ≤ 140737488351232) :
  Calls Tryz.prog 124 #[.slice ao n ca,Tt.val t.net t.tax t.gross (.slice bo p cb)] w fun e w' => ∃ v,e = .returned (.tuple #[v,.int .i64 (Bl.bookE bs t)]) ∧ Ba.Own w' w.heap.size v (Bl.bookL bs t) ∧ Below w.heap.size w w' := by
 have HB := Lib.hid hB
 have HP := Lib.hid hP
 have HH := Lib.hid (And.intro hg hc)
 obtain ⟨U,hU,hbU,hT⟩ : ∃ U,w.alloc (.cells #[.int .i64 t.net,.int .i64 t.tax,.int .i64 t.gross,.slice bo p cb] 57) = U ∧ Below w.heap.size w U ∧ U.heap[w.heap.size]? = some (.cells #[.int .i64 t.net,.int .i64 t.tax,.int .i64 t.gross,.slice bo p cb] 57) := ⟨_,rfl,(Below.refl _ _).alloc (Nat.le_refl _) _,heap_alloc_new _ _⟩
 have c0 : U.cell? ⟨w.heap.size,0,none⟩ = some (.int .i64 t.net) := by rw [cell_of_row U _ 0 _ _ _ hT]; rfl
 have c1 : U.cell? ⟨w.heap.size,1,none⟩ = some (.int .i64 t.tax) := by rw [cell_of_row U _ 1 _ _ _ hT]; rfl
 have c2 : U.cell? ⟨w.heap.size,2,none⟩ = some (.int .i64 t.gross) := by rw [cell_of_row U _ 2 _ _ _ hT]; rfl
 have c3 : U.cell? ⟨w.heap.size,3,none⟩ = some (.slice bo p cb) := by rw [cell_of_row U _ 3 _ _ _ hT]; rfl
 have HBU := Lib.hid hbU
 have HLe := Lib.hid (And.intro hn hp)
 clear hbU hT hB hP hg hc
 unfold Tt.val
 go_enter Tryz.func124,Tryz.ntmps124
 go_wp2_with fail
 clear hU
 refine (post_entries t.net t.tax t.gross t.parts bo p cb U (HP.out.below HBU.out) HH.out.1 (by have := HLe.out.2; omega) HH.out.2).mono ?_
 rintro e w1 ⟨v,rfl,o1,b1⟩
 have HB1 := Lib.hid (bchain HBU.out b1)
 clear b1 c0 c1 c2 c3
 by_cases h0 : Po.entrE t.parts = 0
 ·
  have HE := Lib.hid (Bl.book_go (b := bs) h0)
  have hR : Po.entrR t.gross t.parts = Po.entrL t.gross t.parts := if_pos h0
  have HSh := Lib.hid (Po.entrR_short HH.out.1 HP.out.short HH.out.2)
  have HLn := Lib.hid (Po.entrL_len t.gross t.parts)
  have HPl := Lib.hid HP.out.len
  rw [hR] at o1 HSh
  rw [h0]
  clear hR h0
  obtain ⟨L,hL⟩ : ∃ L,Po.entrL t.gross t.parts = L := ⟨_,rfl⟩
  rw [hL] at o1 HSh HE HLn
  clear hL
  obtain ⟨lo,lc,rfl,l1,_⟩ := Ba.own_ls o1 HSh.out
  have HL1 := Lib.hid l1
  obtain ⟨m,hm⟩ : ∃ m,L.length = m := ⟨_,rfl⟩
  rw [hm] at HL1 HLn ⊢
  clear hm o1 l1
  go_wp2_with fail
  refine (post_enter bs L ao lo n ca m lc w1 (HB.out.below HB1.out) HL1.out (by have := HLe.out.1; omega) (by have := HLe.out.2; have := HLn.out; have := HPl.out; omega)).mono ?_
  rintro e w2 ⟨v2,rfl,o2,b2⟩
  have HO2 := Lib.hid o2
  have HB2 := Lib.hid b2
  clear o2 b2
  go_wp2_with fail
  go_ret2
  exact ⟨_,by rw [HE.out.1]; rfl,by rw [HE.out.2]; exact Ba.own_mono HO2.out HB1.out.size,bchain HB1.out HB2.out⟩
 ·
  have hq : (Po.entrE t.parts == 0) = false := beq_eq_false_iff_ne.2 h0
  have HE := Lib.hid (Bl.book_bad (b := bs) h0)
  obtain ⟨E,hE⟩ : ∃ E,Po.entrE t.parts = E := ⟨_,rfl⟩
  rw [hE] at hq HE ⊢
  clear hE h0 o1
  go_wp2_with fail
  go_ret2
  exact ⟨_,by rw [HE.out.1]; rfl,by rw [HE.out.2]; exact Ba.own_nil _ _,HB1.out⟩
end Go.Proofs.YtjpfpojbalepeabGreat
namespace Go.Proofs.YtjpfpojbalepeabGreat.Pt
open Go.RowKit
open Mem
theorem slice_from (g n c k l c' : Nat) (x : Int) (hx : x = (k : Int)) (hk : k + l = n) (hc : k + c' = c) (hl : 0 < c') (hn : n ≤ c) (h63 : c ≤ 1000) (u : World) :
  (Instr.slice 55 (.slice (some ⟨g,0,none⟩) n c) (some (.int .i64 x)) none none).run Tryz.prog u = .ok (.slice (some ⟨g,k * 4,none⟩) l c') u := by
 subst hx
 rw [run_slice_l u 55 (some ⟨g,0,none⟩) n c und .i64 k (by omega) (by omega),size]
 have e1 : n - k = l := by omega
 have e2 : c - k = c' := by omega
 have e3 : ¬ c = k := by omega
 simp [Result.andThen,sliced,e1,e2,e3,Addr.add]
 intro h
 exact h.symm
theorem slice_to (g n c k : Nat) (x : Int) (hx : x = (k : Int)) (hk : k ≤ c) (h63 : c ≤ 1000) (u : World) :
  (Instr.slice 55 (.slice (some ⟨g,0,none⟩) n c) none (some (.int .i64 x)) none).run Tryz.prog u = .ok (.slice (some ⟨g,0,none⟩) k c) u := by
 subst hx
 rw [run_slice_h u 55 (some ⟨g,0,none⟩) n c und .i64 k (by omega) (by omega),size]
 simp [Result.andThen,sliced,Addr.add]
def laid (M rs : List T) (o : Nat) : List T := M.take o ++ rs ++ M.drop (o + rs.length)
def cells (M : List T) : Array Value := (M.flatMap rv).toArray
theorem flat_take : ∀ (M : List T) (o : Nat),(M.flatMap rv).take (o * 4) = (M.take o).flatMap rv
 | [],o => by simp
 | a :: l,0 => by simp
 | a :: l,o + 1 => by
  rw [List.flatMap_cons,List.take_succ_cons,List.flatMap_cons,show (o + 1) * 4 = (rv a).length + o * 4 by rw [rv_len]; omega,List.take_length_add_append,flat_take l o]
theorem flat_drop : ∀ (M : List T) (o : Nat),(M.flatMap rv).drop (o * 4) = (M.drop o).flatMap rv
 | [],o => by simp
 | a :: l,0 => by simp
 | a :: l,o + 1 => by
  rw [List.flatMap_cons,List.drop_succ_cons,show (o + 1) * 4 = (rv a).length + o * 4 by rw [rv_len]; omega,List.drop_length_add_append,flat_drop l o]
theorem block_laid {u : World} {g : Nat} {M : List T} (h : Block u g M) (N : List T) : Block (u.setRow g (cells N)) g N := setRow_heap u g _ _ 101 _ h
theorem copy_at (u : World) (g : Nat) (M : List T) (o dl dc b so sl sc : Nat) (rs : List T) (hb : Block u g M) (hk : rs.length = Nat.min sl dl) (ho : o + rs.length ≤ M.length) (hs : ∀ (k : Nat) (hk : k < rs.length),At u b (so + k * 4) rs[k]) (ty : TypeId) :
  (Builtin.copy_ #[55,55] ty #[.slice (some ⟨g,o * 4,none⟩) dl dc,.slice (some ⟨b,so,none⟩) sl sc]).run Tryz.prog u = .ok (goInt rs.length) (u.setRow g (cells (laid M rs o))) := by
 obtain ⟨i0,hi,hiK⟩ := Option.map_eq_some_iff.1 sizeZ
 have hl := run_loadCells_list (P := Tryz.prog) u ⟨b,so,none⟩ (rs.flatMap rv) (fun j v hv => news_of hs j v hv)
 have hst := run_storeCells_at Tryz.prog g (o * 4) 101 (rs.flatMap rv) 0 _ u hb (by rw [List.size_toArray,flat_len,flat_len]; omega) (one_cell rs)
 have hlen : (rs.flatMap rv).length = rs.length * 4 := flat_len rs
 have e : ((M.flatMap rv).toArray.toList.take (o * 4 + 0) ++ rs.flatMap rv ++ (M.flatMap rv).toArray.toList.drop (o * 4 + 0 + (rs.flatMap rv).length)) = (laid M rs o).flatMap rv := by
  rw [List.toList_toArray,Nat.add_zero,hlen,flat_take,show o * 4 + rs.length * 4 = (o + rs.length) * 4 by omega,flat_drop]
  unfold laid
  rw [List.flatMap_append,List.flatMap_append]
 rw [e] at hst
 rw [hlen] at hl
 unfold cells
 simp [Builtin.copy_,run_underlying Tryz.underlying55,Builtin.lenOf,Builtin.firstCells,sizeOf,typeInfo,hi,hiK,← hk,hl,hst]
theorem Block.drew {u : World} {g : Nat} {M : List T} (h : Block u g M) : Block u.drew g M := h
theorem Block.shape {u : World} {g : Nat} {M : List T} (h : Block u g M) : u.shape? g = some (101,M.length * 4) := by
 unfold World.shape?
 rw [h]
 simp only [List.size_toArray,flat_len]
theorem own_front {w : World} {B g n c : Nat} {M Z : List T} (h : Block w g (M ++ Z)) (hB : B ≤ g) (hn : n = M.length) (hc : c = (M ++ Z).length) (hm : c ≤ 1000) : Own w B (.slice (some ⟨g,0,none⟩) n c) M := by
 subst hn hc
 refine ⟨by rw [flat_len],.inr ⟨g,_,_,rfl,hB,h,by rw [List.length_append]; omega,by have : maxLen = 9223372036854775807 := rfl; omega,by rw [List.size_toArray,flat_len],?_⟩⟩
 rw [List.flatMap_append,List.toList_toArray,List.take_left' (by rw [flat_len])]
theorem Block.put {w : World} {g : Nat} {M : List T} (h : Block w g M) (k p : Nat) (hk : k < M.length) (hp : p < 4) (x : Value) (r : T) (hr : rv r = (rv M[k]).set p x) : Block (w.setCell ⟨g,k * 4 + p,none⟩ x) g (M.set k r) := by
 have h1 := heap_setCell_same _ g (k * 4 + p) _ _ x h
 unfold Block
 rw [h1,flat_put r p x hp M k hk hr]
 simp only [List.setIfInBounds_toArray]
theorem Block.far {w : World} {g b : Nat} {M : List T} (h : Block w g M) (hne : g ≠ b) (o : Nat) (x : Value) : Block (w.setCell ⟨b,o,none⟩ x) g M := by
 unfold Block
 rw [heap_setCell_other w ⟨b,o,none⟩ g x hne]
 exact h
theorem set_at (M Z : List T) (z r : T) : (M ++ z :: Z).set M.length r = (M ++ [r]) ++ Z := by
 rw [List.set_append_right _ _ (Nat.le_refl _),Nat.sub_self,List.set_cons_zero,List.append_assoc]
 rfl
set_option maxHeartbeats 4000000 in
theorem insert_end (w : World) (g c vb n : Nat) (M Z : List T) (z r : T) (h : Block w g (M ++ z :: Z)) (hn : n = M.length) (hc : c = (M ++ z :: Z).length) (hm : c ≤ 1000) (hv : w.heap[vb]? = some (block r)) :
  Calls Tryz.prog 137 #[.slice (some ⟨g,0,none⟩) n c,.int .i64 (n : Int),.slice (some ⟨vb,0,none⟩) 1 1] w fun e w' =>
   e = .returned (.slice (some ⟨g,0,none⟩) (n + 1) c) ∧ Block w' g ((M ++ [r]) ++ Z) ∧ (∀ B w0,Below B w0 w → B ≤ g → Below B w0 w') := by
 have hcl : c = n + 1 + Z.length := by rw [hc,List.length_append,List.length_cons,← hn]; omega
 obtain ⟨i0,hi,hz0,hz1,hz2⟩ := info_parts info
 have hsrc : Src Tryz.prog i0.size 55 (.slice (some ⟨vb,0,none⟩) 1 1) 1 (rv r) w := by
  rw [hz1]
  have hsg := seg_block hv
  rcases hsg with e | ⟨b,off,e,hat⟩
  · cases e
  ·
   cases e
   have h' := news_of hat
   rw [List.flatMap_cons,List.flatMap_nil,List.append_nil] at h'
   exact Src.ofSlice w Tryz.underlying55 ⟨vb,0,none⟩ 1 1 (rv r) rfl (fun j u hj => h' j u hj) (fun v hv => by have := one_cell [r] v (by rw [List.flatMap_cons,List.flatMap_nil,List.append_nil]; exact hv); exact this)
 have hsl := slice_from g n c n 0 (c - n) (n : Int) rfl (by omega) (by omega) (by omega) (by omega) hm
 have hcell : ∀ j,j < (rv r).length → (w.cell? ⟨g,0 + n * i0.size + j,none⟩).isSome = true := fun j hj => by
  rw [rv_len] at hj
  rw [hz1,Nat.zero_add,cell_of_row w g _ _ _ _ h,List.getElem?_toArray,flat_at (M ++ z :: Z) n j (by rw [List.length_append,List.length_cons]; omega) hj]
  rw [List.getElem?_eq_getElem (by rw [rv_len]; exact hj)]
  rfl
 have hfz : ∀ j,j < (rv r).length → w.frozen? ⟨g,0 + n * i0.size + j,none⟩ = false := fun j _ => h.frozen _
 have HP : Hid (Block (w.setCells g (n * 4) (rv r)) g ((M ++ [r]) ++ Z)) := by
  have hst := h.store n (by rw [List.length_append,List.length_cons]; omega) r
  rw [hn,set_at,← hn] at hst
  exact hst
 have HB : Hid (∀ B w0,Below B w0 w → B ≤ g → Below B w0 (w.setCells g (n * 4) (rv r))) := by
  intro B w0 hb hg
  exact below_store hb hg n _ _ _ _
 have hcn : n + 1 ≤ c := by omega
 have HH := Lib.hid h
 have HV := Lib.hid hv
 have hn1 : (n : Int) ≤ 1000 := by omega
 clear h hv hc hcl hn
 go_enter Tryz.func137,Tryz.ntmps137
 go_wp2_with (at_builtin; go_must (refine wpList_append_room_src w rfl (.tmp 23) (.tmp 24) 55 55 rfl 101 i0 Tryz.underlying55 hi g 0 n c rfl _ rfl 1 (rv r) hsrc hcn hcell hfz ?_))
 go_ret
 exact ⟨rfl,HP.out,HB.out⟩
theorem laid_up (M Z : List T) (z : T) (i : Nat) (hi : i < M.length) : laid (M ++ z :: Z) (M.drop i) (i + 1) = M.take (i + 1) ++ M.drop i ++ Z := by
 have e1 : (M ++ z :: Z).take (i + 1) = M.take (i + 1) := List.take_append_of_le_length (by omega)
 have e2 : (M ++ z :: Z).drop (i + 1 + (M.drop i).length) = Z := by
  rw [List.length_drop,show i + 1 + (M.length - i) = (M ++ [z]).length by rw [List.length_append,List.length_singleton]; omega,show M ++ z :: Z = (M ++ [z]) ++ Z by simp,List.drop_left]
 unfold laid
 rw [e1,e2]
theorem laid_in (M Z : List T) (r : T) (i : Nat) (hi : i < M.length) : laid (M.take (i + 1) ++ M.drop i ++ Z) [r] i = (M.take i ++ r :: M.drop i) ++ Z := by
 have e1 : (M.take (i + 1) ++ M.drop i ++ Z).take i = M.take i := by
  rw [List.append_assoc,List.take_append_of_le_length (by rw [List.length_take]; omega),List.take_take,Nat.min_eq_left (by omega)]
 have e2 : (M.take (i + 1) ++ M.drop i ++ Z).drop (i + [r].length) = M.drop i ++ Z := by
  rw [List.append_assoc,List.drop_left' (by rw [List.length_take,List.length_singleton]; omega)]
 unfold laid
 rw [e1,e2]
 simp only [List.append_assoc,List.cons_append,List.nil_append]
theorem size4 (u : World) : (sizeOf 101).run Tryz.prog u = .ok 4 u := by
 obtain ⟨i,hi,hs⟩ := Option.map_eq_some_iff.1 sizeZ
 simp [sizeOf,typeInfo,hi,hs]
set_option maxHeartbeats 4000000 in
theorem insert_mid (w : World) (g c vb n i : Nat) (M Z : List T) (z r : T) (h : Block w g (M ++ z :: Z)) (hn : n = M.length) (hc : c = (M ++ z :: Z).length) (hm : c ≤ 1000) (hv : w.heap[vb]? = some (block r)) (hne : vb ≠ g) (hi : i < n) :
  Calls Tryz.prog 137 #[.slice (some ⟨g,0,none⟩) n c,.int .i64 (i : Int),.slice (some ⟨vb,0,none⟩) 1 1] w fun e w' =>
   e = .returned (.slice (some ⟨g,0,none⟩) (n + 1) c) ∧ Block w' g ((M.take i ++ r :: M.drop i) ++ Z) ∧ (∀ B w0,Below B w0 w → B ≤ g → Below B w0 w') := by
 have hcl : c = n + 1 + Z.length := by rw [hc,List.length_append,List.length_cons,← hn]; omega
 have hs1 := slice_from g n c i (n - i) (c - i) (i : Int) rfl (by omega) (by omega) (by omega) (by omega) hm
 have hs2 := slice_to g n c (n + 1) ((n : Int) + 1) (by omega) (by omega) hm
 have hs3 := slice_from g (n + 1) c (i + 1) (n - i) (c - (i + 1)) ((i : Int) + 1) (by omega) (by omega) (by omega) (by omega) (by omega) hm
 have hs4 := slice_from g (n + 1) c i (n + 1 - i) (c - i) (i : Int) rfl (by omega) (by omega) (by omega) (by omega) hm
 have hov : ∀ lb cb,(callFunc 150 #[.slice (some ⟨vb,0,none⟩) 1 1,.slice (some ⟨g,(i + 1) * 4,none⟩) lb cb]).run Tryz.prog w = .ok (.value (.bool false)) w := fun lb cb => by
  rw [run_callFunc_extern Tryz.func150 (by kernel_rfl) (by kernel_rfl) (by kernel_rfl) (e := Extern.SlicesOverlaps.overlaps #[55,55] #[4]) (by kernel_rfl),
   Lib.run_overlaps_apart w 55 4 101 Tryz.underlying55 4 size4 ⟨vb,0,none⟩ ⟨g,(i + 1) * 4,none⟩ 1 1 lb cb hne 101 101 4 ((M ++ z :: Z).length * 4) (by unfold World.shape?; rw [hv]; rfl) h.shape (by rw [← hc]; omega) (frozen_of_row w vb 0 _ _ hv) (frozen_of_row w vb 4 _ _ hv)]
  rfl
 obtain ⟨W1,hW1⟩ : ∃ W1,w.drew.setRow g (cells (M.take (i + 1) ++ M.drop i ++ Z)) = W1 := ⟨_,rfl⟩
 have hB1 : Block W1 g (M.take (i + 1) ++ M.drop i ++ Z) := hW1 ▸ block_laid h.drew _
 have hd : (M.drop i).length = n - i := by rw [List.length_drop,hn]
 have hcp1 : ∀ ty dc sc,(Builtin.copy_ #[55,55] ty #[.slice (some ⟨g,(i + 1) * 4,none⟩) (n - i) dc,.slice (some ⟨g,i * 4,none⟩) (n + 1 - i) sc]).run Tryz.prog w.drew = .ok (goInt (n - i : Nat)) W1 := fun ty dc sc => by
  have hcp := copy_at w.drew g (M ++ z :: Z) (i + 1) (n - i) dc g (i * 4) (n + 1 - i) sc (M.drop i) h.drew (by rw [hd]; simp only [Nat.min_def]; split <;> omega) (by rw [hd,List.length_append,List.length_cons]; omega) (fun k hk => by
   have hr := h.drew.row (i + k) (by rw [List.length_append]; omega)
   rw [List.getElem_append_left (by omega)] at hr
   rw [List.getElem_drop,show i * 4 + k * 4 = (i + k) * 4 by omega]
   exact hr) ty
  rw [laid_up M Z z i (by omega),hW1,hd] at hcp
  exact hcp
 have hvW : W1.heap[vb]? = some (block r) := by
  rw [← hW1,setRow_other w.drew g vb _ hne]
  exact hv
 obtain ⟨W2,hW2⟩ : ∃ W2,W1.setRow g (cells ((M.take i ++ r :: M.drop i) ++ Z)) = W2 := ⟨_,rfl⟩
 have hcp2 : ∀ ty dc,(Builtin.copy_ #[55,55] ty #[.slice (some ⟨g,i * 4,none⟩) (n + 1 - i) dc,.slice (some ⟨vb,0,none⟩) 1 1]).run Tryz.prog W1 = .ok (goInt 1) W2 := fun ty dc => by
  have hsg := seg_block hvW
  have hcp := copy_at W1 g (M.take (i + 1) ++ M.drop i ++ Z) i (n + 1 - i) dc vb 0 1 1 [r] hB1 (by simp only [Nat.min_def,List.length_singleton]; split <;> omega) (by simp only [List.length_append,List.length_take,hd,List.length_singleton]; omega) (by
   rcases hsg with e | ⟨b,off,e,hat⟩
   · cases e
   ·
    cases e
    exact hat) ty
  rw [laid_in M Z r i (by omega),hW2] at hcp
  exact hcp
 have HP : Hid (Block W2 g ((M.take i ++ r :: M.drop i) ++ Z)) := by
  show Block W2 g _
  rw [← hW2]
  exact block_laid hB1 _
 have HB : Hid (∀ B w0,Below B w0 w → B ≤ g → Below B w0 W2) := by
  intro B w0 hb hg
  rw [← hW2,← hW1]
  exact below_setRow (below_setRow hb.drew hg _) hg _
 have hin : ¬ ((i : Int) = (n : Int)) := by omega
 have hin' : ((i : Int) == (n : Int)) = false := by simpa using hin
 have hcn : (n : Int) + 1 ≤ (c : Int) := by omega
 have hc1 : (c : Int) ≤ 1000 := by omega
 have hi1 : (i : Int) + 1 ≤ (n : Int) := by omega
 clear h hv hc hcl hn hW1 hW2 hB1 hd hvW hne
 go_enter Tryz.func137,Tryz.ntmps137
 go_wp2_with (simp only [hov])
 go_region
 go_wp2_with fail
 go_ret
 exact ⟨rfl,HP.out,HB.out⟩
end Go.Proofs.YtjpfpojbalepeabGreat.Pt
namespace Go.Proofs.YtjpfpojbalepeabGreat
open Go.RowKit
open Mem
theorem inv_clone (rs : List Pt.T) (ao : Option Addr) (n cap : Nat) (w : World) (hR : Pt.Ls w ao n cap rs) (hn : n ≤ 1000) :
  Calls Tryz.prog 110 #[.slice ao n cap] w fun e w' => e = .returned (.slice (some ⟨w.heap.size,0,none⟩) n n) ∧ Pt.Block w' w.heap.size rs ∧ Below w.heap.size w w' := by
 have HR := Lib.hid hR
 have hcap := hR.reach
 have hfit := hR.fits
 have hmk := Pt.make n (by omega)
 have hblk0 := Pt.block_made w n
 have hbel0 : Below w.heap.size w (w.alloc (.cells (Pt.zeros n) 101)) := (Below.refl _ _).alloc (Nat.le_refl _) _
 obtain ⟨W1,hcp,hblk,hbel,hsz⟩ := Pt.copy (w.alloc (.cells (Pt.zeros n) 101)) w.heap.size [] n ao n cap rs (by rw [List.append_nil]; exact hblk0) hR.len ((hR.below hbel0).seg)
 rw [List.length_nil,Nat.add_zero] at hcp
 rw [List.append_nil] at hblk
 have HB1 := Lib.hid (hbel _ _ hbel0 (Nat.le_refl _))
 have HBk := Lib.hid hblk
 clear hblk hbel hblk0 hbel0 hR
 go_enter Tryz.func110,Tryz.ntmps110
 go_wp2
 go_ret
 exact ⟨rfl,HBk.out,HB1.out⟩
theorem sub0 (x : Int) (w : World) (hx : Fit x) : Calls Tryz.prog 84 #[.int .i64 0,.int .i64 x] w fun e w' => e = both (Mn.amt (-x)) (Mn.err (-x)) ∧ w' = w := by
 have h := sub_any 0 x w (by decide) hx
 rw [Int.zero_sub] at h
 exact h
def TurnE (n : Nat) (v : Nat → Int) (W : Nat → World) (e : Ending) (w' : World) : Prop :=
 ((∀ k,k < n → Mn.err (-(v k)) = 0) ∧ e = .returned (.int .i64 0) ∧ w' = W n) ∨ (∃ k,k < n ∧ Mn.err (-(v k)) ≠ 0 ∧ e = .returned (.int .i64 7) ∧ w' = W k)
set_option maxHeartbeats 2000000 in
theorem inv_turn (vb g n : Nat) (o : Nat → Nat) (v : Nat → Int) (W : Nat → World) (hn : n ≤ 3)
  (hp : ∀ k,k < n → (W k).cell? ⟨vb,k,none⟩ = some (.pointer (some ⟨g,o k,none⟩))) (hc : ∀ k,k < n → (W k).cell? ⟨g,o k,none⟩ = some (.int .i64 (v k))) (hf : ∀ k,k < n → (W k).frozen? ⟨g,o k,none⟩ = false)
  (hs : ∀ k,k < n → (W k).setCell ⟨g,o k,none⟩ (.int .i64 (-(v k))) = W (k + 1)) (hv : ∀ k,k < n → Fit (v k)) :
  Calls Tryz.prog 111 #[.slice (some ⟨vb,0,none⟩) n n] (W 0) (TurnE n v W) := by
 have HP := Lib.hid hp
 have HC := Lib.hid hc
 have HF := Lib.hid hf
 have HS := Lib.hid hs
 have HV := Lib.hid hv
 clear hp hc hf hs hv
 go_enter Tryz.func111,Tryz.ntmps111
 go_wp2_with fail
 go_loopw [4,5,6,9] (fun _ _ _ i wr => ∃ k : Nat,k ≤ n ∧ i = .int .i64 k ∧ wr = W k ∧ Hid (∀ j,j < k → Mn.err (-(v j)) = 0)) (fun _ _ _ i _ => n - (intOf i).toNat)
 case atStart => exact ⟨0,by omega,rfl,rfl,Lib.hid fun j hj => by omega⟩
 case round =>
  obtain ⟨k,hk,rfl,hwr,HE⟩ := hrel
  by_cases hlt : k < n
  ·
   have h1 := HP.out k hlt
   have h2 := HC.out k hlt
   have h3 := HF.out k hlt
   have HS1 := Lib.hid (HS.out k hlt)
   have HV1 := Lib.hid (HV.out k hlt)
   rw [← hwr] at h1 h2 h3 HS1
   have HWr := Lib.hid hwr
   obtain ⟨x,hx⟩ : ∃ x,v k = x := ⟨_,rfl⟩
   obtain ⟨p,hop⟩ : ∃ p,o k = p := ⟨_,rfl⟩
   have HX := Lib.hid hx
   rw [hx] at h2 HS1 HV1
   rw [hop] at h1 h2 h3 HS1
   clear hwr hx hop
   go_wp2_with fail
   refine (sub0 x _ HV1.out).mono ?_
   rintro e w1 ⟨rfl,hw1⟩
   subst hw1
   unfold both
   rcases Mn.err_two (-x) with e1 | e1
   ·
    have HE1 := Lib.hid e1
    rw [e1,Mn.amt_fit (Iv.err_0 e1)]
    clear e1
    go_wp2_with fail
    go_roundw
    case rel =>
     refine ⟨k + 1,by omega,by go_num,HS1.out,Lib.hid fun j hj => ?_⟩
     by_cases e : j < k
     · exact HE.out j e
     ·
      obtain rfl : j = k := by omega
      rw [HX.out]
      exact HE1.out
    case measure => simp [intOf]; omega
   ·
    have HE1 := Lib.hid e1
    rw [e1]
    clear e1
    go_wp2_with fail
    go_ret
    exact .inr ⟨k,hlt,by rw [HX.out,HE1.out]; omega,rfl,HWr.out⟩
  ·
   obtain rfl : k = n := by omega
   have HWr := Lib.hid hwr
   clear hwr
   go_wp2_with fail
   go_ret
   exact .inl ⟨HE.out,rfl,HWr.out⟩
end Go.Proofs.YtjpfpojbalepeabGreat
namespace Go.Proofs.YtjpfpojbalepeabGreat
open Go.RowKit
open Mem
structure Upd (X w' : World) (g : Nat) : Prop where
 bel : ∀ B w0,Below B w0 X → B ≤ g → Below B w0 w'
 blk : ∀ i,i ≠ g → w'.heap[i]? = X.heap[i]?
theorem Upd.refl (X : World) (g : Nat) : Upd X X g := ⟨fun _ _ h _ => h,fun _ _ => rfl⟩
theorem Upd.set {X w' : World} {g : Nat} (h : Upd X w' g) (o : Nat) (x : Value) : Upd X (w'.setCell ⟨g,o,none⟩ x) g :=
 ⟨fun B w0 hb hg => (h.bel B w0 hb hg).setCell hg x,fun i hi => (heap_setCell_other w' ⟨g,o,none⟩ i x hi).trans (h.blk i hi)⟩
theorem Upd.at {X w' : World} {g i : Nat} (h : Upd X w' g) (hi : i ≠ g) {n t s : Int} {v : Value} (a : Tt.At X i n t s v) : Tt.At w' i n t s v := (h.blk i hi).trans a
theorem Upd.block {X w' : World} {g i : Nat} (h : Upd X w' g) (hi : i ≠ g) {M : List Pt.T} (a : Pt.Block X i M) : Pt.Block w' i M := (h.blk i hi).trans a
theorem turn3 (X : World) (h vb : Nat) (a b c : Int) (v : Value) (hA : Tt.At X h a b c v) (hP : X.heap[vb]? = some (.cells #[.pointer (some ⟨h,0,none⟩),.pointer (some ⟨h,1,none⟩),.pointer (some ⟨h,2,none⟩)] 168 (0,0))) (hne : vb ≠ h) (ha : Fit a) (hb : Fit b) (hc : Fit c) :
  Calls Tryz.prog 111 #[.slice (some ⟨vb,0,none⟩) 3 3] X fun e w' => Upd X w' h ∧ ((Mn.err (-a) = 0 ∧ Mn.err (-b) = 0 ∧ Mn.err (-c) = 0 ∧ e = .returned (.int .i64 0) ∧ Tt.At w' h (-a) (-b) (-c) v) ∨ ((Mn.err (-a) ≠ 0 ∨ Mn.err (-b) ≠ 0 ∨ Mn.err (-c) ≠ 0) ∧ e = .returned (.int .i64 7))) := by
 have hA1 := hA.set0 (-a)
 have hA2 := hA1.set1 (-b)
 have hA3 := hA2.set2 (-c)
 have hU1 := (Upd.refl X h).set 0 (.int .i64 (-a))
 have hU2 := hU1.set 1 (.int .i64 (-b))
 have hU3 := hU2.set 2 (.int .i64 (-c))
 obtain ⟨X1,hX1⟩ : ∃ X1,X.setCell ⟨h,0,none⟩ (.int .i64 (-a)) = X1 := ⟨_,rfl⟩
 rw [hX1] at hA1 hA2 hA3 hU1 hU2 hU3
 obtain ⟨X2,hX2⟩ : ∃ X2,X1.setCell ⟨h,1,none⟩ (.int .i64 (-b)) = X2 := ⟨_,rfl⟩
 rw [hX2] at hA2 hA3 hU2 hU3
 obtain ⟨X3,hX3⟩ : ∃ X3,X2.setCell ⟨h,2,none⟩ (.int .i64 (-c)) = X3 := ⟨_,rfl⟩
 rw [hX3] at hA3 hU3
 have hP1 := (hU1.blk vb hne).trans hP
 have hP2 := (hU2.blk vb hne).trans hP
 refine (inv_turn vb h 3 (fun k => k) (fun k => [a,b,c].getD k 0) (fun k => [X,X1,X2,X3].getD k X3) (Nat.le_refl _) ?_ ?_ ?_ ?_ ?_).mono ?_
 ·
  intro k hk
  match k,hk with
  | 0,_ => exact (cell_of_row X vb _ _ _ _ hP).trans rfl
  | 1,_ => exact (cell_of_row X1 vb _ _ _ _ hP1).trans rfl
  | 2,_ => exact (cell_of_row X2 vb _ _ _ _ hP2).trans rfl
 ·
  intro k hk
  match k,hk with
  | 0,_ => exact hA.cells.1
  | 1,_ => exact hA1.cells.2.1
  | 2,_ => exact hA2.cells.2.2.1
 ·
  intro k hk
  match k,hk with
  | 0,_ => exact hA.frozen 0
  | 1,_ => exact hA1.frozen 1
  | 2,_ => exact hA2.frozen 2
 ·
  intro k hk
  match k,hk with
  | 0,_ => exact hX1
  | 1,_ => exact hX2
  | 2,_ => exact hX3
 ·
  intro k hk
  match k,hk with
  | 0,_ => exact ha
  | 1,_ => exact hb
  | 2,_ => exact hc
 ·
  rintro e w' (⟨h1,h2,h3⟩ | ⟨k,hk,h1,h2,h3⟩)
  ·
   subst h3
   exact ⟨hU3,.inl ⟨h1 0 (by omega),h1 1 (by omega),h1 2 (by omega),h2,hA3⟩⟩
  ·
   match k,hk with
   | 0,_ => exact ⟨h3 ▸ Upd.refl X h,.inr ⟨.inl h1,h2⟩⟩
   | 1,_ => exact ⟨h3 ▸ hU1,.inr ⟨.inr (.inl h1),h2⟩⟩
   | 2,_ => exact ⟨h3 ▸ hU2,.inr ⟨.inr (.inr h1),h2⟩⟩
theorem turn2 (X : World) (g vb k : Nat) (M : List Pt.T) (r : Pt.T) (hk : k < M.length) (hr : M[k] = r) (hB : Pt.Block X g M) (hP : X.heap[vb]? = some (.cells #[.pointer (some ⟨g,k * 4 + 2,none⟩),.pointer (some ⟨g,k * 4 + 3,none⟩)] 168 (0,0))) (hne : vb ≠ g) (ha : Fit r.net) (hb : Fit r.tax) :
  Calls Tryz.prog 111 #[.slice (some ⟨vb,0,none⟩) 2 2] X fun e w' => Upd X w' g ∧ ((Iv.badP r = false ∧ e = .returned (.int .i64 0) ∧ Pt.Block w' g (M.set k (Iv.negP r))) ∨ (Iv.badP r = true ∧ e = .returned (.int .i64 7))) := by
 have hB1 := hB.put k 2 hk (by omega) (.int .i64 (-r.net)) ⟨r.cat,r.bp,-r.net,r.tax⟩ (by rw [hr]; rfl)
 have hk1 : k < (M.set k ⟨r.cat,r.bp,-r.net,r.tax⟩).length := by rw [List.length_set]; exact hk
 have hr1 : (M.set k ⟨r.cat,r.bp,-r.net,r.tax⟩)[k] = ⟨r.cat,r.bp,-r.net,r.tax⟩ := List.getElem_set_self ..
 have hB2 := hB1.put k 3 hk1 (by omega) (.int .i64 (-r.tax)) (Iv.negP r) (by rw [hr1]; rfl)
 rw [List.set_set] at hB2
 have hU1 := (Upd.refl X g).set (k * 4 + 2) (.int .i64 (-r.net))
 have hU2 := hU1.set (k * 4 + 3) (.int .i64 (-r.tax))
 obtain ⟨X1,hX1⟩ : ∃ X1,X.setCell ⟨g,k * 4 + 2,none⟩ (.int .i64 (-r.net)) = X1 := ⟨_,rfl⟩
 rw [hX1] at hB1 hB2 hU1 hU2
 obtain ⟨X2,hX2⟩ : ∃ X2,X1.setCell ⟨g,k * 4 + 3,none⟩ (.int .i64 (-r.tax)) = X2 := ⟨_,rfl⟩
 rw [hX2] at hB2 hU2
 have hP1 := (hU1.blk vb hne).trans hP
 have hrow0 := hB.row k hk
 have hrow1 := hB1.row k hk1
 rw [hr] at hrow0
 rw [hr1] at hrow1
 refine (inv_turn vb g 2 (fun j => k * 4 + 2 + j) (fun j => [r.net,r.tax].getD j 0) (fun j => [X,X1,X2].getD j X2) (by omega) ?_ ?_ ?_ ?_ ?_).mono ?_
 ·
  intro j hj
  match j,hj with
  | 0,_ => exact (cell_of_row X vb _ _ _ _ hP).trans rfl
  | 1,_ => exact (cell_of_row X1 vb _ _ _ _ hP1).trans rfl
 ·
  intro j hj
  match j,hj with
  | 0,_ => exact hrow0.3
  | 1,_ => exact hrow1.4
 ·
  intro j hj
  match j,hj with
  | 0,_ => exact hB.frozen _
  | 1,_ => exact hB1.frozen _
 ·
  intro j hj
  match j,hj with
  | 0,_ => exact hX1
  | 1,_ => exact hX2
 ·
  intro j hj
  match j,hj with
  | 0,_ => exact ha
  | 1,_ => exact hb
 ·
  rintro e w' (⟨h1,h2,h3⟩ | ⟨j,hj,h1,h2,h3⟩)
  ·
   subst h3
   exact ⟨hU2,.inl ⟨Iv.bad_no (h1 0 (by omega)) (h1 1 (by omega)),h2,hB2⟩⟩
  ·
   match j,hj with
   | 0,_ => exact ⟨h3 ▸ Upd.refl X g,.inr ⟨Iv.bad_yes (.inl h1),h2⟩⟩
   | 1,_ => exact ⟨h3 ▸ hU1,.inr ⟨Iv.bad_yes (.inr h1),h2⟩⟩
def Iv.mixN (ps : List Pt.T) (k : Nat) : List Pt.T := (ps.take k).map Iv.negP ++ ps.drop k
theorem Iv.mixN_len (ps : List Pt.T) (k : Nat) : (Iv.mixN ps k).length = ps.length := by
 unfold Iv.mixN
 rw [List.length_append,List.length_map,List.length_take,List.length_drop]
 omega
theorem Iv.mixN_at (ps : List Pt.T) (k : Nat) (h : k < ps.length) : (Iv.mixN ps k)[k]'(by rw [Iv.mixN_len]; exact h) = ps[k] := by
 have h1 : (Iv.mixN ps k)[k]? = some ps[k] := by
  unfold Iv.mixN
  rw [List.getElem?_append_right (by rw [List.length_map,List.length_take]; omega),List.length_map,List.length_take,Nat.min_eq_left (by omega),Nat.sub_self,List.getElem?_drop,Nat.add_zero,List.getElem?_eq_getElem h]
 exact Option.some.inj ((List.getElem?_eq_getElem _).symm.trans h1)
theorem Iv.mixN_set (ps : List Pt.T) (k : Nat) (h : k < ps.length) : (Iv.mixN ps k).set k (Iv.negP ps[k]) = Iv.mixN ps (k + 1) := by
 unfold Iv.mixN
 rw [List.set_append_right _ _ (by rw [List.length_map,List.length_take]; omega),List.length_map,List.length_take,Nat.min_eq_left (by omega),Nat.sub_self,List.drop_eq_getElem_cons h,List.set_cons_zero,List.take_succ_eq_append_getElem h,List.map_append]
 simp
structure KSt (w wr : World) (h g n : Nat) (t : Iv.Tot) (k : Nat) : Prop where
 hw : w.heap.size = h
 lo : h + 2 ≤ g
 bel : Below w.heap.size w wr
 tot : Tt.At wr h (-t.net) (-t.tax) (-t.gross) (.slice (some ⟨g,0,none⟩) n n)
 res : Tt.At wr (h + 1) 0 0 0 (.slice none 0 0)
 blk : Pt.Block wr g (Iv.mixN t.parts k)
 ok : ∀ r ∈ t.parts.take k,Iv.badP r = false
theorem KSt.below {w wr v : World} {h g n k : Nat} {t : Iv.Tot} (H : KSt w wr h g n t k) (b : Below wr.heap.size wr v) : KSt w v h g n t k :=
 ⟨H.hw,H.lo,bchain H.bel b,H.tot.below b,H.res.below b,H.blk.below b,H.ok⟩
set_option maxHeartbeats 4000000 in
theorem inv_back (t : Iv.Tot) (ao : Option Addr) (p cap : Nat) (w : World) (hL : Pt.Ls w ao p cap t.parts) (hn : Fit t.net) (ht : Fit t.tax) (hg : Fit t.gross) (hp : p ≤ 1000) :
  Calls Tryz.prog 82 #[Tt.val t.net t.tax t.gross (.slice ao p cap)] w (Tt.Ans w (Iv.backE t) (Iv.backT t)) := by
 have HL := Lib.hid hL
 have HLn := Lib.hid hL.len
 have HF := Lib.hid (And.intro hn (And.intro ht hg))
 clear hL hn ht hg
 have hb1 := Tt.below_own w t.net t.tax t.gross (.slice ao p cap)
 have hb2 := Tt.below_own (Tt.box w t.net t.tax t.gross (.slice ao p cap)) 0 0 0 (.slice none 0 0)
 have h1 := (Tt.at_box w t.net t.tax t.gross (.slice ao p cap)).below hb2
 have h2 := Tt.at_box (Tt.box w t.net t.tax t.gross (.slice ao p cap)) 0 0 0 (.slice none 0 0)
 rw [Tt.box_size] at h2
 obtain ⟨U,hU⟩ : ∃ U,Tt.box (Tt.box w t.net t.tax t.gross (.slice ao p cap)) 0 0 0 (.slice none 0 0) = U := ⟨_,rfl⟩
 rw [hU] at h1 h2 hb2
 have HB := Lib.hid (bchain hb1 hb2)
 have HA1 := Lib.hid h1
 have HA2 := Lib.hid h2
 have HUs : Hid ((w.alloc (.cells #[.int .i64 t.net,.int .i64 t.tax,.int .i64 t.gross,.slice ao p cap] 57)).alloc (.cells #[.int .i64 0,.int .i64 0,.int .i64 0,.slice none 0 0] 57) = U) := Lib.hid hU
 obtain ⟨h,hh⟩ : ∃ h,w.heap.size = h := ⟨_,rfl⟩
 have HHw := Lib.hid hh
 rw [hh] at HA1 HA2
 clear hb1 hb2 h1 h2 hU
 unfold Tt.val
 go_enter Tryz.func82,Tryz.ntmps82
 go_wp2_with fail
 rw [HUs.out]
 clear HUs hh
 refine (inv_clone t.parts ao p cap _ (HL.out.below HB.out) hp).mono ?_
 rintro e w1 ⟨rfl,hB1,b1⟩
 obtain ⟨g,hgU⟩ : ∃ g,U.heap.size = g := ⟨_,rfl⟩
 rw [hgU] at hB1
 rw [hgU]
 have HGl : Hid (h + 2 ≤ g) := Lib.hid (by have := HA2.out.lt; omega)
 have HA1' := Lib.hid (HA1.out.below b1)
 have HS1 : Hid (Tt.At (w1.setCell ⟨h,3,none⟩ (.slice (some ⟨g,0,none⟩) p p)) h t.net t.tax t.gross (.slice (some ⟨g,0,none⟩) p p)) := Lib.hid (HA1'.out.set3 _)
 have HS2 : Hid (Tt.At (w1.setCell ⟨h,3,none⟩ (.slice (some ⟨g,0,none⟩) p p)) (h + 1) 0 0 0 (.slice none 0 0)) := Lib.hid ((HA2.out.below b1).far (by omega) _ _)
 have HS3 : Hid (Pt.Block (w1.setCell ⟨h,3,none⟩ (.slice (some ⟨g,0,none⟩) p p)) g t.parts) := Lib.hid (hB1.far (by have := HGl.out; omega) _ _)
 have HS4 : Hid (Below w.heap.size w (w1.setCell ⟨h,3,none⟩ (.slice (some ⟨g,0,none⟩) p p))) := Lib.hid (bset (bchain HB.out b1) (by have := HHw.out; omega) _ _)
 obtain ⟨t0,t1,t2,t3⟩ := HA1'.out.cells
 have f3 := HA1'.out.frozen 3
 obtain ⟨V,hV⟩ : ∃ V,w1.setCell ⟨h,3,none⟩ (.slice (some ⟨g,0,none⟩) p p) = V := ⟨_,rfl⟩
 rw [hV] at HS1 HS2 HS3 HS4
 clear hB1 b1 hgU HA1 HA2 HA1' HB
 go_wp2_with fail
 clear t0 t1 t2 t3 f3 hV
 have hbv : Below V.heap.size V (V.alloc (.cells #[.pointer (some ⟨h,0,none⟩),.pointer (some ⟨h,1,none⟩),.pointer (some ⟨h,2,none⟩)] 168)) := (Below.refl _ _).alloc (Nat.le_refl _) _
 refine (turn3 _ h V.heap.size t.net t.tax t.gross _ (HS1.out.below hbv) (heap_alloc_new V _) (Nat.ne_of_gt HS1.out.lt) HF.out.1 HF.out.2.1 HF.out.2.2).mono ?_
 rintro e w2 ⟨hU2,hcase⟩
 have HU2 : Hid (Below w.heap.size w w2 ∧ Tt.At w2 (h + 1) 0 0 0 (.slice none 0 0) ∧ Pt.Block w2 g t.parts) := Lib.hid ⟨hU2.bel _ _ (bchain HS4.out hbv) (by rw [HHw.out]; exact Nat.le_refl _),hU2.at (by omega) (HS2.out.below hbv),hU2.block (by have := HGl.out; omega) (HS3.out.below hbv)⟩
 clear hU2 hbv HS1 HS2 HS3 HS4
 rcases hcase with ⟨e1,e2,e3,rfl,hA⟩ | ⟨hbad,rfl⟩
 ·
  have HE := Lib.hid (And.intro e1 (And.intro e2 e3))
  have HK : Hid (KSt w w2 h g p t 0) := Lib.hid ⟨HHw.out,HGl.out,HU2.out.1,hA,HU2.out.2.1,HU2.out.2.2,by simp⟩
  clear e1 e2 e3 hA HU2
  obtain ⟨t0,t1,t2,t3⟩ := HK.out.tot.cells
  go_wp2_with fail
  clear t0 t1 t2 t3
  go_loopw [5,6,23] (fun _ _ i wr => ∃ k : Nat,k ≤ p ∧ i = .int .i64 k ∧ Hid (KSt w wr h g p t k)) (fun _ _ i _ => p - (intOf i).toNat)
  case atStart => exact ⟨0,by omega,rfl,HK⟩
  case round =>
   clear HK
   rename World => wz
   obtain ⟨k,hk,rfl,H⟩ := hrel
   by_cases hlt : k < p
   ·
    have hkp : k < t.parts.length := HLn.out ▸ hlt
    have hkm : k < (Iv.mixN t.parts k).length := by rw [Iv.mixN_len]; exact hkp
    have hrk := Iv.mixN_at t.parts k hkp
    have HSt := Lib.hid (Iv.mixN_set t.parts k hkp)
    have HTk := Lib.hid (List.take_succ_eq_append_getElem hkp)
    have HSh := Lib.hid (HL.out.short _ (List.getElem_mem hkp))
    have HMm : Hid (t.parts[k] ∈ t.parts) := Lib.hid (List.getElem_mem hkp)
    obtain ⟨r,hr⟩ : ∃ r,t.parts[k] = r := ⟨_,rfl⟩
    rw [hr] at hrk HSt HTk HSh HMm
    have HRk := Lib.hid hrk
    clear hr hrk
    obtain ⟨t0,t1,t2,t3⟩ := H.out.tot.cells
    have HTn : Hid (∀ X,Below wz.heap.size wz X → X.heap[wz.heap.size]? = some (.cells #[.pointer (some ⟨g,k * 4 + 2,none⟩),.pointer (some ⟨g,k * 4 + 3,none⟩)] 168 (0,0)) → Calls Tryz.prog 111 #[.slice (some ⟨wz.heap.size,0,none⟩) 2 2] X fun e w' => ∃ E : Int,e = .returned (.int .i64 E) ∧ ((E = 0 ∧ KSt w w' h g p t (k + 1)) ∨ (E = 7 ∧ Iv.badP r = true ∧ Below w.heap.size w w' ∧ Tt.At w' (h + 1) 0 0 0 (.slice none 0 0)))) := Lib.hid fun X hX ho => by
     have H1 := H.out.below hX
     have lo := H1.lo
     refine (turn2 _ g wz.heap.size k _ r hkm HRk.out H1.blk ho (Nat.ne_of_gt H.out.blk.lt) HSh.out.2.2.1 HSh.out.2.2.2).mono ?_
     rintro e w' ⟨hUp,⟨hb,he,hB⟩ | ⟨hb,he⟩⟩
     ·
      refine ⟨0,he,.inl ⟨rfl,H1.hw,H1.lo,hUp.bel _ _ H1.bel (by have := H1.hw; omega),hUp.at (by omega) H1.tot,hUp.at (by omega) H1.res,by rw [← HSt.out]; exact hB,?_⟩⟩
      rw [HTk.out]
      intro x hx
      rcases List.mem_append.1 hx with hx | hx
      · exact H1.ok x hx
      ·
       obtain rfl := List.mem_singleton.1 hx
       exact hb
     · exact ⟨7,he,.inr ⟨rfl,hb,hUp.bel _ _ H1.bel (by have := H1.hw; omega),hUp.at (by omega) H1.res⟩⟩
    clear HSt HTk HRk
    have hkp1 : k ≤ 1000 := by omega
    go_wp2_with fail
    go_cut [6] (fun e wx => ∃ E : Int,e = .int .i64 E ∧ Hid ((E = 0 ∧ KSt w wx h g p t (k + 1)) ∨ (E = 7 ∧ Iv.badP r = true ∧ Below w.heap.size w wx ∧ Tt.At wx (h + 1) 0 0 0 (.slice none 0 0))))
    case first =>
     go_region_with (go_at_call 111; refine (HTn.out _ (by first | exact (Below.refl _ _).alloc (Nat.le_refl _) _ | exact ((Below.refl _ _).alloc (Nat.le_refl _) _).drew) (by first | exact heap_alloc_new wz _)).mono ?_; rintro e u ⟨E,rfl,hcs⟩; have HCs := Lib.hid hcs; clear hcs)
     all_goals (try go_wp2_with fail)
     all_goals go_meet
     all_goals exact ⟨_,rfl,HCs⟩
    case rest =>
     clear HTn H t0 t1 t2 t3
     obtain ⟨E,rfl,HCs⟩ := hcut
     rcases HCs.out with ⟨rfl,hK⟩ | ⟨rfl,hbd⟩
     ·
      have H := Lib.hid hK
      clear hK
      go_wp2_with fail
      go_roundw
      case rel => exact ⟨k + 1,by omega,by go_num,H⟩
      case measure => simp [intOf]; omega
     ·
      have H := Lib.hid hbd
      clear hbd
      have HP := Lib.hid (Iv.back_part HE.out.1 HE.out.2.1 HE.out.2.2 HMm.out H.out.1)
      obtain ⟨z0,z1,z2,z3⟩ := H.out.2.2.cells
      have f0 := H.out.2.2.frozen 0
      have f1 := H.out.2.2.frozen 1
      have f2 := H.out.2.2.frozen 2
      have f3 := H.out.2.2.frozen 3
      go_wp2_with fail
      exact bodyPost_ret (v := .tuple #[Tt.val 0 0 0 (.slice none 0 0),.int .i64 7]) (by simp [results,Tt.val,Tryz.results82,go_sem,z0,z1,z2,z3]) rfl ⟨_,by rw [HP.out.1,HP.out.2]; rfl,by rw [HP.out.2]; exact Pt.own_nil _ _,bset (bset (bset (bset H.out.2.1 (by have := HHw.out; omega) _ _) (by have := HHw.out; omega) _ _) (by have := HHw.out; omega) _ _) (by have := HHw.out; omega) _ _⟩
   ·
    obtain rfl : k = p := by omega
    have HTk : Hid (t.parts.take k = t.parts) := Lib.hid (List.take_of_length_le (by rw [HLn.out]; exact Nat.le_refl _))
    have HP := Lib.hid (Iv.back_ok HE.out.1 HE.out.2.1 HE.out.2.2 (fun x hx => H.out.ok x (by rw [HTk.out]; exact hx)))
    obtain ⟨t0,t1,t2,t3⟩ := H.out.tot.cells
    obtain ⟨z0,z1,z2,z3⟩ := H.out.res.cells
    have f0 := H.out.res.frozen 0
    have f1 := H.out.res.frozen 1
    have f2 := H.out.res.frozen 2
    have f3 := H.out.res.frozen 3
    have HBe := Lib.hid (And.intro H.out.bel (And.intro H.out.hw H.out.lo))
    have HBk : Hid (Pt.Block wz g (t.parts.map Iv.negP)) := Lib.hid (by
     have hb := H.out.blk
     unfold Iv.mixN at hb
     rw [HTk.out,List.drop_eq_nil_of_le (Nat.le_of_eq HLn.out.symm),List.append_nil] at hb
     exact hb)
    go_wp2_with fail
    refine bodyPost_ret (v := .tuple #[Tt.val (-t.net) (-t.tax) (-t.gross) (.slice (some ⟨g,0,none⟩) k k),.int .i64 0]) (by simp [results,Tt.val,Tryz.results82,go_sem,z0,z1,z2,z3]) rfl ⟨.slice (some ⟨g,0,none⟩) k k,by rw [HP.out.1,HP.out.2]; rfl,?_,bset (bset (bset (bset HBe.out.1 (by have := HBe.out.2; omega) _ _) (by have := HBe.out.2; omega) _ _) (by have := HBe.out.2; omega) _ _) (by have := HBe.out.2; omega) _ _⟩
    rw [HP.out.2]
    have hlo := HBe.out.2.2
    have hb : Pt.Block _ g (t.parts.map Iv.negP) := ((((HBk.out.far (b := h + 1) (by omega) 0 (.int .i64 (-t.net))).far (b := h + 1) (by omega) 1 (.int .i64 (-t.tax))).far (b := h + 1) (by omega) 2 (.int .i64 (-t.gross))).far (b := h + 1) (by omega) 3 (.slice (some ⟨g,0,none⟩) k k))
    have ho : Pt.Own _ w.heap.size (.slice (some ⟨g,0,none⟩) k k) (t.parts.map Iv.negP) := Pt.own_of_block hb (by have := HBe.out.2; omega) (by rw [List.length_map]; exact HLn.out) (by omega)
    exact ho
 ·
  have HP := Lib.hid (Iv.back_head (t := t) hbad)
  clear hbad
  obtain ⟨z0,z1,z2,z3⟩ := HU2.out.2.1.cells
  have f0 := HU2.out.2.1.frozen 0
  have f1 := HU2.out.2.1.frozen 1
  have f2 := HU2.out.2.1.frozen 2
  have f3 := HU2.out.2.1.frozen 3
  go_wp2_with fail
  exact bodyPost_ret (v := .tuple #[Tt.val 0 0 0 (.slice none 0 0),.int .i64 7]) (by simp [results,Tt.val,Tryz.results82,go_sem,z0,z1,z2,z3]) rfl ⟨_,by rw [HP.out.1,HP.out.2]; rfl,by rw [HP.out.2]; exact Pt.own_nil _ _,bset (bset (bset (bset HU2.out.1 (by have := HHw.out; omega) _ _) (by have := HHw.out; omega) _ _) (by have := HHw.out; omega) _ _) (by have := HHw.out; omega) _ _⟩
end Go.Proofs.YtjpfpojbalepeabGreat
namespace Go.Proofs.YtjpfpojbalepeabGreat
open Go.RowKit
open Mem
open Go.Sort (grow)
def Pd.marked (r : Pd.T) : Pd.T := ⟨r.ser,r.num,r.y,r.m,r.d,r.net,r.tax,r.gross,r.parts,r.ofS,r.ofN,true⟩
theorem Bl.Each.mark {w : World} {rs : List Pd.T} {ps : List Bl.Ps} (h : Bl.Each w rs ps) (k : Nat) (hk : k < rs.length) : Bl.Each w (rs.set k (Pd.marked rs[k])) (Bl.mark ps k) := by
 have hl : (rs.set k (Pd.marked rs[k])).length = (Bl.mark ps k).length := by rw [List.length_set,Bl.mark_len]; exact h.len
 refine ⟨hl,fun i hi => ?_⟩
 have hi' : i < rs.length := by rw [List.length_set] at hi; exact hi
 have hx := h.each i hi'
 rw [Bl.mark_get ps k i (h.len ▸ hi')]
 rw [List.getElem_set]
 by_cases q : k = i
 ·
  subst q
  rw [if_pos rfl,if_pos rfl]
  exact ⟨hx.ser,hx.num,hx.y,hx.m,hx.d,hx.net,hx.tax,hx.gross,hx.parts,hx.ofS,hx.ofN,rfl⟩
 ·
  rw [if_neg q,if_neg q]
  exact hx
set_option maxHeartbeats 4000000 in
theorem bil_mark (P : Nat → Prop) (s : Bl.St) (h : Bl.Sv) (k : Nat) (w : World) (hL : Bl.Lp P w h s) (hk : k < s.post.length) (hn : h.post.n ≤ 1000) :
  Calls Tryz.prog 99 #[h.val,.int .i64 k] w (Bl.KeepE P w ⟨s.tab,s.ser,Bl.mark s.post k,s.book,s.sess,s.next⟩) := by
 have HL := Lib.hid hL
 obtain ⟨rs,hP,hE,hpi⟩ := hL.post
 have HPi := Lib.hid hpi
 have hpl := hP.len
 have hel := hE.len
 have hkn : k < h.post.n := by omega
 have hkr : k < rs.length := by omega
 have hcap := hP.reach
 have hfit := hP.fits
 have HPs := Lib.hid hP
 have HEs := Lib.hid hE
 obtain ⟨U,hU,hB,k0,k1,hs⟩ := Bl.al2 w (.cells #[.slice h.tab.ao h.tab.n h.tab.cap,.slice h.ser.ao h.ser.n h.ser.cap,.slice h.post.ao h.post.n h.post.cap,.slice h.book.ao h.book.n h.book.cap,.slice h.sess.ao h.sess.n h.sess.cap,.int .i64 h.next] 40) (.cells #[.slice none 0 0,.slice none 0 0,.slice none 0 0,.slice none 0 0,.slice none 0 0,.int .i64 0] 40)
 have hA : Bl.At U w.heap.size h := k0
 have hZ : Bl.At U (w.heap.size + 1) Bl.zsv := k1
 have hmk := Pd.make h.post.n (by omega)
 have hblk0 := Pd.block_made U h.post.n
 have hbel0 : Below U.heap.size U (U.alloc (.cells (Pd.zeros h.post.n) 59)) := (Below.refl _ _).alloc (Nat.le_refl _) _
 obtain ⟨W1,hcp,hblk,hbel,hsz⟩ := Pd.copy (U.alloc (.cells (Pd.zeros h.post.n) 59)) U.heap.size [] h.post.n h.post.ao h.post.n h.post.cap rs (by rw [List.append_nil]; exact hblk0) hP.len ((hP.below (bchain hB hbel0)).seg)
 rw [List.length_nil,Nat.add_zero] at hcp
 rw [List.append_nil] at hblk
 have hb1 := hbel _ _ hbel0 (Nat.le_refl _)
 have hO := Pd.own_of_block hblk (Nat.le_refl _) hP.len (by omega)
 have hA0 := hA.below hbel0
 have hA1 := hA.below hb1
 have hrow := hblk.row k hkr
 have c11 := hrow.c11
 have z11 := hblk.frozen (k * 12 + 11)
 have hO2 := Pd.own_put hO k 11 hkr (by omega) (.bool true) (Pd.marked rs[k]) rfl
 obtain ⟨X,hX⟩ : ∃ X,W1.setCell ⟨U.heap.size,k * 12 + 11,none⟩ (.bool true) = X := ⟨_,rfl⟩
 have hb2 : Below U.heap.size U X := hX ▸ bset hb1 (Nat.le_refl _) _ _
 rw [hX] at hO2
 have hA2 := hA.below hb2
 have hZ2 := hZ.below hb2
 have zf := hA2.frozen 2
 have hA3 : Bl.At (X.setCell ⟨w.heap.size,2,none⟩ (.slice (some ⟨U.heap.size,0,none⟩) h.post.n h.post.n)) w.heap.size ⟨h.tab,h.ser,⟨some ⟨U.heap.size,0,none⟩,h.post.n,h.post.n⟩,h.book,h.sess,h.next⟩ := (Bl.set_heap hA2 2 _).trans rfl
 have hZ3 := hZ2.away (b := w.heap.size) (by omega) 2 (.slice (some ⟨U.heap.size,0,none⟩) h.post.n h.post.n)
 obtain ⟨x0,x1,x2,x3,x4,x5⟩ := hA.cells
 obtain ⟨t0,t1,t2,t3,t4,t5⟩ := hA0.cells
 obtain ⟨y0,y1,y2,y3,y4,y5⟩ := hA1.cells
 obtain ⟨u0,u1,u2,u3,u4,u5⟩ := hA2.cells
 have HB := Lib.hid hB
 have HB2 := Lib.hid hb2
 have HO2 := Lib.hid hO2
 have HZ3 := Lib.hid hZ3
 have HS := Lib.hid hs
 have HK := Lib.hid hkr
 have HPn := Lib.hid hpl
 clear k0 k1 hL hP hE hpi hA hA0 hA1 hA2 hZ hZ2 hO hO2 hb1 hb2 hbel hbel0 hblk0 hblk hB hrow hsz hs hpl hel
 unfold Bl.Sv.val Bl.sl
 go_enter Tryz.func99,Tryz.ntmps99
 go_wp2_with (first | ((with_reducible apply Bl.wpl_load hA3); rfl; rfl; rfl) | ((with_reducible apply Bl.wpl_put (h := ⟨h.tab,h.ser,⟨some ⟨U.heap.size,0,none⟩,h.post.n,h.post.n⟩,h.book,h.sess,h.next⟩) hZ3); rfl; rfl; rfl; rfl))
 have b : Below w.heap.size w (Bl.lay (X.setCell ⟨w.heap.size,2,none⟩ (.slice (some ⟨U.heap.size,0,none⟩) h.post.n h.post.n)) (w.heap.size + 1) ⟨h.tab,h.ser,⟨some ⟨U.heap.size,0,none⟩,h.post.n,h.post.n⟩,h.book,h.sess,h.next⟩) := Bl.below_lay (bset (bchain HB.out HB2.out) (Nat.le_refl _) _ _) (by omega) _
 refine bodyPost_ret (Bl.results1 Tryz.results99 rfl (HZ3.out.lay _)) rfl ⟨_,rfl,?_,b⟩
 have hl := (HL.out.below b).wide w
 have hk2 := (Kp.set (A := U.heap.size) (g := w.heap.size) X (by have := HS.out; omega) 2 (.slice (some ⟨U.heap.size,0,none⟩) h.post.n h.post.n)).trans (Bl.kp_lay _ (g := w.heap.size + 1) (by have := HS.out; omega) ⟨h.tab,h.ser,⟨some ⟨U.heap.size,0,none⟩,h.post.n,h.post.n⟩,h.book,h.sess,h.next⟩)
 have hsh : ∀ r ∈ rs.set k (Pd.marked (rs[k]'HK.out)),Pd.Short r := by
  intro r hr
  rcases List.mem_or_eq_of_mem_set hr with hr | rfl
  · exact HPs.out.short r hr
  · exact (show Pd.Short (rs[k]'HK.out) from HPs.out.short _ (List.getElem_mem HK.out))
 obtain ⟨ao2,cap2,e2,l2,i2⟩ := Pd.own_ls HO2.out hsh
 rw [List.length_set,← HPn.out] at e2 l2
 simp only [Value.slice.injEq] at e2
 obtain ⟨rfl,_,rfl⟩ := e2
 have l3 := l2.kp (inA_own i2) hk2
 refine ⟨hl.tab,hl.ser,⟨_,l3,(HEs.out.below b).mark k HK.out,?_⟩,hl.book,hl.sess,hl.next,hl.fit,hl.ptab,hl.pser,(inA_own i2).nw P (by have := HS.out; omega),hl.pbook,hl.psess⟩
 intro x hx
 rcases List.mem_or_eq_of_mem_set hx with hx | rfl
 · exact (HPi.out x hx).mono fun _ q => .inl q
 · exact (show InP P (rs[k]'HK.out).parts.ao (rs[k]'HK.out).parts.n from HPi.out _ (List.getElem_mem HK.out)).mono fun _ q => .inl q
theorem emptyB : ByteArray.empty.toList = [] := by decide +kernel
theorem Tt.infoT : (Tryz.prog.info? 57).map (·.size) = some 4 := by kernel_rfl
theorem Tt.ret {fn : Func} {p q : Tmp} (hf : fn.results = #[.cell p 57,.tmp q]) {tmps : Array Value} {w : World} {g : Nat} {N X G E : Int} {v : Value} (hp : tmps.getD p undef = .pointer (some ⟨g,0,none⟩)) (hq : tmps.getD q undef = .int .i64 E) (hA : Tt.At w g N X G v) : (results fn tmps).run Tryz.prog w = .ok (.tuple #[Tt.val N X G v,.int .i64 E]) w := by
 have hp' : tmps[p]?.getD undef = .pointer (some ⟨g,0,none⟩) := by simpa using hp
 have hq' : tmps[q]?.getD undef = .int .i64 E := by simpa using hq
 have e1 := run_loadVar_row (P := Tryz.prog) w g 57 57 #[.int .i64 N,.int .i64 X,.int .i64 G,v] (0,0) _ hA Tryz.underlying57 rfl (by rw [Tt.infoT]; rfl)
 simp [results,hf,hp',hq',asAddr,e1]
 rfl
theorem bset4 {w0 u : World} {g : Nat} (h : Below w0.heap.size w0 u) (hg : w0.heap.size ≤ g) (x0 x1 x2 x3 : Value) : Below w0.heap.size w0 ((((u.setCell ⟨g,0,none⟩ x0).setCell ⟨g,1,none⟩ x1).setCell ⟨g,2,none⟩ x2).setCell ⟨g,3,none⟩ x3) := bset (bset (bset (bset h hg _ _) hg _ _) hg _ _) hg _ _
theorem Pt.own_far1 {w : World} {B : Nat} {v : Value} {M : List Pt.T} (h : Pt.Own w B v M) {b : Nat} (hne : b < B) (o : Nat) (x : Value) : Pt.Own (w.setCell ⟨b,o,none⟩ x) B v M := by
 obtain ⟨h1,h2⟩ := h
 refine ⟨h1,?_⟩
 rcases h2 with h2 | ⟨g,cap,cur,h',hb,hg,h3⟩
 · exact .inl h2
 · exact .inr ⟨g,cap,cur,h',hb,by rw [heap_setCell_other w ⟨b,o,none⟩ g x (by show g ≠ b; omega)]; exact hg,h3⟩
theorem Pt.own_far4 {w : World} {B : Nat} {v : Value} {M : List Pt.T} (h : Pt.Own w B v M) {b : Nat} (hne : b < B) (x0 x1 x2 x3 : Value) : Pt.Own ((((w.setCell ⟨b,0,none⟩ x0).setCell ⟨b,1,none⟩ x1).setCell ⟨b,2,none⟩ x2).setCell ⟨b,3,none⟩ x3) B v M := Pt.own_far1 (Pt.own_far1 (Pt.own_far1 (Pt.own_far1 h hne _ _) hne _ _) hne _ _) hne _ _
def Bl.undoE (p : Bl.Ps) (y m d : Int) : Int := if p.back = true ∨ ¬ Bl.Own p then 12 else if Dt.rightB y m d = false ∨ Dt.days y m d < Dt.days p.y p.m p.d then 9 else Iv.backE p.tot
def Bl.undoT (p : Bl.Ps) (y m d : Int) : Iv.Tot := if Bl.undoE p y m d = 0 then Iv.back p.tot else Iv.Tot.zero
theorem Bl.undo_taken {p : Bl.Ps} {y m d : Int} (h : p.back = true ∨ ¬ Bl.Own p) : Bl.undoE p y m d = 12 ∧ Bl.undoT p y m d = Iv.Tot.zero := by
 have e : Bl.undoE p y m d = 12 := if_pos h
 exact ⟨e,by unfold Bl.undoT; rw [e]; rfl⟩
theorem Bl.undo_day {p : Bl.Ps} {y m d : Int} (h : ¬ (p.back = true ∨ ¬ Bl.Own p)) (k : Dt.rightB y m d = false ∨ Dt.days y m d < Dt.days p.y p.m p.d) : Bl.undoE p y m d = 9 ∧ Bl.undoT p y m d = Iv.Tot.zero := by
 have e : Bl.undoE p y m d = 9 := by
  unfold Bl.undoE
  rw [if_neg h,if_pos k]
 exact ⟨e,by unfold Bl.undoT; rw [e]; rfl⟩
theorem Bl.undo_go {p : Bl.Ps} {y m d : Int} (h : ¬ (p.back = true ∨ ¬ Bl.Own p)) (k : ¬ (Dt.rightB y m d = false ∨ Dt.days y m d < Dt.days p.y p.m p.d)) : Bl.undoE p y m d = Iv.backE p.tot ∧ Bl.undoT p y m d = Iv.backT p.tot := by
 have e : Bl.undoE p y m d = Iv.backE p.tot := by
  unfold Bl.undoE
  rw [if_neg h,if_neg k]
 exact ⟨e,by unfold Bl.undoT Iv.backT; rw [e]⟩
set_option maxHeartbeats 4000000 in
theorem bil_undo (r : Pd.T) (p : Bl.Ps) (y m d : Int) (w : World) (hI : Bl.IsP w r p) (hS : Pd.Short r) (hy : Fit y) (hm : Fit m) (hd : Fit d) (hR : Dt.rightB p.y p.m p.d = true) (hn : r.parts.n ≤ 1000) :
  Calls Tryz.prog 98 #[Pd.val r,dayV y m d] w (Tt.Ans w (Bl.undoE p y m d) (Bl.undoT p y m d)) := by
 have HI := Lib.hid hI
 have HS := Lib.hid hS
 have HF := Lib.hid (And.intro hy (And.intro hm hd))
 have HR := Lib.hid hR
 have HN := Lib.hid hn
 have ebk := hI.back
 have eoS := hI.ofS
 have eoN := hI.ofN
 obtain ⟨U,hU,hB,k0,k1,k2,hs⟩ := Bl.al3 w (Pd.block r) (.cells #[.int .i64 y,.int .i64 m,.int .i64 d] 24) (.cells #[.int .i64 0,.int .i64 0,.int .i64 0,.slice none 0 0] 57)
 have hC : Pd.C U w.heap.size r := by
  unfold Pd.C
  have e := fun k => cell_of_row U w.heap.size k _ _ _ k0
  refine ⟨?_,?_,?_,?_,?_,?_,?_,?_,?_,?_,?_,?_⟩
  all_goals
   rw [e]
   rfl
 have hT : Tt.At U (w.heap.size + 1 + 1) 0 0 0 (.slice none 0 0) := k2
 have d0 : U.cell? ⟨w.heap.size + 1,0,none⟩ = some (.int .i64 y) := by rw [cell_of_row U _ 0 _ _ _ k1]; rfl
 have d1 : U.cell? ⟨w.heap.size + 1,1,none⟩ = some (.int .i64 m) := by rw [cell_of_row U _ 1 _ _ _ k1]; rfl
 have d2 : U.cell? ⟨w.heap.size + 1,2,none⟩ = some (.int .i64 d) := by rw [cell_of_row U _ 2 _ _ _ k1]; rfl
 have HC := Lib.hid hC
 have HT := Lib.hid hT
 have HB := Lib.hid hB
 unfold Pd.C at hC
 obtain ⟨a0,a1,a2,a3,a4,a5,a6,a7,a8,a9,a10,a11⟩ := hC
 obtain ⟨t0,t1,t2,t3⟩ := hT.cells
 have f0 := hT.frozen 0
 have f1 := hT.frozen 1
 have f2 := hT.frozen 2
 have f3 := hT.frozen 3
 clear hI hS hy hm hd hR hn k0 k1 k2 hs hT hB
 unfold Pd.block at hU
 unfold Pd.val dayV
 by_cases hb : r.back = true
 ·
  have HE := Lib.hid (Bl.undo_taken (y := y) (m := m) (d := d) (p := p) (.inl (ebk ▸ hb)))
  rw [hb] at a11 hU ⊢
  clear hb ebk eoS eoN
  go_enter Tryz.func98,Tryz.ntmps98
  go_wp2_with fail
  exact bodyPost_ret (Tt.ret Tryz.results98 rfl rfl (HT.out.set4 0 0 0 (.slice none 0 0))) rfl ⟨_,by rw [HE.out.1,HE.out.2]; rfl,by rw [HE.out.2]; exact Pt.own_nil _ _,bset4 HB.out (by omega) _ _ _ _⟩
 ·
  have hb' : r.back = false := by
   cases q : r.back
   · rfl
   · exact absurd q hb
  have hpb : ¬ p.back = true := fun q => hb (ebk.trans q)
  rw [hb'] at a11 hU ⊢
  clear hb hb'
  by_cases h1 : r.ofS = .empty
  ·
   have q1 : (r.ofS.toList == []) = true := by rw [h1,emptyB]; rfl
   by_cases h2 : r.ofN = 0
   ·
    have q2 : (r.ofN == 0) = true := beq_iff_eq.2 h2
    have HOw : Hid (¬ (p.back = true ∨ ¬ Bl.Own p)) := Lib.hid fun q => q.elim hpb fun z => z ⟨eoS ▸ h1,eoN ▸ h2⟩
    clear hpb ebk eoS eoN h1 h2
    go_enter Tryz.func98,Tryz.ntmps98
    go_wp2_with fail
    clear hU
    refine (right_date y m d U U (Below.refl _ _) HF.out.1 HF.out.2.1 HF.out.2.2).mono ?_
    rintro e w1 ⟨rfl,b1⟩
    have HB1 := Lib.hid (bchain HB.out b1)
    have HT1 := Lib.hid (HT.out.below b1)
    have hC1 := HC.out.below b1
    have HC1 := Lib.hid hC1
    have e0 := ((bcell b1).1 _ _ (cell_lt d0)).trans d0
    have e1 := ((bcell b1).1 _ _ (cell_lt d1)).trans d1
    have e2 := ((bcell b1).1 _ _ (cell_lt d2)).trans d2
    unfold Pd.C at hC1
    clear a0 a1 a2 a3 a4 a5 a6 a7 a8 a9 a10 a11 d0 d1 d2 t0 t1 t2 t3 f0 f1 f2 f3 b1
    obtain ⟨a0,a1,a2,a3,a4,a5,a6,a7,a8,a9,a10,a11⟩ := hC1
    obtain ⟨t0,t1,t2,t3⟩ := HT1.out.cells
    have f0 := HT1.out.frozen 0
    have f1 := HT1.out.frozen 1
    have f2 := HT1.out.frozen 2
    have f3 := HT1.out.frozen 3
    cases hr : Dt.rightB y m d
    ·
     have HE := Lib.hid (Bl.undo_day HOw.out (.inl hr))
     clear hr
     go_wp2_with fail
     exact bodyPost_ret (Tt.ret Tryz.results98 rfl rfl (HT1.out.set4 0 0 0 (.slice none 0 0))) rfl ⟨_,by rw [HE.out.1,HE.out.2]; rfl,by rw [HE.out.2]; exact Pt.own_nil _ _,bset4 HB1.out (by omega) _ _ _ _⟩
    ·
     have HRt := Lib.hid hr
     have HAh := Lib.hid (ahead_both hr HR.out)
     clear hr
     go_wp2_with fail
     refine (before_date y m d r.y r.m r.d w1 w1 (Below.refl _ _) HF.out.1 HF.out.2.1 HF.out.2.2 HS.out.2.2.1 HS.out.2.2.2.1 HS.out.2.2.2.2.1).mono ?_
     rintro e w2 ⟨rfl,b2⟩
     have HB2 := Lib.hid (bchain HB1.out b2)
     have HT2 := Lib.hid (HT1.out.below b2)
     have hC2 := HC1.out.below b2
     unfold Pd.C at hC2
     clear a0 a1 a2 a3 a4 a5 a6 a7 a8 a9 a10 a11 e0 e1 e2 t0 t1 t2 t3 f0 f1 f2 f3 b2
     obtain ⟨a0,a1,a2,a3,a4,a5,a6,a7,a8,a9,a10,a11⟩ := hC2
     obtain ⟨t0,t1,t2,t3⟩ := HT2.out.cells
     have f0 := HT2.out.frozen 0
     have f1 := HT2.out.frozen 1
     have f2 := HT2.out.frozen 2
     have f3 := HT2.out.frozen 3
     rw [HI.out.y,HI.out.m,HI.out.d,HAh.out]
     by_cases hdy : Dt.days y m d < Dt.days p.y p.m p.d
     ·
      have HE := Lib.hid (Bl.undo_day HOw.out (.inr hdy))
      rw [decide_eq_true hdy]
      clear hdy
      go_wp2_with fail
      exact bodyPost_ret (Tt.ret Tryz.results98 rfl rfl (HT2.out.set4 0 0 0 (.slice none 0 0))) rfl ⟨_,by rw [HE.out.1,HE.out.2]; rfl,by rw [HE.out.2]; exact Pt.own_nil _ _,bset4 HB2.out (by omega) _ _ _ _⟩
     ·
      have HE := Lib.hid (Bl.undo_go (p := p) (y := y) (m := m) (d := d) HOw.out (fun q => q.elim (fun z => by rw [HRt.out] at z; cases z) hdy))
      rw [decide_eq_false hdy]
      clear hdy
      go_wp2_with fail
      have hPt := HI.out.parts.below HB2.out
      refine Calls.mono (R := Tt.Ans w2 (Iv.backE p.tot) (Iv.backT p.tot)) ?_ ?_
      ·
       rw [HI.out.net,HI.out.tax,HI.out.gross]
       exact inv_back p.tot r.parts.ao r.parts.n r.parts.cap w2 hPt (HI.out.net ▸ HS.out.2.2.2.2.2.1) (HI.out.tax ▸ HS.out.2.2.2.2.2.2.1) (HI.out.gross ▸ HS.out.2.2.2.2.2.2.2.1) HN.out
      clear hPt
      rintro e w3 ⟨v,rfl,o3,b3⟩
      have HO3 := Lib.hid o3
      have HB3 := Lib.hid (bchain HB2.out b3)
      have HT3 := Lib.hid (HT2.out.below b3)
      have HSz := Lib.hid HT2.out.lt
      clear a0 a1 a2 a3 a4 a5 a6 a7 a8 a9 a10 a11 t0 t1 t2 t3 f0 f1 f2 f3 b3 o3
      obtain ⟨t0,t1,t2,t3⟩ := HT3.out.cells
      have f0 := HT3.out.frozen 0
      have f1 := HT3.out.frozen 1
      have f2 := HT3.out.frozen 2
      have f3 := HT3.out.frozen 3
      obtain ⟨T,hT⟩ : ∃ T,Iv.backT p.tot = T := ⟨_,rfl⟩
      obtain ⟨E,hE⟩ : ∃ E,Iv.backE p.tot = E := ⟨_,rfl⟩
      rw [hT] at HO3 HE ⊢
      rw [hE] at HE ⊢
      clear hT hE
      have hv1 : ∃ vo vn vc,v = .slice vo vn vc := by
       rcases HO3.out.2 with ⟨z,_⟩ | ⟨g',cap',cur,z,_⟩
       · exact ⟨_,_,_,z⟩
       · exact ⟨_,_,_,z⟩
      obtain ⟨vo,vn,vc,rfl⟩ := hv1
      unfold Tt.val
      go_wp2_with fail
      refine bodyPost_ret (Tt.ret Tryz.results98 rfl rfl (HT3.out.set4 T.net T.tax T.gross (.slice vo vn vc))) rfl ⟨_,by rw [HE.out.1,HE.out.2],?_,bset4 HB3.out (by omega) _ _ _ _⟩
      rw [HE.out.2]
      exact Pt.own_mono (Pt.own_far4 HO3.out HSz.out _ _ _ _) HB2.out.size
   ·
    have q2 : (r.ofN == 0) = false := beq_eq_false_iff_ne.2 h2
    have HE := Lib.hid (Bl.undo_taken (y := y) (m := m) (d := d) (p := p) (.inr fun z => h2 (eoN.trans z.2)))
    clear hpb ebk eoS eoN h1 h2
    go_enter Tryz.func98,Tryz.ntmps98
    go_wp2_with fail
    exact bodyPost_ret (Tt.ret Tryz.results98 rfl rfl (HT.out.set4 0 0 0 (.slice none 0 0))) rfl ⟨_,by rw [HE.out.1,HE.out.2]; rfl,by rw [HE.out.2]; exact Pt.own_nil _ _,bset4 HB.out (by omega) _ _ _ _⟩
  ·
   have q1 : (r.ofS.toList == []) = false := beq_eq_false_iff_ne.2 fun e => h1 (Vt.cat_ext (e.trans emptyB.symm))
   have HE := Lib.hid (Bl.undo_taken (y := y) (m := m) (d := d) (p := p) (.inr fun z => h1 (eoS.trans z.1)))
   clear hpb ebk eoS eoN h1
   go_enter Tryz.func98,Tryz.ntmps98
   go_wp2_with fail
   exact bodyPost_ret (Tt.ret Tryz.results98 rfl rfl (HT.out.set4 0 0 0 (.slice none 0 0))) rfl ⟨_,by rw [HE.out.1,HE.out.2]; rfl,by rw [HE.out.2]; exact Pt.own_nil _ _,bset4 HB.out (by omega) _ _ _ _⟩
end Go.Proofs.YtjpfpojbalepeabGreat
