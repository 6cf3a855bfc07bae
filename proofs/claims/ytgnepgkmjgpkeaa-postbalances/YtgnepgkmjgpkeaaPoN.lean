/- CONTRACTS OF PACKAGE post: opened. -/
import Derived.Test.YtgnepgkmjgpkeaaPoT
import Derived.Test.YtgnepgkmjgpkeaaPoK
set_option maxRecDepth 100000
set_option linter.unusedVariables false
namespace Go.Proofs.Ytgnepgkmjgpkeaa
open Go.RowKit
open Mem
open Go.Sort (grow)

theorem Po.one_acct {bs ls : List Ba.T} (hS : Po.Sorted bs) : ∀ x ∈ bs ++ Po.news bs ls, ∀ y ∈ bs ++ Po.news bs ls, x.acct = y.acct → x = y := by
  intro x hx y hy e
  rcases List.mem_append.1 hx with h | h
  · rcases List.mem_append.1 hy with k | k
    · obtain ⟨p1, _⟩ := Po.look hS h rfl
      obtain ⟨p2, _⟩ := Po.look hS k e.symm
      rw [← p1, ← p2]
    · have h1 := (Po.has_iff hS y.acct).2 ⟨x, h, e⟩
      rw [(Po.mem_news.1 k).2.1] at h1
      cases h1
  · rcases List.mem_append.1 hy with k | k
    · have h1 := (Po.has_iff hS x.acct).2 ⟨y, k, e.symm⟩
      rw [(Po.mem_news.1 h).2.1] at h1
      cases h1
    · exact eq_of e (by rw [(Po.mem_news.1 h).1, (Po.mem_news.1 k).1])
theorem Po.opened_rows {bs ls : List Ba.T} {D : Array Ba.T} (hS : Po.Sorted bs) (hp : D.toList.Perm (bs ++ Po.news bs ls)) (hs : ∀ i j, i < j → j < D.size → Po.lt D[j]!.acct D[i]!.acct = false) : Po.Opened bs ls (Lib.compactUpTo D D.size) := by
  have hmem : ∀ i, i < D.size → D[i]! ∈ bs ++ Po.news bs ls := fun i hi => by
    rw [← hp.mem_iff, getElem!_pos D i hi]
    simp
  obtain ⟨h1, h2⟩ := Po.compact_spec D hs (fun i j hi hj e => Po.one_acct hS _ (hmem i hi) _ (hmem j hj) e) D.size (Nat.le_refl _)
  refine Po.opened_of hS h1 fun x => ?_
  rw [h2 x, ← hp.mem_iff]
  constructor
  · rintro ⟨i, hi, rfl⟩
    rw [getElem!_pos D i hi]
    simp
  · intro hx
    obtain ⟨i, hi, e⟩ := List.getElem_of_mem hx
    have hi' : i < D.size := by simpa using hi
    exact ⟨i, hi', by rw [getElem!_pos D i hi']; simpa using e⟩
theorem Po.news_short {bs : List Ba.T} : ∀ {ls : List Ba.T}, (∀ r ∈ ls, Ba.Short r) → ∀ r ∈ Po.news bs ls, Ba.Short r
  | [], _, r, h => by cases h
  | x :: l, hs, r, h => by
    unfold Po.news at h
    split at h
    · exact Po.news_short (fun y hy => hs y (by simp [hy])) r h
    · rcases List.mem_cons.1 h with rfl | h
      · exact ⟨(hs x (by simp)).1, ⟨by show (-9223372036854775808 : Int) ≤ 0; omega, by show (0 : Int) ≤ 9223372036854775807; omega⟩⟩
      · exact Po.news_short (fun y hy => hs y (by simp [hy])) r h
theorem own_cap_len {w : World} {B n cap : Nat} {ao : Option Addr} {M : List Ba.T} (h : Ba.Own w B (.slice ao n cap) M) : n = M.length := (own_reach h).1
set_option maxHeartbeats 8000000 in
theorem post_opened (bs ls : List Ba.T) (ao bo : Option Addr) (n ca k0 cb : Nat) (w : World) (hB : Ba.Ls w ao n ca bs) (hL : Ba.Ls w bo k0 cb ls) (hS : Po.Sorted bs) (hn : n ≤ 1000) (hk0 : k0 ≤ 1000) :
    Calls Try.prog 23 #[.slice ao n ca, .slice bo k0 cb] w fun e w' => ∃ (v : Value) (M : List Ba.T), e = .returned v ∧ Ba.Own w' w.heap.size v M ∧ Po.Opened bs ls M ∧ (∀ r ∈ M, Ba.Short r) ∧ M.length ≤ 2000 ∧ Below w.heap.size w w' := by
  have HBs := Lib.hid hB
  have HL := Lib.hid hL
  have HN := Lib.hid hB.len
  have HLn := Lib.hid hL.len
  have HS := Lib.hid hS
  have hca := hB.reach
  have hna := hB.fits
  have hcb := hL.reach
  have hfb := hL.fits
  have hmk := Ba.make n (by omega)
  have hblk0 := Ba.block_made w n
  have hbel0 : Below w.heap.size w (w.alloc (.cells (Ba.zeros n) 33)) := (Below.refl _ _).alloc (Nat.le_refl _) _
  obtain ⟨W1, hcp, hblk, hbel, hsz⟩ := Ba.copy (w.alloc (.cells (Ba.zeros n) 33)) w.heap.size [] n ao n ca bs (by rw [List.append_nil]; exact hblk0) hB.len ((hB.below hbel0).seg)
  rw [List.length_nil, Nat.add_zero] at hcp
  rw [List.append_nil] at hblk
  have HB1 := Lib.hid (hbel _ _ hbel0 (Nat.le_refl _))
  have HO1 : Hid (Ba.Own W1 w.heap.size (.slice (some ⟨w.heap.size, 0, none⟩) n n) (bs ++ Po.news bs (ls.take 0))) := Lib.hid (by
    rw [List.take_zero, Po.news, List.append_nil]
    exact Ba.own_of_block hblk (Nat.le_refl _) hB.len (by omega))
  clear hB hL hS hblk0 hbel0 hblk hbel hsz
  go_enter Try.func23, Try.ntmps23
  go_wp2_with fail
  clear hcp hmk
  go_loopw [5, 7, 16] (fun t _ i wr => ∃ (k : Nat) (vo : Option Addr) (q vc : Nat), k ≤ k0 ∧ i = .int .i64 k ∧ t = .slice vo q vc ∧ Hid (Below w.heap.size w wr) ∧ Hid (Ba.Own wr w.heap.size (.slice vo q vc) (bs ++ Po.news bs (ls.take k)))) (fun _ _ i _ => k0 - (intOf i).toNat)
  case atStart => exact ⟨0, _, n, n, by omega, rfl, rfl, HB1, HO1⟩
  case round =>
    clear HB1 HO1
    rename World => wz
    obtain ⟨k, vo, q, vc, hk, rfl, rfl, HB, HO⟩ := hrel
    by_cases hlt : k < k0
    · obtain ⟨lb, loff, rfl⟩ := HL.out.at (by omega)
      have hkl : k < ls.length := HLn.out ▸ hlt
      have hrow := (HL.out.row k hkl).below HB.out
      have HSt := Lib.hid (Po.news_step bs ls k hkl)
      have HLe : Hid ((bs ++ Po.news bs (ls.take k)).length ≤ 2000) := Lib.hid (by
        rw [List.length_append]
        have h1 := Po.news_len bs (ls.take k)
        rw [List.length_take] at h1
        have h2 := HN.out
        omega)
      obtain ⟨x, hx⟩ : ∃ x, ls[k] = x := ⟨_, rfl⟩
      rw [hx] at hrow HSt
      clear hx
      obtain ⟨r0, r1⟩ := hrow
      obtain ⟨W, hW, hbW, hA⟩ := Ba.boxed1 wz x
      have HBW := Lib.hid (bchain HB.out hbW)
      have HOW := Lib.hid (Ba.own_below HO.out hbW)
      unfold Ba.C at hA
      obtain ⟨a0, a1⟩ := hA
      clear hbW
      go_wp2_with fail
      refine (post_has bs x.acct ao n ca W (HBs.out.below HBW.out) HS.out).mono ?_
      rintro e w2 ⟨rfl, hw2⟩
      have hw3 := hw2.symm
      clear hw2
      subst hw3
      clear hW
      cases hh : Po.has x.acct bs
      · rw [hh, if_neg (by simp)] at HSt
        have hsz2 : w.heap.size ≤ W.heap.size := HBW.out.size
        clear hh
        go_wp2_with (at_builtin; go_must (refine Ba.wpList_append _ rfl (.tmp 25) (.tmp 29) rfl w.heap.size (.slice vo q vc) (bs ++ Po.news bs (ls.take k)) rfl (Ba.own_alloc HOW.out _) (some ⟨W.heap.size, 0, none⟩) 1 1 [⟨x.acct, 0⟩] rfl rfl (fun h => by cases h) (Ba.seg_block (heap_alloc_new W _)) (by have := HLe.out; omega) (by simp; omega) ?_))
        intro v1 w3 o1 gr1 _
        have HB3 : Hid (Below w.heap.size w w3) := Lib.hid ((below_box HBW.out _).grown gr1 (by simp; omega) (Ba.own_ge HOW.out))
        try rw [List.append_assoc] at o1
        rw [← HSt.out] at o1
        have HO3 := Lib.hid o1
        obtain ⟨va, q2, vc2, hv1⟩ : ∃ va q2 vc2, v1 = .slice va q2 vc2 := by
          rcases o1.2 with ⟨h', _⟩ | ⟨g', cap', cur, h', _⟩
          · exact ⟨_, _, _, h'⟩
          · exact ⟨_, _, _, h'⟩
        subst hv1
        clear gr1 o1 hsz2
        go_wp2_with fail
        go_roundw
        case rel => exact ⟨k + 1, va, q2, vc2, by omega, by go_num, rfl, HB3, HO3⟩
        case measure => simp [intOf]; omega
      · rw [hh, if_pos rfl, List.append_nil] at HSt
        have HO3 : Hid (Ba.Own W w.heap.size (.slice vo q vc) (bs ++ Po.news bs (ls.take (k + 1)))) := Lib.hid (by rw [HSt.out]; exact HOW.out)
        clear hh
        go_wp2_with fail
        go_roundw
        case rel => exact ⟨k + 1, vo, q, vc, by omega, by go_num, rfl, HBW, HO3⟩
        case measure => simp [intOf]; omega
    · obtain rfl : k = k0 := by omega
      have HO3 : Hid (Ba.Own wz w.heap.size (.slice vo q vc) (bs ++ Po.news bs ls)) := Lib.hid (by have h := HO.out; rw [List.take_of_length_le (Nat.le_of_eq HLn.out.symm)] at h; exact h)
      have HQ := Lib.hid (own_cap_len HO3.out)
      have HLe : Hid ((bs ++ Po.news bs ls).length ≤ 2000) := Lib.hid (by
        rw [List.length_append]
        have h1 := Po.news_len bs ls
        have h2 := HN.out
        have h3 := HLn.out
        omega)
      have HSh : Hid (∀ r ∈ bs ++ Po.news bs ls, Ba.Short r) := Lib.hid (by
        intro r hr
        rcases List.mem_append.1 hr with h | h
        · exact HBs.out.short r h
        · exact Po.news_short HL.out.short r h)
      have hq : q ≤ 2000 := by have h1 := HQ.out; have h2 := HLe.out; omega
      obtain ⟨h0, hh0⟩ : ∃ h0, w.heap.size = h0 := ⟨_, rfl⟩
      have HH0 := Lib.hid hh0
      rw [hh0] at HO3 HB
      rw [hh0]
      clear hh0 HO
      go_wp2_with fail
      refine (rows_sort _ h0 q vc vo w _ HB.out HO3.out HQ.out (by omega)).mono ?_
      rintro e w2 ⟨rfl, D, o2, hp, hD, hs, b2⟩
      have HO4 := Lib.hid o2
      have HB4 := Lib.hid b2
      have HOp := Lib.hid (Po.opened_rows HS.out hp hs)
      have HD : Hid (q = D.size) := Lib.hid (by rw [hD]; exact HQ.out)
      have HMe : Hid (∀ r ∈ Lib.compactUpTo D D.size, Ba.Short r) := Lib.hid (by
        intro r hr
        unfold Lib.compactUpTo at hr
        obtain ⟨i, hi, rfl⟩ := List.mem_map.1 hr
        have hi' : i < D.size := by
          have := (List.mem_filter.1 hi).1
          rwa [List.mem_range] at this
        apply HSh.out
        rw [← hp.mem_iff, getElem!_pos D i hi']
        simp)
      have HLc : Hid ((Lib.compactUpTo D D.size).length ≤ 2000) := Lib.hid (by
        unfold Lib.compactUpTo
        rw [List.length_map]
        have h1 := List.length_filter_le (Lib.keeps D) (List.range D.size)
        rw [List.length_range] at h1
        have := HD.out
        omega)
      clear o2 b2 hp hD hs HB HO3 HSh
      go_wp2_with fail
      refine (rows_compact D h0 q vc vo w _ HB4.out HO4.out HD.out (by omega)).mono ?_
      rintro e w3 ⟨k3, rfl, o3, b3⟩
      have HO5 := Lib.hid o3
      have HB5 := Lib.hid b3
      clear o3 b3 HO4 HB4
      go_wp2_with fail
      go_ret
      exact ⟨_, _, rfl, by rw [HH0.out]; exact HO5.out, HOp.out, HMe.out, HLc.out, by rw [HH0.out]; exact HB5.out⟩
end Go.Proofs.Ytgnepgkmjgpkeaa
