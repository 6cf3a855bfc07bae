/- PLAIN LEAN (and calls on bytes that were there ahead): what DiskKeeps holds of its own file. -/
import Derived.Test.YtegniklofhopeaaYDpDkI
set_option maxRecDepth 100000
set_option linter.unusedVariables false
namespace Go.Proofs.Ytegniklofhopeaa
open Go.RowKit
open Mem Dk
theorem Ints.old {w u : World} {ao : Option Addr} {n cap : Nat} {zs : List Int} (h : Ints w ao n cap zs) (k : Below w.heap.size w u) : Ints u ao n cap zs := h.keep (UpdQ.of (Q := fun _ => False) k) fun _ _ _ z => z
theorem Ints.old_at {w : World} {ao : Option Addr} {n cap : Nat} {zs : List Int} (h : Ints w ao n cap zs) (hx : zs ≠ []) (ad : Addr) (e : ao = some ad) : ad.block < w.heap.size := by
 rcases h.seg with k | ⟨b,off,k,hc⟩
 · exact absurd k hx
 ·
  rw [k] at e
  cases e
  exact cell_lt (hc 0 (List.length_pos_iff.2 hx))
theorem s_crash_old {P : Nat → Prop} {w0 w : World} {p : Nat} {d : D} (h : S P w0 w p d) {ao : Option Addr} {n cap : Nat} {zs : List Int} (hI : Ints w0 ao n cap zs) :
  Calls Try.prog 15 #[.pointer (some ⟨p,0,none⟩),.slice ao n cap] w fun e w' => e = .returned (.tuple #[]) ∧ S P w0 w' p (crashD d zs) ∧ UpdQ P w w' :=
 s_crash h ao n cap zs (hI.old h.bel) fun hne ad e z => by
  have h1 := hI.old_at hne ad e
  have h2 := h.sub _ z
  omega
namespace Dk
def no : ByteArray := ⟨#[111,119,110]⟩
theorem no_ok : nameOk no = true := by decide
theorem no_list : no.toList = [111,119,110] := by kernel_rfl
theorem is_no {s : ByteArray} (h : (s.toList == [111,119,110]) = false) : s ≠ no := by
 rintro rfl
 rw [no_list] at h
 cases h
section
variable {d : D} {s t : ByteArray} {zs : List UInt8} {i : Nat}
theorem app_total (h : Ok d) : total (appD d s zs).2.fs ≤ total d.fs + zs.length := by
 unfold appD
 split
 · exact Nat.le_add_right _ _
 split
 · exact Nat.le_add_right _ _
 split
 · exact Nat.le_add_right _ _
 split
 · exact Nat.le_add_right _ _
 have h1 := total_put (f := ⟨s,(own s d.fs).bs ++ zs,(own s d.fs).kept⟩) h.sorted
 simp only [List.length_append] at h1
 show total (put _ _) ≤ _
 omega
theorem sync_total (h : Ok d) : total (syncD d s).2.fs ≤ total d.fs := by
 unfold syncD
 split
 · exact Nat.le_refl _
 split
 · exact Nat.le_refl _
 split
 · exact Nat.le_refl _
 have h1 := total_put (f := ⟨s,(own s d.fs).bs,(own s d.fs).bs.length⟩) h.sorted
 simp only at h1
 show total (put _ _) ≤ _
 omega
theorem rem_total : total (remD d s).2.fs ≤ total d.fs := by
 unfold remD
 split
 · exact Nat.le_refl _
 split
 · exact Nat.le_refl _
 split
 · exact Nat.le_refl _
 exact total_del_le _ _
theorem ren_total (h : Ok d) : total (renD d s t).2.fs ≤ total d.fs := by
 unfold renD
 split
 · exact Nat.le_refl _
 split
 · exact Nat.le_refl _
 split
 · exact Nat.le_refl _
 rename_i k
 split
 · exact Nat.le_refl _
 have hh : has s d.fs = true := by simpa using k
 have h1 := total_put (f := ⟨t,(own s d.fs).bs,(own s d.fs).kept⟩) (del_sorted (s := s) h.sorted)
 have h2 := total_del (spot_lt h.sorted hh)
 have h3 := own_at h.sorted hh
 rw [← h3] at h2
 simp only at h1
 show total (put _ _) ≤ _
 omega
structure Keep (d : D) (ks : List UInt8) (i : Nat) : Prop where
 free : Free d
 len : d.fs.length ≤ i + 1
 has : has no d.fs = true
 own : own no d.fs = ⟨no,ks,ks.length⟩
 tot : total d.fs ≤ 300 * (i + 1)
variable {ks : List UInt8}
theorem Keep.more (h : Keep d ks i) : Keep d ks (i + 1) := ⟨h.free,by have := h.len; omega,h.has,h.own,by have := h.tot; omega⟩
theorem Keep.app (h : Keep d ks i) (k : Ok d) (hs : s ≠ no) (hz : zs.length ≤ 300) : Keep (appD d s zs).2 ks (i + 1) := by
 have e := app_other k hs zs
 exact ⟨app_free h.free,by have := app_len (d := d) (s := s) (zs := zs); have := h.len; omega,e.1.trans h.has,e.2.trans h.own,by have := app_total (s := s) (zs := zs) k; have := h.tot; omega⟩
theorem Keep.sync (h : Keep d ks i) (k : Ok d) (hs : s ≠ no) : Keep (syncD d s).2 ks (i + 1) := by
 have e := sync_other k hs
 exact ⟨sync_free h.free,by have := sync_len (s := s) k; have := h.len; omega,e.1.trans h.has,e.2.trans h.own,by have := sync_total (s := s) k; have := h.tot; omega⟩
theorem Keep.rem (h : Keep d ks i) (k : Ok d) (hs : s ≠ no) : Keep (remD d s).2 ks (i + 1) := by
 have e := rem_other k hs
 exact ⟨rem_free h.free,by have := rem_len (d := d) (s := s); have := h.len; omega,e.1.trans h.has,e.2.trans h.own,by have := rem_total (d := d) (s := s); have := h.tot; omega⟩
theorem Keep.ren (h : Keep d ks i) (k : Ok d) (hs : s ≠ no) (ht : t ≠ no) : Keep (renD d s t).2 ks (i + 1) := by
 have e := ren_other k hs ht
 exact ⟨ren_free h.free,by have := ren_len (s := s) (t := t) k; have := h.len; omega,e.1.trans h.has,e.2.trans h.own,by have := ren_total (s := s) (t := t) k; have := h.tot; omega⟩
theorem keep_first (hk : ks.length ≤ 300) : Keep (syncD (appD Dk.new no ks).2 no).2 ks 0 ∧ (appD Dk.new no ks).1 = 0 ∧ (syncD (appD Dk.new no ks).2 no).1 = 0 := by
 have e1 := run_a1 no no_ok ks (by omega) (-1) (by decide)
 have e2 := run_s no ks 0 (-1) (by decide)
 rw [show Dk.new = ⟨[],false,-1⟩ from rfl,e1]
 simp only [dec_free]
 rw [e2]
 refine ⟨⟨⟨rfl,rfl⟩,Nat.le_refl _,one_has _ _ _,one_own _ _ _,?_⟩,trivial,rfl⟩
 show ks.length + 0 ≤ 300 * (0 + 1)
 omega
theorem keep_last (h : Keep d ks i) (k : Ok d) (hi : i ≤ 30) (hz : zs.length ≤ 300) : (appD d no zs).1 = 0 ∧ has no (appD d no zs).2.fs = true ∧ own no (appD d no zs).2.fs = ⟨no,ks ++ zs,ks.length⟩ := by
 have h1 := h.tot
 obtain ⟨f1,f2⟩ := h.free
 have e : appD d no zs = (0,with' d (put ⟨no,(own no d.fs).bs ++ zs,(own no d.fs).kept⟩ d.fs)) := by
  unfold appD
  rw [if_neg (by rw [f1]; exact Bool.false_ne_true),if_neg (by rw [no_ok]; exact fun z => by cases z),if_neg (by omega),if_neg (by rw [f2]; decide)]
 rw [e,h.own]
 have h2 := own_eq (put_sorted (f := ⟨no,ks ++ zs,ks.length⟩) k.sorted) ((mem_put k.sorted _).2 (.inl rfl)) rfl
 exact ⟨rfl,h2.1,h2.2⟩
theorem crash_own (k : Ok d) {l : List Int} (k' : Ok (crashD d l)) (hh : has s d.fs = true) : ∃ q,has s (crashD d l).fs = true ∧ own s (crashD d l).fs = tear (own s d.fs) q := by
 have h1 := spot_lt k.sorted hh
 have h2 := own_at k.sorted hh
 have h3 : (crashD d l).fs[spot s d.fs]? = some (tear d.fs[spot s d.fs] (pick l (spot s d.fs))) := by
  unfold crashD
  simp only [List.getElem?_mapIdx]
  rw [List.getElem?_eq_getElem h1]
  rfl
 refine ⟨pick l (spot s d.fs),?_⟩
 rw [h2]
 exact own_eq k'.sorted (List.mem_of_getElem? h3) ((tear_name _ _).trans (spot_name k.sorted hh))
theorem tear_told (f : F) (q : Nat) (h : f.kept ≤ f.bs.length) : ∃ k,k ≤ f.bs.length - f.kept ∧ (tear f q).bs.length = f.kept + k ∧ (tear f q).bs.take f.kept = f.bs.take f.kept ∧ ∀ i,i < k → (tear f q).bs[f.kept + i]? = f.bs[f.kept + i]? ∨ (i + 1 = k ∧ ∃ y,f.bs[f.kept + i]? = some y ∧ (tear f q).bs[f.kept + i]? = some (y ^^^ 255)) := by
 have hl := tear_len f h q
 generalize hk : q % (f.bs.length - f.kept + 1) = k at hl
 by_cases hn : 0 < q % (f.bs.length - f.kept + 1) ∧ q / (f.bs.length - f.kept + 1) % 2 = 1
 ·
  rw [tear_yes h hn]
  simp only [hk]
  have hlen : (f.bs.take (f.kept + k)).length = f.kept + k := by rw [List.length_take]; omega
  have hk0 : 0 < k := hk ▸ hn.1
  refine ⟨k,by omega,?_,?_,fun i hi => ?_⟩
  ·
   unfold flip
   rw [List.length_set,hlen]
  ·
   unfold flip
   rw [hlen,List.take_set_of_le (by omega),List.take_take,Nat.min_eq_left (by omega)]
  ·
   unfold flip
   rw [hlen]
   by_cases e : i + 1 = k
   ·
    refine .inr ⟨e,f.bs[f.kept + i]'(by omega),List.getElem?_eq_getElem _,?_⟩
    have e2 : f.kept + k - 1 = f.kept + i := by omega
    rw [e2,List.getElem?_set_self (by rw [hlen]; omega)]
    have e3 : (f.bs.take (f.kept + k)).getLast? = some (f.bs[f.kept + i]'(by omega)) := by
     rw [List.getLast?_eq_getElem?,hlen,e2,List.getElem?_take_of_lt (by omega),List.getElem?_eq_getElem (by omega)]
    rw [e3]
    rfl
   ·
    refine .inl ?_
    rw [List.getElem?_set_ne (by omega),List.getElem?_take_of_lt (by omega)]
 ·
  rw [tear_no h hn]
  simp only [hk]
  refine ⟨k,by omega,by rw [List.length_take]; omega,by rw [List.take_take,Nat.min_eq_left (by omega)],fun i hi => .inl ?_⟩
  rw [List.getElem?_take_of_lt (by omega)]
theorem tear_again (b : List UInt8) (q : Nat) : tear ⟨s,b,b.length⟩ q = ⟨s,b,b.length⟩ := by
 have e : b.length - b.length + 1 = 1 := by omega
 have hn : ¬ (0 < q % (b.length - b.length + 1) ∧ q / (b.length - b.length + 1) % 2 = 1) := by
  rw [e,Nat.mod_one]
  exact fun z => absurd z.1 (Nat.lt_irrefl _)
 rw [tear_no (f := ⟨s,b,b.length⟩) (Nat.le_refl _) hn]
 simp only [e,Nat.mod_one,Nat.add_zero,List.take_length]
end
end Dk
end Go.Proofs.Ytegniklofhopeaa
