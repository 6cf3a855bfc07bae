/- THE DOCUMENT's OWN DISK: make, of a name that stands ahead of another one. -/
import Derived.Test.YtegniklofhopeaaYDpDrB
import Derived.Deep.RegionLaw
set_option maxRecDepth 100000
set_option linter.unusedVariables false
namespace Go.Proofs.Ytegniklofhopeaa
open Go.RowKit
open Mem Dk
section
variable {P : Nat → Prop} {w : World} {p : Nat} {d : D} {v : Sl} {rs : List Rq.T}
set_option maxHeartbeats 8000000 in
theorem dr_make_mid (h : Dr.At P w p d v rs) (s : ByteArray) (hs : s.size ≤ 24) (hh : has s d.fs = false) (few : d.fs.length < 1000) (hsp : Dk.spot s d.fs < d.fs.length) :
  Calls Try.prog 45 #[.pointer (some ⟨p,0,none⟩),.string s] w fun e w' => e = .returned (.int .i64 (Dk.spot s d.fs : Nat)) ∧ (∃ v' rs',Dr.At (nw P w) w' p ⟨ins ⟨s,[],0⟩ d.fs,d.off,d.left⟩ v' rs' ∧ ∀ g,(sl v').ownBlock = some g → w.heap.size ≤ g) ∧ UpdQ (fun b => b = p) w w' := by
 have HL := Lib.hid h.ls
 have HA := Lib.hid h
 have HF : Hid (∀ (y : World) (v3 : Value),Below w.heap.size w y → Rq.Own y w.heap.size v3 ([] ++ rs.take (Dk.spot s d.fs) ++ [⟨s,⟨none,0,0⟩,0⟩] ++ rs.drop (Dk.spot s d.fs)) → (∃ v' rs',Dr.At (nw P w) (y.setCell ⟨p,0,none⟩ v3) p ⟨ins ⟨s,[],0⟩ d.fs,d.off,d.left⟩ v' rs' ∧ ∀ g,(sl v').ownBlock = some g → w.heap.size ≤ g) ∧ UpdQ (fun b => b = p) w (y.setCell ⟨p,0,none⟩ v3)) := Lib.hid fun y v3 b o => by
  obtain ⟨v',_,a,u,hv⟩ := h.relay b o (Dr.all_ins h) Dr.mem_ins (ins_ok h.ok hs hh) (by
   have := put_len ⟨s,[],0⟩ d.fs
   rw [show put ⟨s,[],0⟩ d.fs = ins ⟨s,[],0⟩ d.fs from if_neg (by rw [show has _ d.fs = false from hh]; exact Bool.false_ne_true)] at this
   omega)
  exact ⟨⟨_,_,a,hv⟩,u⟩
 obtain ⟨c0,c1,c2⟩ := h.box.cells
 have hlt := h.box.lt
 have f0 := h.box.frozen 0
 obtain ⟨n1,n2,n3,n4⟩ := h.n
 have HN := Lib.hid n4
 have HN1 := Lib.hid n1
 obtain ⟨ao,n,cap⟩ := v
 simp only at c0 n2 n3 HN HN1
 have hfew : n < 1000 := by
  have h2 := HN1.out
  omega
 have lx : Hid (∀ u,Below w.heap.size w u → Below w.heap.size w u ∧ u.cell? ⟨p,0,none⟩ = some (.slice ao n cap) ∧ u.frozen? ⟨p,0,none⟩ = false ∧ p < u.heap.size) := Lib.hid fun u b => ⟨b,((bcell b).1 _ _ hlt).trans c0,((bcell b).2 _ _ hlt).trans f0,Nat.lt_of_lt_of_le hlt b.size⟩
 have lb1 : Hid (∀ o,Below w.heap.size w (w.alloc o).drew) := Lib.hid fun o => ((Below.refl _ _).alloc (Nat.le_refl _) _).drew
 have lb2 : Hid (∀ o o',Below w.heap.size w ((w.alloc o).alloc o').drew) := Lib.hid fun o o' => (below_box ((Below.refl _ _).alloc (Nat.le_refl _) _) _).drew
 clear h n1 n4 c1 c2
 go_enter Try.func45,Try.ntmps45
 go_wp2
 go_loop [5] (fun i => ∃ k : Nat,k ≤ n ∧ i = .int .i64 k ∧ Hid (k + Dk.spot s (d.fs.drop k) = Dk.spot s d.fs)) (fun i => n - (intOf i).toNat)
 case atStart => exact ⟨0,by omega,rfl,Lib.hid (Nat.zero_add _)⟩
 case round =>
  obtain ⟨k,hk,rfl,HK⟩ := hrel
  by_cases hmore : ∃ hkf : k < d.fs.length,lt d.fs[k].name s = true
  ·
   obtain ⟨hkf,hless⟩ := hmore
   have hlt : k < n := by
    have := HN1.out
    omega
   obtain ⟨b,off,rfl⟩ := HL.out.at (by omega)
   have hkr : k < rs.length := HN.out ▸ hlt
   have hrow := HL.out.row k hkr
   have HSt := Lib.hid (Dr.spot_step s d.fs k hkf)
   rw [if_pos hless] at HSt
   rw [← HA.out.each.name k hkr] at hless
   obtain ⟨r,hr⟩ : ∃ r,rs[k] = r := ⟨_,rfl⟩
   rw [hr] at hrow hless
   clear hr
   obtain ⟨g0,g1,g2⟩ := hrow
   unfold lt at hless
   clear f0
   go_wp2
   go_round
   case rel => exact ⟨k + 1,by omega,by go_num,Lib.hid (by rw [← HK.out,HSt.out]; omega)⟩
   case measure => simp [intOf]; omega
  ·
   have HSp : Hid (Dk.spot s d.fs = k) := Lib.hid (by
    rw [← HK.out]
    by_cases hkf : k < d.fs.length
    ·
     rw [Dr.spot_step s d.fs k hkf,if_neg fun z => hmore ⟨hkf,z⟩]
     rfl
    ·
     rw [Dr.spot_nil s (by omega)]
     rfl)
   rw [HSp.out] at HF
   obtain ⟨hs1,hR1⟩ := HL.out.to k hk
   obtain ⟨ao2,cap2,hs2,hR2⟩ := HL.out.from k hk
   obtain ⟨j,hj⟩ : ∃ j,n - k = j := ⟨_,rfl⟩
   rw [hj] at hs2 hR2
   have HR1 := Lib.hid hR1
   have HR2 := Lib.hid hR2
   have hjb : j ≤ 1000 := by omega
   have hkb : k ≤ 1000 := by omega
   have HTst : Hid (k < n → ∃ b off nm,ao = some ⟨b,off,none⟩ ∧ w.cell? ⟨b,off + k * 3,none⟩ = some (.string nm) ∧ Op.bytesLess nm.toList s.toList = false) := Lib.hid fun hkn => by
    obtain ⟨b,off,rfl⟩ := HL.out.at (by omega)
    have hkr : k < rs.length := HN.out ▸ hkn
    have hkf : k < d.fs.length := HN1.out ▸ hkn
    refine ⟨b,off,_,rfl,(HL.out.row k hkr).c0,?_⟩
    rw [HA.out.each.name k hkr]
    have := fun z => hmore ⟨hkf,z⟩
    unfold lt at this
    exact Bool.eq_false_iff.2 this
   clear hR1 hR2 hj hmore HK HA
   have hkn : k < n := by
    have e1 := HSp.out
    have e2 := HN1.out
    rw [e1] at hsp
    omega
   clear hsp
   obtain ⟨b,off,nm,rfl,q0,q1⟩ := HTst.out hkn
   clear HTst
   go_wp2
   go_region_law (first | (refine Rq.step_append y2 w b2 (by rfl) (.tmp 39) (.tmp 45) (by rfl) v2 ([] ++ rs.take k ++ [⟨s,⟨none,0,0⟩,0⟩]) (by rfl) o2 ao2 j cap2 (rs.drop k) (by rfl) HR2.out.len HR2.out.nil (HR2.out.seg.below b2) (by simp; omega) ?_; intro v3 y3 o3 gr3 b3; have s3 := lx.out _ b3; (obtain ⟨_,t30,t31,t32⟩ := s3); (obtain ⟨xa,xn,xc,rfl⟩ := Dr.own_slice o3)) | (refine Rq.step_append (y1.alloc (.cells #[.string s,.slice none 0 0,.int .i64 0] 69)) w (below_box b1 _) (by rfl) (.tmp 35) (.tmp 38) (by rfl) v1 ([] ++ rs.take k) (by rfl) (Rq.own_alloc o1 _) (some ⟨y1.heap.size,0,none⟩) 1 1 [⟨s,⟨none,0,0⟩,0⟩] (by rfl) rfl (fun h => by cases h) (Rq.seg_block (heap_alloc_new y1 _)) (by simp; omega) ?_; intro v2 y2 o2 gr2 b2; have s2 := lx.out _ b2; (obtain ⟨_,t20,t21,t22⟩ := s2)) | (refine Rq.step_append y1 w b1 (by rfl) (.tmp 35) (.tmp 38) (by rfl) v1 ([] ++ rs.take k) (by rfl) o1 (some ⟨_,0,none⟩) 1 1 [⟨s,⟨none,0,0⟩,0⟩] (by rfl) rfl (fun h => by cases h) (Rq.seg_block F) (by simp; omega) ?_; intro v2 y2 o2 gr2 b2; have s2 := lx.out _ b2; (obtain ⟨_,t20,t21,t22⟩ := s2)) | (refine Rq.step_append (w.alloc (.cells #[] 69)).drew w (by first | exact lb1.out _ | exact lb2.out _ _) (by rfl) (.tmp 28) (.tmp 34) (by rfl) (.slice (some ⟨w.heap.size,0,none⟩) 0 0) [] (by rfl) (Rq.own_empty (Nat.le_refl _) (heap_alloc_new w _)) (some ⟨b,off,none⟩) k cap (rs.take k) (by rfl) HR1.out.len HR1.out.nil (HR1.out.seg.below (by first | exact lb1.out _ | exact lb2.out _ _)) (by simp; omega) ?_; intro v1 y1 o1 gr1 b1; have s1 := lx.out _ b1; (obtain ⟨_,t10,t11,t12⟩ := s1)) | (refine Rq.step_append ((w.alloc (.cells #[] 69)).alloc (.cells #[.string s,.slice none 0 0,.int .i64 0] 69)).drew w (by first | exact lb1.out _ | exact lb2.out _ _) (by rfl) (.tmp 28) (.tmp 34) (by rfl) (.slice (some ⟨w.heap.size,0,none⟩) 0 0) [] (by rfl) (Rq.own_empty (Nat.le_refl _) (heap_old (heap_alloc_new w _))) (some ⟨b,off,none⟩) k cap (rs.take k) (by rfl) HR1.out.len HR1.out.nil (HR1.out.seg.below (by first | exact lb1.out _ | exact lb2.out _ _)) (by simp; omega) ?_; intro v1 y1 o1 gr1 b1; have s1 := lx.out _ b1; (obtain ⟨_,t10,t11,t12⟩ := s1); have F : y1.heap[w.heap.size + 1]? = some (Rq.block ⟨s,⟨none,0,0⟩,0⟩) := blk_keep gr1 (heap_next w _ _) (by simp [Value.ownBlock])) | (refine Rq.step_append ((w.alloc (.cells #[.string s,.slice none 0 0,.int .i64 0] 69)).alloc (.cells #[] 69)).drew w (by first | exact lb1.out _ | exact lb2.out _ _) (by rfl) (.tmp 28) (.tmp 34) (by rfl) (.slice (some ⟨w.heap.size + 1,0,none⟩) 0 0) [] (by rfl) (Rq.own_empty (Nat.le_succ _) (heap_next w _ _)) (some ⟨b,off,none⟩) k cap (rs.take k) (by rfl) HR1.out.len HR1.out.nil (HR1.out.seg.below (by first | exact lb1.out _ | exact lb2.out _ _)) (by simp; omega) ?_; intro v1 y1 o1 gr1 b1; have s1 := lx.out _ b1; (obtain ⟨_,t10,t11,t12⟩ := s1); have F : y1.heap[w.heap.size]? = some (Rq.block ⟨s,⟨none,0,0⟩,0⟩) := blk_keep gr1 (heap_old (heap_alloc_new w _)) (by simp [Value.ownBlock])) | fail)
   all_goals
    go_wp2
    go_ret
    obtain ⟨a,u⟩ := HF.out _ _ b3 o3
    exact ⟨by rw [HSp.out]; rfl,a,u⟩
end
end Go.Proofs.Ytegniklofhopeaa
