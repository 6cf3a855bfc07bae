/- impostref1.Flag, impostref16.PutLetter. (By genrlp.py.) -/
import Derived.Test.YtagjbjppddbalaaZLt4
import Derived.Test.YtagjbjppddbalaaYLtRefRdt
import Derived.Deep.RegionHeld3
set_option maxRecDepth 100000
set_option linter.unusedVariables false
namespace Go.Proofs.Ytagjbjppddbalaa.Lr
open Go.RowKit
open Mem Pk Wl
theorem ref_flag (bs : List UInt8) (x : Bool) (ao : Option Addr) (m cap : Nat) (w : World) (hL : By.Ls w ao m cap bs) (hm : m ≤ 1000000000000) :
  Calls Try.prog 34 #[.slice ao m cap,.bool x] w fun e w' => (∃ sv,e = .returned sv ∧ By.Own w' w.heap.size sv (bs ++ flB x)) ∧ Below w.heap.size w w' := by
 have f0 : Fit 0 := ⟨by omega,by omega⟩
 have f1 : Fit 1 := ⟨by omega,by omega⟩
 have HL := Lib.hid hL
 clear hL
 cases x
 ·
  go_enter Try.func34,Try.ntmps34
  go_wp2_with fail
  refine (ref_num bs 0 f0 ao m cap w HL.out hm).mono ?_
  rintro e u' ⟨⟨sv,rfl,o⟩,b⟩
  have HO := Lib.hid o
  have HB := Lib.hid b
  clear o b
  go_wp2_with fail
  go_ret
  exact ⟨⟨_,rfl,HO.out⟩,HB.out⟩
 ·
  go_enter Try.func34,Try.ntmps34
  go_wp2_with fail
  refine (ref_num bs 1 f1 ao m cap w HL.out hm).mono ?_
  rintro e u' ⟨⟨sv,rfl,o⟩,b⟩
  have HO := Lib.hid o
  have HB := Lib.hid b
  clear o b
  go_wp2_with fail
  go_ret
  exact ⟨⟨_,rfl,HO.out⟩,HB.out⟩
theorem numsB_snoc (l : List Int) (x : Int) : numsB l ++ vb (zz x) = numsB (l ++ [x]) := by
 rw [numsB_app]
 simp [numsB,nm]
set_option maxHeartbeats 4000000 in
theorem rl_put (r : Lr.T) (l : List Et.T) (w : World) (hl : Et.Ls w r.ents.ao r.ents.n r.ents.cap l) (hs : Lr.Short r) (hn : r.ents.n ≤ 20) (hd : r.data.size ≤ 10000000) (hx : ∀ x ∈ l,x.data.size ≤ 10000000) :
  Calls Try.prog 16 #[Lr.val r] w (PutE w (m r l).bytes) := by
 obtain ⟨f0,f1,f2,f3,f4,f5,f6,f7,f8,f9,-⟩ := hs
 have HL := Lib.hid hl
 have hcap := hl.fits
 have hreach := hl.reach
 have HN := Lib.hid hl.len
 have HXs := Lib.hid hx
 have HBX := Lib.hid (Lr.below_own w r)
 have HC := Lib.hid (Lr.c_box w r)
 obtain ⟨X,hX⟩ : ∃ X,Lr.box w r = X := ⟨_,rfl⟩
 rw [hX] at HBX HC
 unfold Lr.box at hX
 have HX := Lib.hid hX
 clear hX hl hx
 have hwX : w.heap.size < X.heap.size := cell_lt HC.out.1
 have lx : ∀ u,Below X.heap.size X u → Below X.heap.size X u ∧ u.cell? ⟨w.heap.size,0,none⟩ = some (.int .i64 r.kind) ∧ u.cell? ⟨w.heap.size,1,none⟩ = some (.int .i64 r.frm) ∧ u.cell? ⟨w.heap.size,2,none⟩ = some (.int .i64 r.to) ∧ u.cell? ⟨w.heap.size,3,none⟩ = some (.int .i64 r.term) ∧ u.cell? ⟨w.heap.size,4,none⟩ = some (.int .i64 r.idx) ∧ u.cell? ⟨w.heap.size,5,none⟩ = some (.int .i64 r.bt) ∧ u.cell? ⟨w.heap.size,6,none⟩ = some (.int .i64 r.com) ∧ u.cell? ⟨w.heap.size,7,none⟩ = some (.int .i64 r.mem) ∧ u.cell? ⟨w.heap.size,8,none⟩ = some (.int .i64 r.off) ∧ u.cell? ⟨w.heap.size,9,none⟩ = some (.int .i64 r.size) ∧ u.cell? ⟨w.heap.size,10,none⟩ = some (.bool r.yes) ∧ u.cell? ⟨w.heap.size,11,none⟩ = some (.string r.data) ∧ u.cell? ⟨w.heap.size,12,none⟩ = some (.slice r.ents.ao r.ents.n r.ents.cap) := fun u h => by
  obtain ⟨a0,a1,a2,a3,a4,a5,a6,a7,a8,a9,a10,a11,a12⟩ := HC.out
  exact ⟨h,((bcell h).1 _ _ hwX).trans a0,((bcell h).1 _ _ hwX).trans a1,((bcell h).1 _ _ hwX).trans a2,((bcell h).1 _ _ hwX).trans a3,((bcell h).1 _ _ hwX).trans a4,((bcell h).1 _ _ hwX).trans a5,((bcell h).1 _ _ hwX).trans a6,((bcell h).1 _ _ hwX).trans a7,((bcell h).1 _ _ hwX).trans a8,((bcell h).1 _ _ hwX).trans a9,((bcell h).1 _ _ hwX).trans a10,((bcell h).1 _ _ hwX).trans a11,((bcell h).1 _ _ hwX).trans a12⟩
 have HTe : Hid ((m r l).bytes = numsB [r.kind,r.frm,r.to,r.term,r.idx,r.bt,r.com,r.mem,r.off,r.size] ++ flB r.yes ++ vb (zz r.data.size) ++ txt r.data ++ vb (zz (r.ents.n : Int)) ++ entsB l) := Lib.hid (by
  unfold M.bytes M.ten m Wl.tx Wl.nm
  rw [HN.out]
  simp only [List.append_assoc])
 have fn : Fit (r.ents.n : Int) := ⟨by omega,by omega⟩
 obtain ⟨a0,a1,a2,a3,a4,a5,a6,a7,a8,a9,a10,a11,a12⟩ := HC.out
 unfold Lr.val
 go_enter Try.func16,Try.ntmps16
 go_wp2_with fail
 rw [HX.out]
 have L0 : By.Ls X none 0 0 (numsB []) := By.ls_nil X
 have w0 : Below X.heap.size X X := Below.refl _ _
 go_region_held3 (fun u => Below X.heap.size X u ∧ u.cell? ⟨w.heap.size,0,none⟩ = some (.int .i64 r.kind) ∧ u.cell? ⟨w.heap.size,1,none⟩ = some (.int .i64 r.frm) ∧ u.cell? ⟨w.heap.size,2,none⟩ = some (.int .i64 r.to) ∧ u.cell? ⟨w.heap.size,3,none⟩ = some (.int .i64 r.term) ∧ u.cell? ⟨w.heap.size,4,none⟩ = some (.int .i64 r.idx) ∧ u.cell? ⟨w.heap.size,5,none⟩ = some (.int .i64 r.bt) ∧ u.cell? ⟨w.heap.size,6,none⟩ = some (.int .i64 r.com) ∧ u.cell? ⟨w.heap.size,7,none⟩ = some (.int .i64 r.mem) ∧ u.cell? ⟨w.heap.size,8,none⟩ = some (.int .i64 r.off) ∧ u.cell? ⟨w.heap.size,9,none⟩ = some (.int .i64 r.size) ∧ u.cell? ⟨w.heap.size,10,none⟩ = some (.bool r.yes) ∧ u.cell? ⟨w.heap.size,11,none⟩ = some (.string r.data) ∧ u.cell? ⟨w.heap.size,12,none⟩ = some (.slice r.ents.ao r.ents.n r.ents.cap)) (first | with_reducible assumption | (apply lx; repeat (first | with_reducible assumption | with_reducible apply Below.drew | with_reducible exact Below.refl _ _)) | fail) (first | (go_at_call 32; refine (ref_num (numsB [r.kind,r.frm,r.to]) r.term f3 u3 n3 k3 _ (by first | with_reducible exact L3 | exact L3.below (Below.refl _ _).drew) (by omega)).mono ?_; rintro e y4 ⟨⟨sv,rfl,o4⟩,b4⟩; rw [show numsB [r.kind,r.frm,r.to] ++ vb (zz r.term) = numsB [r.kind,r.frm,r.to,r.term] from numsB_snoc [r.kind,r.frm,r.to] _] at o4; have s4 := lx _ (bchain (by repeat (first | with_reducible assumption | with_reducible apply Below.drew | with_reducible exact Below.refl _ _)) b4); have w4 := s4.1; have K4 := Lib.hid o4; obtain ⟨u4,k4,rfl,L4,-⟩ := By.own_ls o4; obtain ⟨n4,hn4⟩ : ∃ n,(numsB [r.kind,r.frm,r.to,r.term]).length = n := ⟨_,rfl⟩; rw [hn4] at L4 K4 ⊢; have h4 : n4 ≤ 40 := (by rw [← hn4]; exact numsB_len [r.kind,r.frm,r.to,r.term]); clear hn4 o4 b4) | (go_at_call 32; refine (ref_num (numsB [r.kind,r.frm]) r.to f2 u2 n2 k2 _ (by first | with_reducible exact L2 | exact L2.below (Below.refl _ _).drew) (by omega)).mono ?_; rintro e y3 ⟨⟨sv,rfl,o3⟩,b3⟩; rw [show numsB [r.kind,r.frm] ++ vb (zz r.to) = numsB [r.kind,r.frm,r.to] from numsB_snoc [r.kind,r.frm] _] at o3; have s3 := lx _ (bchain (by repeat (first | with_reducible assumption | with_reducible apply Below.drew | with_reducible exact Below.refl _ _)) b3); have w3 := s3.1; have K3 := Lib.hid o3; obtain ⟨u3,k3,rfl,L3,-⟩ := By.own_ls o3; obtain ⟨n3,hn3⟩ : ∃ n,(numsB [r.kind,r.frm,r.to]).length = n := ⟨_,rfl⟩; rw [hn3] at L3 K3 ⊢; have h3 : n3 ≤ 30 := (by rw [← hn3]; exact numsB_len [r.kind,r.frm,r.to]); clear hn3 o3 b3) | (go_at_call 32; refine (ref_num (numsB [r.kind]) r.frm f1 u1 n1 k1 _ (by first | with_reducible exact L1 | exact L1.below (Below.refl _ _).drew) (by omega)).mono ?_; rintro e y2 ⟨⟨sv,rfl,o2⟩,b2⟩; rw [show numsB [r.kind] ++ vb (zz r.frm) = numsB [r.kind,r.frm] from numsB_snoc [r.kind] _] at o2; have s2 := lx _ (bchain (by repeat (first | with_reducible assumption | with_reducible apply Below.drew | with_reducible exact Below.refl _ _)) b2); have w2 := s2.1; have K2 := Lib.hid o2; obtain ⟨u2,k2,rfl,L2,-⟩ := By.own_ls o2; obtain ⟨n2,hn2⟩ : ∃ n,(numsB [r.kind,r.frm]).length = n := ⟨_,rfl⟩; rw [hn2] at L2 K2 ⊢; have h2 : n2 ≤ 20 := (by rw [← hn2]; exact numsB_len [r.kind,r.frm]); clear hn2 o2 b2) | (go_at_call 32; refine (ref_num (numsB []) r.kind f0 none 0 0 _ (by first | with_reducible exact L0 | exact L0.below (Below.refl _ _).drew | exact By.ls_nil _) (by omega)).mono ?_; rintro e y1 ⟨⟨sv,rfl,o1⟩,b1⟩; rw [show numsB [] ++ vb (zz r.kind) = numsB [r.kind] from numsB_snoc [] _] at o1; have s1 := lx _ (bchain (by repeat (first | with_reducible assumption | with_reducible apply Below.drew | with_reducible exact Below.refl _ _)) b1); have w1 := s1.1; have K1 := Lib.hid o1; obtain ⟨u1,k1,rfl,L1,-⟩ := By.own_ls o1; obtain ⟨n1,hn1⟩ : ∃ n,(numsB [r.kind]).length = n := ⟨_,rfl⟩; rw [hn1] at L1 K1 ⊢; have h1 : n1 ≤ 10 := (by rw [← hn1]; exact numsB_len [r.kind]); clear hn1 o1 b1) | fail)
 clear s1 s2 s3 s4 L0 L1 L2 L3 K1 K2 K3 K4 a0 a1 a2 a3 a4 a5 a6 a7 a8 a9 a10 a11 a12
 go_wp2_with fail
 go_region_held3 (fun u => Below X.heap.size X u ∧ u.cell? ⟨w.heap.size,0,none⟩ = some (.int .i64 r.kind) ∧ u.cell? ⟨w.heap.size,1,none⟩ = some (.int .i64 r.frm) ∧ u.cell? ⟨w.heap.size,2,none⟩ = some (.int .i64 r.to) ∧ u.cell? ⟨w.heap.size,3,none⟩ = some (.int .i64 r.term) ∧ u.cell? ⟨w.heap.size,4,none⟩ = some (.int .i64 r.idx) ∧ u.cell? ⟨w.heap.size,5,none⟩ = some (.int .i64 r.bt) ∧ u.cell? ⟨w.heap.size,6,none⟩ = some (.int .i64 r.com) ∧ u.cell? ⟨w.heap.size,7,none⟩ = some (.int .i64 r.mem) ∧ u.cell? ⟨w.heap.size,8,none⟩ = some (.int .i64 r.off) ∧ u.cell? ⟨w.heap.size,9,none⟩ = some (.int .i64 r.size) ∧ u.cell? ⟨w.heap.size,10,none⟩ = some (.bool r.yes) ∧ u.cell? ⟨w.heap.size,11,none⟩ = some (.string r.data) ∧ u.cell? ⟨w.heap.size,12,none⟩ = some (.slice r.ents.ao r.ents.n r.ents.cap)) (first | with_reducible assumption | (apply lx; repeat (first | with_reducible assumption | with_reducible apply Below.drew | with_reducible exact Below.refl _ _)) | fail) (first | (go_at_call 32; refine (ref_num (numsB [r.kind,r.frm,r.to,r.term,r.idx,r.bt]) r.com f6 u6 n6 k6 _ (by first | with_reducible exact L6 | exact L6.below (Below.refl _ _).drew) (by omega)).mono ?_; rintro e y7 ⟨⟨sv,rfl,o7⟩,b7⟩; rw [show numsB [r.kind,r.frm,r.to,r.term,r.idx,r.bt] ++ vb (zz r.com) = numsB [r.kind,r.frm,r.to,r.term,r.idx,r.bt,r.com] from numsB_snoc [r.kind,r.frm,r.to,r.term,r.idx,r.bt] _] at o7; have s7 := lx _ (bchain (by repeat (first | with_reducible assumption | with_reducible apply Below.drew | with_reducible exact Below.refl _ _)) b7); have w7 := s7.1; have K7 := Lib.hid o7; obtain ⟨u7,k7,rfl,L7,-⟩ := By.own_ls o7; obtain ⟨n7,hn7⟩ : ∃ n,(numsB [r.kind,r.frm,r.to,r.term,r.idx,r.bt,r.com]).length = n := ⟨_,rfl⟩; rw [hn7] at L7 K7 ⊢; have h7 : n7 ≤ 70 := (by rw [← hn7]; exact numsB_len [r.kind,r.frm,r.to,r.term,r.idx,r.bt,r.com]); clear hn7 o7 b7) | (go_at_call 32; refine (ref_num (numsB [r.kind,r.frm,r.to,r.term,r.idx]) r.bt f5 u5 n5 k5 _ (by first | with_reducible exact L5 | exact L5.below (Below.refl _ _).drew) (by omega)).mono ?_; rintro e y6 ⟨⟨sv,rfl,o6⟩,b6⟩; rw [show numsB [r.kind,r.frm,r.to,r.term,r.idx] ++ vb (zz r.bt) = numsB [r.kind,r.frm,r.to,r.term,r.idx,r.bt] from numsB_snoc [r.kind,r.frm,r.to,r.term,r.idx] _] at o6; have s6 := lx _ (bchain (by repeat (first | with_reducible assumption | with_reducible apply Below.drew | with_reducible exact Below.refl _ _)) b6); have w6 := s6.1; have K6 := Lib.hid o6; obtain ⟨u6,k6,rfl,L6,-⟩ := By.own_ls o6; obtain ⟨n6,hn6⟩ : ∃ n,(numsB [r.kind,r.frm,r.to,r.term,r.idx,r.bt]).length = n := ⟨_,rfl⟩; rw [hn6] at L6 K6 ⊢; have h6 : n6 ≤ 60 := (by rw [← hn6]; exact numsB_len [r.kind,r.frm,r.to,r.term,r.idx,r.bt]); clear hn6 o6 b6) | (go_at_call 32; refine (ref_num (numsB [r.kind,r.frm,r.to,r.term]) r.idx f4 u4 n4 k4 _ (by first | with_reducible exact L4 | exact L4.below (Below.refl _ _).drew) (by omega)).mono ?_; rintro e y5 ⟨⟨sv,rfl,o5⟩,b5⟩; rw [show numsB [r.kind,r.frm,r.to,r.term] ++ vb (zz r.idx) = numsB [r.kind,r.frm,r.to,r.term,r.idx] from numsB_snoc [r.kind,r.frm,r.to,r.term] _] at o5; have s5 := lx _ (bchain (by repeat (first | with_reducible assumption | with_reducible apply Below.drew | with_reducible exact Below.refl _ _)) b5); have w5 := s5.1; have K5 := Lib.hid o5; obtain ⟨u5,k5,rfl,L5,-⟩ := By.own_ls o5; obtain ⟨n5,hn5⟩ : ∃ n,(numsB [r.kind,r.frm,r.to,r.term,r.idx]).length = n := ⟨_,rfl⟩; rw [hn5] at L5 K5 ⊢; have h5 : n5 ≤ 50 := (by rw [← hn5]; exact numsB_len [r.kind,r.frm,r.to,r.term,r.idx]); clear hn5 o5 b5) | fail)
 clear s5 s6 s7 L4 L5 L6 K5 K6 K7
 go_wp2_with fail
 go_region_held3 (fun u => Below X.heap.size X u ∧ u.cell? ⟨w.heap.size,0,none⟩ = some (.int .i64 r.kind) ∧ u.cell? ⟨w.heap.size,1,none⟩ = some (.int .i64 r.frm) ∧ u.cell? ⟨w.heap.size,2,none⟩ = some (.int .i64 r.to) ∧ u.cell? ⟨w.heap.size,3,none⟩ = some (.int .i64 r.term) ∧ u.cell? ⟨w.heap.size,4,none⟩ = some (.int .i64 r.idx) ∧ u.cell? ⟨w.heap.size,5,none⟩ = some (.int .i64 r.bt) ∧ u.cell? ⟨w.heap.size,6,none⟩ = some (.int .i64 r.com) ∧ u.cell? ⟨w.heap.size,7,none⟩ = some (.int .i64 r.mem) ∧ u.cell? ⟨w.heap.size,8,none⟩ = some (.int .i64 r.off) ∧ u.cell? ⟨w.heap.size,9,none⟩ = some (.int .i64 r.size) ∧ u.cell? ⟨w.heap.size,10,none⟩ = some (.bool r.yes) ∧ u.cell? ⟨w.heap.size,11,none⟩ = some (.string r.data) ∧ u.cell? ⟨w.heap.size,12,none⟩ = some (.slice r.ents.ao r.ents.n r.ents.cap)) (first | with_reducible assumption | (apply lx; repeat (first | with_reducible assumption | with_reducible apply Below.drew | with_reducible exact Below.refl _ _)) | fail) (first | (go_at_call 32; refine (ref_num (numsB [r.kind,r.frm,r.to,r.term,r.idx,r.bt,r.com,r.mem,r.off]) r.size f9 u9 n9 k9 _ (by first | with_reducible exact L9 | exact L9.below (Below.refl _ _).drew) (by omega)).mono ?_; rintro e y10 ⟨⟨sv,rfl,o10⟩,b10⟩; rw [show numsB [r.kind,r.frm,r.to,r.term,r.idx,r.bt,r.com,r.mem,r.off] ++ vb (zz r.size) = numsB [r.kind,r.frm,r.to,r.term,r.idx,r.bt,r.com,r.mem,r.off,r.size] from numsB_snoc [r.kind,r.frm,r.to,r.term,r.idx,r.bt,r.com,r.mem,r.off] _] at o10; have s10 := lx _ (bchain (by repeat (first | with_reducible assumption | with_reducible apply Below.drew | with_reducible exact Below.refl _ _)) b10); have w10 := s10.1; have K10 := Lib.hid o10; obtain ⟨u10,k10,rfl,L10,-⟩ := By.own_ls o10; obtain ⟨n10,hn10⟩ : ∃ n,(numsB [r.kind,r.frm,r.to,r.term,r.idx,r.bt,r.com,r.mem,r.off,r.size]).length = n := ⟨_,rfl⟩; rw [hn10] at L10 K10 ⊢; have h10 : n10 ≤ 100 := (by rw [← hn10]; exact numsB_len [r.kind,r.frm,r.to,r.term,r.idx,r.bt,r.com,r.mem,r.off,r.size]); clear hn10 o10 b10) | (go_at_call 32; refine (ref_num (numsB [r.kind,r.frm,r.to,r.term,r.idx,r.bt,r.com,r.mem]) r.off f8 u8 n8 k8 _ (by first | with_reducible exact L8 | exact L8.below (Below.refl _ _).drew) (by omega)).mono ?_; rintro e y9 ⟨⟨sv,rfl,o9⟩,b9⟩; rw [show numsB [r.kind,r.frm,r.to,r.term,r.idx,r.bt,r.com,r.mem] ++ vb (zz r.off) = numsB [r.kind,r.frm,r.to,r.term,r.idx,r.bt,r.com,r.mem,r.off] from numsB_snoc [r.kind,r.frm,r.to,r.term,r.idx,r.bt,r.com,r.mem] _] at o9; have s9 := lx _ (bchain (by repeat (first | with_reducible assumption | with_reducible apply Below.drew | with_reducible exact Below.refl _ _)) b9); have w9 := s9.1; have K9 := Lib.hid o9; obtain ⟨u9,k9,rfl,L9,-⟩ := By.own_ls o9; obtain ⟨n9,hn9⟩ : ∃ n,(numsB [r.kind,r.frm,r.to,r.term,r.idx,r.bt,r.com,r.mem,r.off]).length = n := ⟨_,rfl⟩; rw [hn9] at L9 K9 ⊢; have h9 : n9 ≤ 90 := (by rw [← hn9]; exact numsB_len [r.kind,r.frm,r.to,r.term,r.idx,r.bt,r.com,r.mem,r.off]); clear hn9 o9 b9) | (go_at_call 32; refine (ref_num (numsB [r.kind,r.frm,r.to,r.term,r.idx,r.bt,r.com]) r.mem f7 u7 n7 k7 _ (by first | with_reducible exact L7 | exact L7.below (Below.refl _ _).drew) (by omega)).mono ?_; rintro e y8 ⟨⟨sv,rfl,o8⟩,b8⟩; rw [show numsB [r.kind,r.frm,r.to,r.term,r.idx,r.bt,r.com] ++ vb (zz r.mem) = numsB [r.kind,r.frm,r.to,r.term,r.idx,r.bt,r.com,r.mem] from numsB_snoc [r.kind,r.frm,r.to,r.term,r.idx,r.bt,r.com] _] at o8; have s8 := lx _ (bchain (by repeat (first | with_reducible assumption | with_reducible apply Below.drew | with_reducible exact Below.refl _ _)) b8); have w8 := s8.1; have K8 := Lib.hid o8; obtain ⟨u8,k8,rfl,L8,-⟩ := By.own_ls o8; obtain ⟨n8,hn8⟩ : ∃ n,(numsB [r.kind,r.frm,r.to,r.term,r.idx,r.bt,r.com,r.mem]).length = n := ⟨_,rfl⟩; rw [hn8] at L8 K8 ⊢; have h8 : n8 ≤ 80 := (by rw [← hn8]; exact numsB_len [r.kind,r.frm,r.to,r.term,r.idx,r.bt,r.com,r.mem]); clear hn8 o8 b8) | fail)
 clear s8 s9 s10 L7 L8 L9 K8 K9 K10
 go_wp2_with fail
 go_region_held3 (fun u => Below X.heap.size X u ∧ u.cell? ⟨w.heap.size,0,none⟩ = some (.int .i64 r.kind) ∧ u.cell? ⟨w.heap.size,1,none⟩ = some (.int .i64 r.frm) ∧ u.cell? ⟨w.heap.size,2,none⟩ = some (.int .i64 r.to) ∧ u.cell? ⟨w.heap.size,3,none⟩ = some (.int .i64 r.term) ∧ u.cell? ⟨w.heap.size,4,none⟩ = some (.int .i64 r.idx) ∧ u.cell? ⟨w.heap.size,5,none⟩ = some (.int .i64 r.bt) ∧ u.cell? ⟨w.heap.size,6,none⟩ = some (.int .i64 r.com) ∧ u.cell? ⟨w.heap.size,7,none⟩ = some (.int .i64 r.mem) ∧ u.cell? ⟨w.heap.size,8,none⟩ = some (.int .i64 r.off) ∧ u.cell? ⟨w.heap.size,9,none⟩ = some (.int .i64 r.size) ∧ u.cell? ⟨w.heap.size,10,none⟩ = some (.bool r.yes) ∧ u.cell? ⟨w.heap.size,11,none⟩ = some (.string r.data) ∧ u.cell? ⟨w.heap.size,12,none⟩ = some (.slice r.ents.ao r.ents.n r.ents.cap)) (first | with_reducible assumption | (apply lx; repeat (first | with_reducible assumption | with_reducible apply Below.drew | with_reducible exact Below.refl _ _)) | fail) (first | (go_at_call 32; refine (ref_num (numsB [r.kind,r.frm,r.to,r.term,r.idx,r.bt,r.com,r.mem,r.off,r.size] ++ flB r.yes ++ vb (zz (r.data.size : Int)) ++ txt r.data) (r.ents.n : Int) fn u12 n12 k12 _ (by first | with_reducible exact L12 | exact L12.below (Below.refl _ _).drew) (by omega)).mono ?_; rintro e y13 ⟨⟨sv,rfl,o13⟩,b13⟩; have s13 := lx _ (bchain (by repeat (first | with_reducible assumption | with_reducible apply Below.drew | with_reducible exact Below.refl _ _)) b13); have w13 := s13.1; have K13 := Lib.hid o13; obtain ⟨u13,k13,rfl,L13,-⟩ := By.own_ls o13; obtain ⟨n13,hn13⟩ : ∃ n,(numsB [r.kind,r.frm,r.to,r.term,r.idx,r.bt,r.com,r.mem,r.off,r.size] ++ flB r.yes ++ vb (zz (r.data.size : Int)) ++ txt r.data ++ vb (zz (r.ents.n : Int))).length = n := ⟨_,rfl⟩; rw [hn13] at L13 K13 ⊢; have h13 : n13 ≤ 10000130 := (by rw [← hn13]; rw [List.length_append,← L12.len]; have : (vb (zz (r.ents.n : Int))).length ≤ 10 := nm_len _; omega); clear hn13 o13 b13) | (go_at_call 33; refine (ref_text (numsB [r.kind,r.frm,r.to,r.term,r.idx,r.bt,r.com,r.mem,r.off,r.size] ++ flB r.yes) r.data (by omega) u11 n11 k11 _ (by first | with_reducible exact L11 | exact L11.below (Below.refl _ _).drew) (by omega)).mono ?_; rintro e y12 ⟨⟨sv,rfl,o12⟩,b12⟩; have s12 := lx _ (bchain (by repeat (first | with_reducible assumption | with_reducible apply Below.drew | with_reducible exact Below.refl _ _)) b12); have w12 := s12.1; have K12 := Lib.hid o12; obtain ⟨u12,k12,rfl,L12,-⟩ := By.own_ls o12; obtain ⟨n12,hn12⟩ : ∃ n,(numsB [r.kind,r.frm,r.to,r.term,r.idx,r.bt,r.com,r.mem,r.off,r.size] ++ flB r.yes ++ vb (zz (r.data.size : Int)) ++ txt r.data).length = n := ⟨_,rfl⟩; rw [hn12] at L12 K12 ⊢; have h12 : n12 ≤ 10000120 := (by rw [← hn12]; rw [List.length_append,List.length_append,← L11.len,txt_len]; have : (vb (zz (r.data.size : Int))).length ≤ 10 := nm_len _; omega); clear hn12 o12 b12) | (go_at_call 34; refine (ref_flag (numsB [r.kind,r.frm,r.to,r.term,r.idx,r.bt,r.com,r.mem,r.off,r.size]) r.yes u10 n10 k10 _ (by first | with_reducible exact L10 | exact L10.below (Below.refl _ _).drew) (by omega)).mono ?_; rintro e y11 ⟨⟨sv,rfl,o11⟩,b11⟩; have s11 := lx _ (bchain (by repeat (first | with_reducible assumption | with_reducible apply Below.drew | with_reducible exact Below.refl _ _)) b11); have w11 := s11.1; have K11 := Lib.hid o11; obtain ⟨u11,k11,rfl,L11,-⟩ := By.own_ls o11; obtain ⟨n11,hn11⟩ : ∃ n,(numsB [r.kind,r.frm,r.to,r.term,r.idx,r.bt,r.com,r.mem,r.off,r.size] ++ flB r.yes).length = n := ⟨_,rfl⟩; rw [hn11] at L11 K11 ⊢; have h11 : n11 ≤ 110 := (by rw [← hn11]; rw [List.length_append,← L10.len]; have : (flB r.yes).length ≤ 10 := nm_len _; omega); clear hn11 o11 b11) | fail)
 have HO13 := Lib.hid (By.own_mono (C := w.heap.size) K13.out (Nat.le_trans HBX.out.size w12.size))
 have HB13 := Lib.hid w13
 have HTe2 : Hid ((m r l).bytes = (numsB [r.kind,r.frm,r.to,r.term,r.idx,r.bt,r.com,r.mem,r.off,r.size] ++ flB r.yes ++ vb (zz (r.data.size : Int)) ++ txt r.data ++ vb (zz (r.ents.n : Int))) ++ entsB l) := HTe
 obtain ⟨bs,hbs⟩ : ∃ bs,numsB [r.kind,r.frm,r.to,r.term,r.idx,r.bt,r.com,r.mem,r.off,r.size] ++ flB r.yes ++ vb (zz (r.data.size : Int)) ++ txt r.data ++ vb (zz (r.ents.n : Int)) = bs := ⟨_,rfl⟩
 rw [hbs] at L13 HTe2 HO13
 have HL13 := Lib.hid L13
 have HRd : Hid (∀ e ∈ l,Fit e.term ∧ Fit e.mem) := Lib.hid fun e he => ⟨(HL.out.short e he).1,(HL.out.short e he).2.1⟩
 obtain ⟨a0,a1,a2,a3,a4,a5,a6,a7,a8,a9,a10,a11,a12⟩ := s13.2
 clear s11 s12 s13 L10 L11 L12 L13 K11 K12 K13 hbs HTe w1 w2 w3 w4 w5 w6 w7 w8 w9 w10 w11 w12 w13 a0 a1 a2 a3 a4 a5 a6 a7 a8 a9 a10 a11
 go_wp2_with fail
 clear a12
 go_loopw [3,4] (fun t i wr => ∃ k : Nat,k ≤ r.ents.n ∧ i = .int .i64 k ∧ ∃ (up : Option Addr) (np kp : Nat),t = .slice up np kp ∧ Hid (By.Ls wr up np kp (bs ++ entsB (l.take k))) ∧ Hid (By.Own wr w.heap.size (.slice up np kp) (bs ++ entsB (l.take k))) ∧ np ≤ 10000130 + k * 10000030 ∧ Hid (Below X.heap.size X wr)) (fun _ i _ => r.ents.n - (intOf i).toNat)
 case atStart => exact ⟨0,by omega,rfl,_,_,_,rfl,by simpa [entsB] using HL13,by simpa [entsB] using HO13,by omega,HB13⟩
 case round =>
  rename World => wz
  obtain ⟨k,hk,rfl,up,np,kp,rfl,HLp,HOp,hp,HBz⟩ := hrel
  have a12 := ((bcell HBz.out).1 _ _ (cell_lt HC.out.2.2.2.2.2.2.2.2.2.2.2.2)).trans HC.out.2.2.2.2.2.2.2.2.2.2.2.2
  by_cases hlt : k < r.ents.n
  ·
   obtain ⟨b,off,hao⟩ := HL.out.at (by omega)
   have hkl : k < l.length := HN.out ▸ hlt
   have hL1 := HL.out.below HBX.out
   rw [hao] at hL1 a12
   have hrow := hL1.row k hkl
   have HX1 := Lib.hid (HRd.out _ (List.getElem_mem hkl))
   have hxd := HXs.out _ (List.getElem_mem hkl)
   have HSt := Lib.hid (entsB_take hkl)
   obtain ⟨x,hx⟩ : ∃ x,l[k] = x := ⟨_,rfl⟩
   rw [hx] at hrow HX1 HSt hxd
   obtain ⟨g0,g1,g2⟩ := hrow
   have l8 : ∀ u,Below X.heap.size X u → Below X.heap.size X u ∧ u.cell? ⟨w.heap.size,12,none⟩ = some (.slice (some ⟨b,off,none⟩) r.ents.n r.ents.cap) ∧ u.cell? ⟨b,off + k * 3,none⟩ = some (.int .i64 x.term) ∧ u.cell? ⟨b,off + k * 3 + 1,none⟩ = some (.int .i64 x.mem) ∧ u.cell? ⟨b,off + k * 3 + 2,none⟩ = some (.string x.data) := fun u h => ⟨h,by rw [(bcell h).1 _ _ hwX,← hao]; exact HC.out.2.2.2.2.2.2.2.2.2.2.2.2,((bcell h).1 _ _ (cell_lt g0)).trans g0,((bcell h).1 _ _ (cell_lt g1)).trans g1,((bcell h).1 _ _ (cell_lt g2)).trans g2⟩
   have Lp := HLp.out
   have wp := HBz.out
   obtain ⟨bk,hbk⟩ : ∃ bk,bs ++ entsB (l.take k) = bk := ⟨_,rfl⟩
   rw [hbk] at Lp
   have HBk := Lib.hid hbk
   have z0 := (l8 wz wp).2.2.1
   have z1 := (l8 wz wp).2.2.2.1
   have z2 := (l8 wz wp).2.2.2.2
   clear hL1 hx g0 g1 g2 hbk hao lx
   go_wp2_with fail
   go_region_held3 (fun u => Below X.heap.size X u ∧ u.cell? ⟨w.heap.size,12,none⟩ = some (.slice (some ⟨b,off,none⟩) r.ents.n r.ents.cap) ∧ u.cell? ⟨b,off + k * 3,none⟩ = some (.int .i64 x.term) ∧ u.cell? ⟨b,off + k * 3 + 1,none⟩ = some (.int .i64 x.mem) ∧ u.cell? ⟨b,off + k * 3 + 2,none⟩ = some (.string x.data)) (first | with_reducible assumption | (apply l8; repeat (first | with_reducible assumption | with_reducible apply Below.drew | with_reducible exact Below.refl _ _)) | fail) (first | (go_at_call 33; refine (ref_text (bk ++ vb (zz x.term) ++ vb (zz x.mem)) x.data (by omega) ue2 ne2 ke2 _ (by first | with_reducible exact Le2 | exact Le2.below (Below.refl _ _).drew) (by omega)).mono ?_; rintro e ye3 ⟨⟨sv,rfl,oe3⟩,be3⟩; have se3 := l8 _ (bchain (by repeat (first | with_reducible assumption | with_reducible apply Below.drew | with_reducible exact Below.refl _ _)) be3); have we3 := se3.1; have Ke3 := Lib.hid oe3; obtain ⟨ue3,ke3,rfl,Le3,-⟩ := By.own_ls oe3; obtain ⟨ne3,hne3⟩ : ∃ n,(bk ++ vb (zz x.term) ++ vb (zz x.mem) ++ vb (zz (x.data.size : Int)) ++ txt x.data).length = n := ⟨_,rfl⟩; rw [hne3] at Le3 Ke3 ⊢; have he3 : ne3 ≤ 10000160 + k * 10000030 + 10000000 := (by rw [← hne3]; rw [List.length_append,List.length_append,← Le2.len,txt_len]; have : (vb (zz (x.data.size : Int))).length ≤ 10 := nm_len _; omega); clear hne3 oe3 be3) | (go_at_call 32; refine (ref_num (bk ++ vb (zz x.term)) x.mem HX1.out.2 ue1 ne1 ke1 _ (by first | with_reducible exact Le1 | exact Le1.below (Below.refl _ _).drew) (by omega)).mono ?_; rintro e ye2 ⟨⟨sv,rfl,oe2⟩,be2⟩; have se2 := l8 _ (bchain (by repeat (first | with_reducible assumption | with_reducible apply Below.drew | with_reducible exact Below.refl _ _)) be2); have we2 := se2.1; have Ke2 := Lib.hid oe2; obtain ⟨ue2,ke2,rfl,Le2,-⟩ := By.own_ls oe2; obtain ⟨ne2,hne2⟩ : ∃ n,(bk ++ vb (zz x.term) ++ vb (zz x.mem)).length = n := ⟨_,rfl⟩; rw [hne2] at Le2 Ke2 ⊢; have he2 : ne2 ≤ 10000150 + k * 10000030 := (by rw [← hne2]; rw [List.length_append,← Le1.len]; have : (vb (zz x.mem)).length ≤ 10 := nm_len _; omega); clear hne2 oe2 be2) | (go_at_call 32; refine (ref_num bk x.term HX1.out.1 up np kp _ (by first | with_reducible exact Lp | exact Lp.below (Below.refl _ _).drew) (by omega)).mono ?_; rintro e ye1 ⟨⟨sv,rfl,oe1⟩,be1⟩; have se1 := l8 _ (bchain (by repeat (first | with_reducible assumption | with_reducible apply Below.drew | with_reducible exact Below.refl _ _)) be1); have we1 := se1.1; have Ke1 := Lib.hid oe1; obtain ⟨ue1,ke1,rfl,Le1,-⟩ := By.own_ls oe1; obtain ⟨ne1,hne1⟩ : ∃ n,(bk ++ vb (zz x.term)).length = n := ⟨_,rfl⟩; rw [hne1] at Le1 Ke1 ⊢; have he1 : ne1 ≤ 10000140 + k * 10000030 := (by rw [← hne1]; rw [List.length_append,← Lp.len]; have : (vb (zz x.term)).length ≤ 10 := nm_len _; omega); clear hne1 oe1 be1) | fail)
   have HBe : Hid (bk ++ vb (zz x.term) ++ vb (zz x.mem) ++ vb (zz (x.data.size : Int)) ++ txt x.data = bs ++ entsB (l.take (k + 1))) := Lib.hid (by
    rw [HSt.out,← List.append_assoc,HBk.out]
    unfold entB Wl.tx Wl.nm
    simp only [List.append_assoc])
   have HO3 := Lib.hid (By.own_mono (C := w.heap.size) Ke3.out (Nat.le_trans HBX.out.size we2.size))
   have HL3 := Lib.hid Le3
   have HB3 := Lib.hid we3
   rw [HBe.out] at HO3 HL3
   clear se1 se2 se3 Le1 Le2 Le3 Ke1 Ke2 Ke3 we1 we2 we3 wp Lp z0 z1 z2 a12
   go_wp2_with fail
   go_roundw
   case rel => exact ⟨k + 1,by omega,by go_num,_,_,_,rfl,HL3,HO3,by omega,HB3⟩
   case measure => simp [intOf]; omega
  ·
   obtain rfl : k = r.ents.n := by omega
   have HF : Hid (By.Own wz w.heap.size (.slice up np kp) (m r l).bytes) := Lib.hid (by
    rw [HTe2.out]
    have := HOp.out
    rw [List.take_of_length_le (by have := HN.out; omega)] at this
    exact this)
   go_wp2_with fail
   go_ret
   exact ⟨_,rfl,HF.out,bchain HBX.out HBz.out⟩
end Go.Proofs.Ytagjbjppddbalaa.Lr
