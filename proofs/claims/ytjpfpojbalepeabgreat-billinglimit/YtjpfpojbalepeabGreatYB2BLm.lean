/- THE WALK OF BillingLimit. (By genlimit.py.) -/
import Derived.Test.YtjpfpojbalepeabGreatZB214
import Derived.Test.YtjpfpojbalepeabGreatYB2FrX
set_option maxRecDepth 100000
set_option linter.unusedVariables false
namespace Go.Proofs.YtjpfpojbalepeabGreat
open Go.RowKit
open Mem
theorem fixA {A g : Nat} {u : World} {h : Bl.Sv} {s : Bl.St} (_hL : Bl.LiesA A u h s) (hl : g < A) : g < A := hl
theorem Bl.U_len (n : Int) (i : Nat) (x : Sn.T) : (Bl.U n i x).post.length = i := Bl.posts_len i
structure LSt (w wr : World) (g : Nat) (h : Bl.Sv) (s : Bl.St) : Prop where
 bel : Below w.heap.size w wr
 out : w.heap.size ≤ g
 box : Bl.At wr g h
 lies : Bl.LiesX g wr h s
 right : Bl.Right s
theorem LSt.below {w wr v : World} {g : Nat} {h : Bl.Sv} {s : Bl.St} (b : LSt w wr g h s) (k : Below wr.heap.size wr v) : LSt w v g h s :=
 ⟨bchain b.bel k,b.out,b.box.below k,b.lies.below k,b.right⟩
theorem LSt.put {w wr u : World} {g : Nat} {h h' : Bl.Sv} {s s' : Bl.St} (b : LSt w wr g h s) (k : Below wr.heap.size wr u) (hl : Bl.LiesX g u h' s') (hr : Bl.Right s') : LSt w (Bl.lay u g h') g h' s' := by
 have b' := b.below k
 have hk : KpX g u (Bl.lay u g h') := by
  refine ⟨fun b o ha hb => ?_,by simp [Bl.lay,World.setRow]⟩
  have e : (Bl.lay u g h').heap[b]? = u.heap[b]? := setRow_other u g b _ (by omega)
  unfold World.cell?
  simp only [e]
 exact ⟨Bl.below_lay b'.bel b.out h',b.out,b'.box.lay h',hl.kpx hk,hr⟩
theorem mins {n M : Nat} (h : M = min n 40) : M ≤ n ∧ M ≤ 40 ∧ (M = n ∨ M = 40) := by omega
set_option maxHeartbeats 8000000 in
theorem billingLimit_walk (lim tries : Int) (w : World) (hl : Fit lim) (ht : Fit tries) :
  Calls Tryz.prog 6 #[.int .i64 lim,.int .i64 tries] w fun e w' => e = .returned (.bool true) ∧ Below w.heap.size w w' := by
 have HFl := Lib.hid hl
 have HFt := Lib.hid ht
 clear hl ht
 go_enter Tryz.func6,Tryz.ntmps6
 go_wp2_with fail
 refine (bookWithin_any lim 1 60 w HFl.out (by omega) (by omega) (by omega)).mono ?_
 rintro e W ⟨⟨n,rfl,hn1,hn60⟩,hW⟩
 have hW2 := hW.symm
 clear hW
 subst hW2
 go_upto_region 2 with fail
 go_cut [6] (fun p wx => ∃ (g : Nat) (h : Bl.Sv),p = .pointer (some ⟨g,0,none⟩) ∧ Hid (LSt w wx g h (Bl.U n 0 ⟨1,2,0,0,0⟩)))
 case first =>
  go_wp2_with fail
  refine (law_opened n w hn1 hn60).mono ?_
  rintro e w1 ⟨h0,rfl,hL0,b1⟩
  have hb2 := Bl.below_own w1 h0
  have HR0 : Hid (Bl.Right (Bl.U n 0 ⟨1,2,0,0,0⟩)) := Lib.hid (by rw [← Bl.opened_U hn1 hn60]; exact Bl.Right.played Bl.right_new)
  have HS0 : Hid (LSt w (Bl.box w1 h0) w1.heap.size h0 (Bl.U n 0 ⟨1,2,0,0,0⟩)) := Lib.hid ⟨bchain b1 hb2,b1.size,Bl.at_box w1 h0,(hL0.lies.old).below hb2,HR0.out⟩
  clear hL0 b1 hb2 HR0
  go_wp2_with ((with_reducible apply Bl.wpl_store (h := h0) (g := w1.heap.size)); rfl; rfl; rfl; rfl; rfl; rfl)
  go_meet
  exact ⟨_,h0,rfl,HS0⟩
 case rest =>
 rename World => W1
 obtain ⟨g,h0,rfl,HS0⟩ := hcut
 obtain ⟨M,hM⟩ : ∃ M : Nat,M = min n 40 := ⟨_,rfl⟩
 have HM := Lib.hid (mins hM)
 have hMi : min (n : Int) 40 = (M : Int) := by omega
 have hM1 := HM.out.1
 have hM2 := HM.out.2.1
 clear hM
 go_upto_region 3 with fail
 go_cut [7] (fun m wx => m = .int .i64 M ∧ wx = W1)
 case first =>
  by_cases c : n ≤ 40
  ·
   have e : M = n := by omega
   subst e
   go_wp2_with fail
   all_goals go_meet
   all_goals exact ⟨rfl,rfl⟩
  ·
   have e : M = 40 := by omega
   subst e
   go_wp2_with fail
   all_goals go_meet
   all_goals exact ⟨rfl,rfl⟩
 case rest =>
  rename World => W2
  obtain ⟨rfl,hW2⟩ := hcut
  have hW3 := hW2.symm
  clear hW2
  subst hW3
  have hn40 : 40 ≤ M ∨ n ≤ M := by have := HM.out.2.2; omega
  clear hMi
  go_wp2_with fail
  refine (bookWithin_any tries 0 60 W1 HFt.out (by omega) (by omega) (by omega)).mono ?_
  rintro e W4 ⟨⟨k,rfl,hk0,hk60⟩,hW4⟩
  have hW5 := hW4.symm
  clear hW4
  subst hW5
  go_wp2_with fail
  go_loopw [9,10,11] (fun j _ _ wr => ∃ (i : Nat) (h : Bl.Sv) (x : Sn.T),i ≤ k ∧ j = .int .i64 ((i : Int) + 1) ∧ Hid (LSt w wr g h (Bl.U n (min i M) x)) ∧ Hid (x.id = 1 ∧ x.last = (i : Int) + 2)) (fun j _ _ _ => k + 1 - (intOf j).toNat)
  case atStart => exact ⟨0,h0,⟨1,2,0,0,0⟩,by omega,rfl,by rw [Nat.zero_min]; exact HS0,Lib.hid ⟨rfl,rfl⟩⟩
  case round =>
   obtain ⟨i,h,x,hik,rfl,HS,HX⟩ := hrel
   by_cases hlt : i < k
   ·
    obtain ⟨q,hq⟩ : ∃ q : Int,q = 2 + ((i : Int) + 1) := ⟨_,rfl⟩
    have hq' : 2 + ((i : Int) + 1) = q := hq.symm
    have hwq : IntKind.i64.wrap q = q := by rw [IntKind.wrap_i64]; omega
    have HFq : Hid (Fit q) := Lib.hid (by unfold Fit; omega)
    have HNq : Hid (Sp.numB q = true ∧ x.last < q) := Lib.hid ⟨Sp.num_iff.2 (by omega),by have := HX.out.2; omega⟩
    have HA : Hid (∃ (P : Nat) (y : Sn.T) (rp : Rp.T),Bl.apply (Bl.U n (min i M) x) (Bl.cOne q) = (Bl.U n P y,rp) ∧ P = min (i + 1) M ∧ y.id = 1 ∧ y.last = q ∧ ((i + 1 ≤ M ∧ rp = ⟨0,(i : Int) + 1,119⟩) ∨ (M < i + 1 ∧ rp = ⟨14,0,0⟩))) := Lib.hid (by
     by_cases c : i + 1 ≤ M
     ·
      have e1 : min i M = i := by omega
      have e2 : min (i + 1) M = i + 1 := by omega
      have h1 := Bl.one_ok HS.out.right HX.out.1 HNq.out.1 HNq.out.2 (by rw [e1]; omega) (by rw [e1]; omega)
      rw [e1] at h1 ⊢
      exact ⟨_,_,_,h1,e2.symm,rfl,rfl,.inl ⟨c,rfl⟩⟩
     ·
      have e1 : min i M = M := by omega
      have e2 : min (i + 1) M = M := by omega
      have h1 := Bl.one_full HS.out.right HX.out.1 HNq.out.1 HNq.out.2 (by rw [e1]; omega)
      rw [e1] at h1 ⊢
      exact ⟨_,_,_,h1,e2.symm,rfl,rfl,.inr ⟨by omega,rfl⟩⟩)
    generalize Bl.U n (min i M) x = s at *
    clear hq
    go_upto_region 8 with fail
    go_cut [10,11] (fun p p2 wx => ∃ (gt gr : Nat) (h' : Bl.Sv),p = .pointer (some ⟨gt,0,none⟩) ∧ p2 = .pointer (some ⟨gr,0,none⟩) ∧ Hid (Two wr wx gt gr h' (Bl.apply s (Bl.cOne q)).1 (Bl.apply s (Bl.cOne q)).2))
    case first =>
     have lx : ∀ u,Below wr.heap.size wr u → Below wr.heap.size wr u ∧ u.cell? ⟨g,0,none⟩ = some (.slice h.tab.ao h.tab.n h.tab.cap) ∧ u.cell? ⟨g,1,none⟩ = some (.slice h.ser.ao h.ser.n h.ser.cap) ∧ u.cell? ⟨g,2,none⟩ = some (.slice h.post.ao h.post.n h.post.cap) ∧ u.cell? ⟨g,3,none⟩ = some (.slice h.book.ao h.book.n h.book.cap) ∧ u.cell? ⟨g,4,none⟩ = some (.slice h.sess.ao h.sess.n h.sess.cap) ∧ u.cell? ⟨g,5,none⟩ = some (.int .i64 h.next) := fun u h => ⟨h,(HS.out.box.below h).cells⟩
     obtain ⟨x0,x1,x2,x3,x4,x5⟩ := HS.out.box.cells
     go_region_held3 (fun u => Below wr.heap.size wr u ∧ u.cell? ⟨g,0,none⟩ = some (.slice h.tab.ao h.tab.n h.tab.cap) ∧ u.cell? ⟨g,1,none⟩ = some (.slice h.ser.ao h.ser.n h.ser.cap) ∧ u.cell? ⟨g,2,none⟩ = some (.slice h.post.ao h.post.n h.post.cap) ∧ u.cell? ⟨g,3,none⟩ = some (.slice h.book.ao h.book.n h.book.cap) ∧ u.cell? ⟨g,4,none⟩ = some (.slice h.sess.ao h.sess.n h.sess.cap) ∧ u.cell? ⟨g,5,none⟩ = some (.int .i64 h.next)) (first | with_reducible assumption | (apply lx; repeat (first | with_reducible assumption | with_reducible apply below_box | with_reducible apply Below.drew | with_reducible apply Mem.bset | with_reducible exact Below.refl _ _ | omega)) | fail) (first | (go_at_call 11; have hBz := And.left (by assumption); refine (bil_apply s (Bl.cOne q) h (Bl.rOne q gq) _ _ (Below.refl _ _) (HS.out.lies.below hBz).lies (by first | exact HIq.out | exact HIq.out.below ((Below.refl _ _).alloc (Nat.le_refl _) _) | exact (HIq.out.below ((Below.refl _ _).alloc (Nat.le_refl _) _)).below ((Below.refl _ _).alloc (Nat.le_refl _) _)) (Bl.rOne_short HFq.out gq) HS.out.right (by show (1 : Nat) ≤ 15; omega)).mono ?_; rintro e u ⟨h',rfl,hL',b'⟩; have bU : Below u1.heap.size u1 u := (by first | exact b' | exact bchain ((Below.refl _ _).alloc (Nat.le_refl _) _) b' | exact bchain (bchain ((Below.refl _ _).alloc (Nat.le_refl _) _) ((Below.refl _ _).alloc (Nat.le_refl _) _)) b'); have hBx := bchain hBz b'; have s2 := lx _ hBx; have z2 := hBx.size; (first | (have D : Bl.At u u1.heap.size Bl.z := (b'.block _ (ltA u1 _)).trans (heap_alloc_new u1 _); have LD := fixA hL' (ltA u1 _)) | (have D : Bl.At u u1.heap.size Bl.z := (b'.block _ (ltB u1 _ _)).trans (heap_old (heap_alloc_new u1 _)); have LD := fixA hL' (ltB u1 _ _)) | (have D : Bl.At u (u1.heap.size + 1) Bl.z := (b'.block _ (ltC u1 _ _)).trans (heap_next u1 _ _); have LD := fixA hL' (ltC u1 _ _)) | (have LD := fixA hL' (Nat.lt_of_lt_of_le D.lt (by first | exact Nat.le_refl _ | exact Nat.le_of_lt (ltA u1 _) | exact Nat.le_of_lt (ltB u1 _ _))); have D := D.below bU) | skip); (first | (have E : Rp.Bk u u1.heap.size ⟨0,0,0⟩ := (b'.block _ (ltA u1 _)).trans (heap_alloc_new u1 _); have LE := fixA hL' (ltA u1 _)) | (have E : Rp.Bk u u1.heap.size ⟨0,0,0⟩ := (b'.block _ (ltB u1 _ _)).trans (heap_old (heap_alloc_new u1 _)); have LE := fixA hL' (ltB u1 _ _)) | (have E : Rp.Bk u (u1.heap.size + 1) ⟨0,0,0⟩ := (b'.block _ (ltC u1 _ _)).trans (heap_next u1 _ _); have LE := fixA hL' (ltC u1 _ _)) | (have LE := fixA hL' (Nat.lt_of_lt_of_le E.lt (by first | exact Nat.le_refl _ | exact Nat.le_of_lt (ltA u1 _) | exact Nat.le_of_lt (ltB u1 _ _))); have E := E.below bU) | skip); (try (obtain ⟨q0,q1,q2,q3,q4,q5⟩ := D.cells; have qL := D.lt; have qf0 := D.frozen 0; have qf1 := D.frozen 1; have qf2 := D.frozen 2; have qf3 := D.frozen 3; have qf4 := D.frozen 4; have qf5 := D.frozen 5)); (try (have eC := E.c; unfold Rp.C at eC; obtain ⟨e0,e1,e2⟩ := eC; have eL := E.lt; have ef0 := E.frozen 0; have ef1 := E.frozen 1; have ef2 := E.frozen 2)); have HLx := Lib.hid (And.intro hL' hBz.size); have HBx := Lib.hid hBx; unfold Bl.Sv.val Bl.sl Rp.val; clear hL' b' hBz bU) | (go_at_call 16; have hBy := And.left (by assumption); refine (law_one q _ _ (Below.refl _ _)).mono ?_; rintro e u1 ⟨gq,rfl,hIq,_,b1⟩; have s1 := bchain hBy b1; have s1' := lx _ s1; have z1 := s1.size; have HIq := Lib.hid hIq; (first | (have D : Bl.At u1 wr.heap.size Bl.z := (b1.block _ (ltA wr _)).trans (heap_alloc_new wr _)) | (have D : Bl.At u1 wr.heap.size Bl.z := (b1.block _ (ltB wr _ _)).trans (heap_old (heap_alloc_new wr _))) | (have D : Bl.At u1 (wr.heap.size + 1) Bl.z := (b1.block _ (ltC wr _ _)).trans (heap_next wr _ _)) | skip); (first | (have E : Rp.Bk u1 wr.heap.size ⟨0,0,0⟩ := (b1.block _ (ltA wr _)).trans (heap_alloc_new wr _)) | (have E : Rp.Bk u1 wr.heap.size ⟨0,0,0⟩ := (b1.block _ (ltB wr _ _)).trans (heap_old (heap_alloc_new wr _))) | (have E : Rp.Bk u1 (wr.heap.size + 1) ⟨0,0,0⟩ := (b1.block _ (ltC wr _ _)).trans (heap_next wr _ _)) | skip); (try have DL := D.lt); (try have EL := E.lt); clear hIq b1 hBy) | fail)
     all_goals (try go_wp2_with fail)
     all_goals go_meet
     · exact ⟨_,_,h',rfl,rfl,Lib.hid (two1 HBx.out HLx.out.1 HLx.out.2)⟩
     · exact ⟨_,_,h',rfl,rfl,Lib.hid (two2 HBx.out HLx.out.1 HLx.out.2)⟩
     · exact ⟨_,_,h',rfl,rfl,Lib.hid (two3 HBx.out HLx.out.1 HLx.out.2 D (by omega) LD)⟩
     · exact ⟨_,_,h',rfl,rfl,Lib.hid (two4 HBx.out HLx.out.1 HLx.out.2 D E (by omega) (by omega) (by omega) LD LE)⟩
     · exact ⟨_,_,h',rfl,rfl,Lib.hid (two5 HBx.out HLx.out.1 HLx.out.2 E (by omega) LE)⟩
     · exact ⟨_,_,h',rfl,rfl,Lib.hid (two4 HBx.out HLx.out.1 HLx.out.2 D E (by omega) (by omega) (by omega) LD LE)⟩
     · exact ⟨_,_,h',rfl,rfl,Lib.hid (two3 HBx.out HLx.out.1 HLx.out.2 D (by omega) LD)⟩
     · exact ⟨_,_,h',rfl,rfl,Lib.hid (two4 HBx.out HLx.out.1 HLx.out.2 D E (by omega) (by omega) (by omega) LD LE)⟩
     · exact ⟨_,_,h',rfl,rfl,Lib.hid (two4 HBx.out HLx.out.1 HLx.out.2 D E (by omega) (by omega) (by omega) LD LE)⟩
     · exact ⟨_,_,h',rfl,rfl,Lib.hid (two5 HBx.out HLx.out.1 HLx.out.2 E (by omega) LE)⟩
     · exact ⟨_,_,h',rfl,rfl,Lib.hid (two4 HBx.out HLx.out.1 HLx.out.2 D E (by omega) (by omega) (by omega) LD LE)⟩
     · exact ⟨_,_,h',rfl,rfl,Lib.hid (two4 HBx.out HLx.out.1 HLx.out.2 D E (by omega) (by omega) (by omega) LD LE)⟩
    case rest =>
     rename World => wx
     obtain ⟨gt,gr,h2,rfl,rfl,HT⟩ := hcut
     obtain ⟨P,y,rp,hap,hP,hy1,hy2,hrp⟩ := HA.out
     have HRt : Hid (Bl.Right (Bl.U n P y)) := Lib.hid (by have := HS.out.right.applied (Bl.cOne q); rw [hap] at this; exact this)
     rw [hap] at HT
     have HY := Lib.hid (And.intro hP (And.intro hy1 hy2))
     have hA1 := HT.out.box
     have hA2 := HS.out.box.below HT.out.bel
     have HN := Lib.hid (HS.out.put HT.out.bel (HT.out.lies.other HS.out.box.lt) HRt.out)
     have hrc := HT.out.rep.c
     unfold Rp.C at hrc
     obtain ⟨r0,r1,r2⟩ := hrc
     clear hap hP hy1 hy2 HA
     rcases hrp with ⟨c,rfl⟩ | ⟨c,rfl⟩
     ·
      simp only at r0 r1 r2
      have d1 : decide ((i : Int) + 1 ≤ (M : Int)) = true := decide_eq_true (by omega)
      have d2 : (((i : Int) + 1) == ((i : Int) + 1)) = true := beq_self_eq_true _
      go_wp2_with (first | ((with_reducible apply Bl.wpl_load hA1); rfl; rfl; rfl) | ((with_reducible apply Bl.wpl_put (h := h2) hA2); rfl; rfl; rfl; rfl))
      go_roundw
      case rel => exact ⟨i + 1,h2,y,by omega,by go_num,Lib.hid (by rw [← HY.out.1]; exact HN.out),Lib.hid ⟨HY.out.2.1,by rw [HY.out.2.2]; omega⟩⟩
      case measure => simp [intOf]; omega
     ·
      simp only at r0 r1 r2
      have d1 : decide ((i : Int) + 1 ≤ (M : Int)) = false := decide_eq_false (by omega)
      have d2 : decide ((M : Int) < (i : Int) + 1) = true := decide_eq_true (by omega)
      go_wp2_with (first | ((with_reducible apply Bl.wpl_load hA1); rfl; rfl; rfl) | ((with_reducible apply Bl.wpl_put (h := h2) hA2); rfl; rfl; rfl; rfl))
      go_roundw
      case rel => exact ⟨i + 1,h2,y,by omega,by go_num,Lib.hid (by rw [← HY.out.1]; exact HN.out),Lib.hid ⟨HY.out.2.1,by rw [HY.out.2.2]; omega⟩⟩
      case measure => simp [intOf]; omega
   ·
    obtain rfl : i = k := by omega
    have hpl : h.post.n = min i M := by
     obtain ⟨rs,h1,h2,_⟩ := HS.out.lies.post
     rw [h1.len,h2.len,Bl.U_len]
    obtain ⟨x0,x1,x2,x3,x4,x5⟩ := HS.out.box.cells
    by_cases c : i ≤ M
    ·
     have e : h.post.n = i := by omega
     rw [e] at x2
     clear e hpl
     have d3 : ((i : Int) == (i : Int)) = true := beq_self_eq_true _
     have hmi : min (i : Int) (M : Int) = (i : Int) := by omega
     clear hn40 hM1 hM2 HX HM x0 x1 x3 x4 x5
     go_wp2_with fail
     refine (bruns w _ HS.out.bel).mono ?_
     rintro e w6 ⟨rfl,b6⟩
     have HB6 := Lib.hid b6
     clear b6
     go_wp2_with fail
     go_ret
     exact ⟨rfl,HB6.out⟩
    ·
     have e : h.post.n = M := by omega
     rw [e] at x2
     clear e hpl
     have d3 : ((M : Int) == (M : Int)) = true := beq_self_eq_true _
     have hmi : min (i : Int) (M : Int) = (M : Int) := by omega
     clear hn40 hM1 hM2 HX HM x0 x1 x3 x4 x5
     go_wp2_with fail
     refine (bruns w _ HS.out.bel).mono ?_
     rintro e w6 ⟨rfl,b6⟩
     have HB6 := Lib.hid b6
     clear b6
     go_wp2_with fail
     go_ret
     exact ⟨rfl,HB6.out⟩
end Go.Proofs.YtjpfpojbalepeabGreat
