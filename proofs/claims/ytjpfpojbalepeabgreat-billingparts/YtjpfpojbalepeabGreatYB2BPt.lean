/- THE WALK OF BillingParts. (By genparts14.py.) -/
import Derived.Test.YtjpfpojbalepeabGreatZB214
import Derived.Deep.DeepCutAuto
set_option maxRecDepth 100000
set_option linter.unusedVariables false
namespace Go.Proofs.YtjpfpojbalepeabGreat
open Go.RowKit
open Mem
theorem Bl.Lies.new_any {w v : World} {h : Bl.Sv} (l : Bl.Lies w h Bl.new) : Bl.Lies v h Bl.new := by
 obtain ⟨rs,h1,h2⟩ := l.post
 have e : rs = [] := List.length_eq_zero_iff.1 h2.len
 subst e
 exact ⟨⟨l.tab.len,l.tab.fits,l.tab.reach,l.tab.nil,.inl rfl,l.tab.short⟩,⟨l.ser.len,l.ser.fits,l.ser.reach,l.ser.nil,.inl rfl,l.ser.short⟩,⟨[],⟨h1.len,h1.fits,h1.reach,h1.nil,.inl rfl,h1.short⟩,each_nil v⟩,⟨l.book.len,l.book.fits,l.book.reach,l.book.nil,.inl rfl,l.book.short⟩,⟨l.sess.len,l.sess.fits,l.sess.reach,l.sess.nil,.inl rfl,l.sess.short⟩,l.next,l.fit⟩
theorem Bl.EachC.take {w : World} {rs : List Ca.T} {cs : List Bl.Cl} (h : Bl.EachC w rs cs) (k : Nat) : Bl.EachC w (rs.take k) (cs.take k) := by
 refine ⟨by rw [List.length_take,List.length_take,h.len],fun i hi => ?_⟩
 rw [List.length_take] at hi
 rw [List.getElem_take,List.getElem_take]
 exact h.each i (by omega)
theorem Bl.EachC.drop {w : World} {rs : List Ca.T} {cs : List Bl.Cl} (h : Bl.EachC w rs cs) (k : Nat) : Bl.EachC w (rs.drop k) (cs.drop k) := by
 refine ⟨by rw [List.length_drop,List.length_drop,h.len],fun i hi => ?_⟩
 rw [List.length_drop] at hi
 rw [List.getElem_drop,List.getElem_drop]
 exact h.each (k + i) (by omega)
theorem Bl.one_put {u : World} {A gt : Nat} {h h0 : Bl.Sv} {s : Bl.St} (hL : Bl.LiesA A u h s) (D : Bl.At u gt h0) (hl : gt < A) : Bl.At ((((((u.setCell ⟨gt,0,none⟩ (.slice h.tab.ao h.tab.n h.tab.cap)).setCell ⟨gt,1,none⟩ (.slice h.ser.ao h.ser.n h.ser.cap)).setCell ⟨gt,2,none⟩ (.slice h.post.ao h.post.n h.post.cap)).setCell ⟨gt,3,none⟩ (.slice h.book.ao h.book.n h.book.cap)).setCell ⟨gt,4,none⟩ (.slice h.sess.ao h.sess.n h.sess.cap)).setCell ⟨gt,5,none⟩ (.int .i64 h.next)) gt h ∧ Bl.LiesA A ((((((u.setCell ⟨gt,0,none⟩ (.slice h.tab.ao h.tab.n h.tab.cap)).setCell ⟨gt,1,none⟩ (.slice h.ser.ao h.ser.n h.ser.cap)).setCell ⟨gt,2,none⟩ (.slice h.post.ao h.post.n h.post.cap)).setCell ⟨gt,3,none⟩ (.slice h.book.ao h.book.n h.book.cap)).setCell ⟨gt,4,none⟩ (.slice h.sess.ao h.sess.n h.sess.cap)).setCell ⟨gt,5,none⟩ (.int .i64 h.next)) h s := ⟨D.put h,hL.kp (kp6 u hl h)⟩
theorem Rp.wpListG_append {ops : Array Oper} {rest : List Oper} {o : Oper} {a : Act} {Q : Exit → Act → World → Prop} (w : World) (hw : Region.wanted o (yielded ops a.tmps) = true) (s x : Operand)
  (ho : o.op = .call { callee := .builtin .append,args := #[s,x],argTypes := #[41,41] })
  (B : Nat) (v : Value) (xs : List Rp.T) (hs : a.eval s = v) (hown : Rp.Own w B v xs)
  (ao : Option Addr) (n cap : Nat) (zs : List Rp.T) (hx : a.eval x = .slice ao n cap) (hn : n = zs.length) (hnil : ao = none → cap = 0) (hsrc : Rp.Seg w ao zs) (hl : (xs.length + n) * 24 ≤ 140737488355328) (hb : B ≤ w.heap.size)
  (h : ∀ v' w1,Rp.Own w1 B v' (xs ++ zs) → w.grownBy w1 v.ownBlock → (v'.ownBlock = v.ownBlock ∨ v'.ownBlock = some w.heap.size) → wpList Tryz.prog ops Q rest (a.put o.dst v') w1) : wpList Tryz.prog ops Q (o :: rest) a w :=
 wpList_step fun _ hK => by
  rw [if_pos hw]
  exact Rp.wp_append w s x ho B v xs hs hown ao n cap zs hx hn hnil hsrc hl hb fun v' w1 h1 h2 h3 => hK _ _ (h v' w1 h1 h2 h3)
theorem Bl.oneA {u : World} {A : Nat} {h : Bl.Sv} {s : Bl.St} {ro : Option Addr} {rn rc : Nat} {l : List Rp.T} (x : Bl.LiesA A u h s ∧ Rp.Ls u ro rn rc l ∧ InA A ro rn) : Bl.At (u.alloc (.cells #[.slice h.tab.ao h.tab.n h.tab.cap,.slice h.ser.ao h.ser.n h.ser.cap,.slice h.post.ao h.post.n h.post.cap,.slice h.book.ao h.book.n h.book.cap,.slice h.sess.ao h.sess.n h.sess.cap,.int .i64 h.next] 40)) u.heap.size h ∧ Bl.Lies (u.alloc (.cells #[.slice h.tab.ao h.tab.n h.tab.cap,.slice h.ser.ao h.ser.n h.ser.cap,.slice h.post.ao h.post.n h.post.cap,.slice h.book.ao h.book.n h.book.cap,.slice h.sess.ao h.sess.n h.sess.cap,.int .i64 h.next] 40)) h s ∧ Rp.Ls (u.alloc (.cells #[.slice h.tab.ao h.tab.n h.tab.cap,.slice h.ser.ao h.ser.n h.ser.cap,.slice h.post.ao h.post.n h.post.cap,.slice h.book.ao h.book.n h.book.cap,.slice h.sess.ao h.sess.n h.sess.cap,.int .i64 h.next] 40)) ro rn rc l :=
 ⟨Bl.at_box u h,x.1.lies.below (Bl.below_own u h),x.2.1.below (Bl.below_own u h)⟩
theorem Bl.oneB {u : World} {A gt : Nat} {h h0 : Bl.Sv} {s : Bl.St} {ro : Option Addr} {rn rc : Nat} {l : List Rp.T} (x : Bl.LiesA A u h s ∧ Rp.Ls u ro rn rc l ∧ InA A ro rn) (D : Bl.At u gt h0) (hl : gt < A) : Bl.At ((((((u.setCell ⟨gt,0,none⟩ (.slice h.tab.ao h.tab.n h.tab.cap)).setCell ⟨gt,1,none⟩ (.slice h.ser.ao h.ser.n h.ser.cap)).setCell ⟨gt,2,none⟩ (.slice h.post.ao h.post.n h.post.cap)).setCell ⟨gt,3,none⟩ (.slice h.book.ao h.book.n h.book.cap)).setCell ⟨gt,4,none⟩ (.slice h.sess.ao h.sess.n h.sess.cap)).setCell ⟨gt,5,none⟩ (.int .i64 h.next)) gt h ∧ Bl.Lies ((((((u.setCell ⟨gt,0,none⟩ (.slice h.tab.ao h.tab.n h.tab.cap)).setCell ⟨gt,1,none⟩ (.slice h.ser.ao h.ser.n h.ser.cap)).setCell ⟨gt,2,none⟩ (.slice h.post.ao h.post.n h.post.cap)).setCell ⟨gt,3,none⟩ (.slice h.book.ao h.book.n h.book.cap)).setCell ⟨gt,4,none⟩ (.slice h.sess.ao h.sess.n h.sess.cap)).setCell ⟨gt,5,none⟩ (.int .i64 h.next)) h s ∧ Rp.Ls ((((((u.setCell ⟨gt,0,none⟩ (.slice h.tab.ao h.tab.n h.tab.cap)).setCell ⟨gt,1,none⟩ (.slice h.ser.ao h.ser.n h.ser.cap)).setCell ⟨gt,2,none⟩ (.slice h.post.ao h.post.n h.post.cap)).setCell ⟨gt,3,none⟩ (.slice h.book.ao h.book.n h.book.cap)).setCell ⟨gt,4,none⟩ (.slice h.sess.ao h.sess.n h.sess.cap)).setCell ⟨gt,5,none⟩ (.int .i64 h.next)) ro rn rc l :=
 ⟨D.put h,(x.1.kp (kp6 u hl h)).lies,x.2.1.kp x.2.2 (kp6 u hl h)⟩
set_option maxHeartbeats 4000000 in
theorem billingParts_walk (rs0 : List Ca.T) (cs0 : List Bl.Cl) (ao0 : Option Addr) (n0 cap0 : Nat) (at0 : Int) (w : World) (hC : Bl.Cs w ao0 n0 cap0 rs0 cs0) (ha : Fit at0) :
  Calls Tryz.prog 7 #[.slice ao0 n0 cap0,.int .i64 at0] w fun e w' => e = .returned (.bool true) ∧ Below w.heap.size w w' := by
 have HC := Lib.hid hC
 have HFa := Lib.hid ha
 clear hC ha
 go_enter Tryz.func7,Tryz.ntmps7
 go_wp2_with fail
 refine (law_fewL rs0 cs0 50 ao0 n0 cap0 w _ HC.out (Below.refl _ _) (by omega)).mono ?_
 rintro e X ⟨ao,n,cap,rs,rfl,hn50,hLs,_,hE,bX⟩
 have HLs := Lib.hid hLs
 have HE := Lib.hid hE
 have HBX := Lib.hid bX
 have HF : Hid (∀ c ∈ Bl.fewL 50 cs0,c.cmd.lines.length ≤ 15) := Lib.hid Bl.few_lines
 have hcap := hLs.reach
 have hfit := hLs.fits
 clear hLs hE bX HC
 generalize Bl.fewL 50 cs0 = cs at *
 go_wp2_with fail
 refine (bookWithin_any at0 0 n X HFa.out (by omega) (by omega) (by omega)).mono ?_
 rintro e X2 ⟨⟨k,rfl,hk0,hkn⟩,hX2⟩
 have hX3 := hX2.symm
 clear hX2
 subst hX3
 have hkn' : k ≤ n := by omega
 clear hk0 hkn
 go_upto_region 3 with fail
 go_cut [6,7] (fun p l wx => ∃ (gs : Nat) (h : Bl.Sv) (ro : Option Addr) (rn rc : Nat),p = .pointer (some ⟨gs,0,none⟩) ∧ l = .slice ro rn rc ∧ rn ≤ rc ∧ rc ≤ 9223372036854775807 ∧ Hid (Bl.At wx gs h ∧ Bl.Lies wx h (Bl.play Bl.new cs).1 ∧ Rp.Ls wx ro rn rc (Bl.play Bl.new cs).2) ∧ Hid (Below X.heap.size X wx))
 case first =>
  go_wp2_with fail
  refine (bil_new X _ (Below.refl _ _)).mono ?_
  rintro e w1 ⟨h0,rfl,hL0,b1⟩
  have HL0 := Lib.hid hL0
  have HB1 := Lib.hid b1
  clear hL0 b1
  go_wp2_with fail
  refine (bil_play Bl.new cs h0 rs ao n cap w1 _ (Below.refl _ _) HL0.out.lies ⟨HLs.out.below HB1.out,HE.out.below (bchain HBX.out HB1.out)⟩ Bl.right_new HF.out (by omega)).mono ?_
  rintro e w3 ⟨h,ro,rn,rc,rfl,hL3,hR3,_,b3⟩
  have HB3 := Lib.hid (bchain (bchain HB1.out b3) (Bl.below_own w3 h))
  have HZ := Lib.hid (And.intro (Bl.at_box w3 h) (And.intro (hL3.lies.below (Bl.below_own w3 h)) (hR3.below (Bl.below_own w3 h))))
  have hrf := hR3.fits
  have hrr := hR3.reach
  clear hL3 hR3 b3 HB1 HL0
  go_wp2_with (first | ((with_reducible apply Bl.wpl_store (h := h) (g := w3.heap.size)); rfl; rfl; rfl; rfl; rfl; rfl))
  go_meet
  exact ⟨_,h,ro,rn,rc,rfl,rfl,hrf,hrr,HZ,HB3⟩
 case rest =>
  rename World => Y
  obtain ⟨gs,hs,so,sn,sc,rfl,rfl,hsf,hsr,HZs,HBY⟩ := hcut
  have HSt := Lib.hid (HLs.out.to k hkn')
  have hs1 := HSt.out.1
  have HEt := Lib.hid (HE.out.take k)
  go_upto_region 4 with fail
  go_cut [8,9] (fun p l wx => ∃ (gt : Nat) (h : Bl.Sv) (ro : Option Addr) (rn rc : Nat),p = .pointer (some ⟨gt,0,none⟩) ∧ l = .slice ro rn rc ∧ rn ≤ rc ∧ rc ≤ 9223372036854775807 ∧ Hid (Bl.At wx gt h ∧ Bl.Lies wx h (Bl.play Bl.new (cs.take k)).1 ∧ Rp.Ls wx ro rn rc (Bl.play Bl.new (cs.take k)).2) ∧ Hid (Below Y.heap.size Y wx))
  case first =>
   have lx : ∀ u,Below Y.heap.size Y u → Below Y.heap.size Y u := fun u h => h
   go_region_held3 (fun u => Below Y.heap.size Y u) (first | with_reducible assumption | (apply lx; repeat (first | with_reducible assumption | with_reducible apply below_box | with_reducible apply Below.drew | with_reducible apply Mem.bset | with_reducible exact Below.refl _ _ | omega)) | fail) (first | (go_at_call 8; have hBz : Below Y.heap.size Y _ := (by assumption); refine (bil_play Bl.new (cs.take k) h0 (rs.take k) ao k cap _ _ (Below.refl _ _) HL0.out.new_any ⟨HSt.out.2.below (bchain HBY.out hBz),HEt.out.below (bchain (bchain HBX.out HBY.out) hBz)⟩ Bl.right_new (fun c hc => HF.out c (List.mem_of_mem_take hc)) (by omega)).mono ?_; rintro e u2 ⟨h',ro,rn,rc,rfl,hL',hR',hA',b2⟩; have s2 := bchain hBz b2; have z2 := s2.size; have HLx := Lib.hid (And.intro hL' (And.intro hR' hA')); have hrf := hR'.fits; have hrr := hR'.reach; have HBx := Lib.hid (And.intro s2 hBz.size); (first | have D := D.below b2 | (have D : Bl.At u2 u1.heap.size Bl.z := (b2.block _ (ltA u1 _)).trans (heap_alloc_new u1 _)) | skip); (try (obtain ⟨q0,q1,q2,q3,q4,q5⟩ := D.cells; have qL := D.lt; have qf0 := D.frozen 0; have qf1 := D.frozen 1; have qf2 := D.frozen 2; have qf3 := D.frozen 3; have qf4 := D.frozen 4; have qf5 := D.frozen 5)); unfold Bl.Sv.val Bl.sl; clear hL' hR' hA' b2 hBz) | (go_at_call 9; have hBy : Below Y.heap.size Y _ := (by assumption); refine (bil_new _ _ (Below.refl _ _)).mono ?_; rintro e u1 ⟨h0,rfl,hL0,b1⟩; have s1 := bchain hBy b1; have z1 := s1.size; have HL0 := Lib.hid hL0.lies; (first | have D : Bl.At u1 Y.heap.size Bl.z := (b1.block _ (ltA Y _)).trans (heap_alloc_new Y _) | skip); (try have L1 := D.lt); clear hL0 b1 hBy) | fail)
   all_goals (try go_wp2_with fail)
   all_goals go_meet
   · exact ⟨_,h',ro,rn,rc,rfl,rfl,hrf,hrr,Lib.hid (Bl.oneA HLx.out),Lib.hid (below_box HBx.out.1 _)⟩
   · exact ⟨_,h',ro,rn,rc,rfl,rfl,hrf,hrr,Lib.hid (Bl.oneB HLx.out D (ltA u1 _)),Lib.hid (bel6 HBx.out.1 z1 h')⟩
   · exact ⟨_,h',ro,rn,rc,rfl,rfl,hrf,hrr,Lib.hid (Bl.oneB HLx.out D L1),Lib.hid (bel6 HBx.out.1 (Nat.le_refl _) h')⟩
  case rest =>
   rename World => Z
   obtain ⟨gt,ht,to_,tn,tc,rfl,rfl,htf,htr,HT,HBZ⟩ := hcut
   clear hs1
   obtain ⟨ao2,cap2,hs2,hSf⟩ := HLs.out.from k hkn'
   have HSf := Lib.hid hSf
   have HEf := Lib.hid (HE.out.drop k)
   clear hSf
   have hnk : n - k ≤ 50 := by omega
   go_upto_region 5 with fail
   go_cut [10,11] (fun p l wx => ∃ (gu : Nat) (h : Bl.Sv) (ro : Option Addr) (rn rc : Nat),p = .pointer (some ⟨gu,0,none⟩) ∧ l = .slice ro rn rc ∧ rn ≤ rc ∧ rc ≤ 9223372036854775807 ∧ Hid (Bl.At wx gu h ∧ Bl.Lies wx h (Bl.play (Bl.play Bl.new (cs.take k)).1 (cs.drop k)).1 ∧ Rp.Ls wx ro rn rc (Bl.play (Bl.play Bl.new (cs.take k)).1 (cs.drop k)).2) ∧ Hid (Below Z.heap.size Z wx))
   case first =>
    have lx : ∀ u,Below Z.heap.size Z u → Below Z.heap.size Z u ∧ u.cell? ⟨gt,0,none⟩ = some (.slice ht.tab.ao ht.tab.n ht.tab.cap) ∧ u.cell? ⟨gt,1,none⟩ = some (.slice ht.ser.ao ht.ser.n ht.ser.cap) ∧ u.cell? ⟨gt,2,none⟩ = some (.slice ht.post.ao ht.post.n ht.post.cap) ∧ u.cell? ⟨gt,3,none⟩ = some (.slice ht.book.ao ht.book.n ht.book.cap) ∧ u.cell? ⟨gt,4,none⟩ = some (.slice ht.sess.ao ht.sess.n ht.sess.cap) ∧ u.cell? ⟨gt,5,none⟩ = some (.int .i64 ht.next) := fun u h => ⟨h,(HT.out.1.below h).cells⟩
    obtain ⟨x0,x1,x2,x3,x4,x5⟩ := HT.out.1.cells
    go_region_held3 (fun u => Below Z.heap.size Z u ∧ u.cell? ⟨gt,0,none⟩ = some (.slice ht.tab.ao ht.tab.n ht.tab.cap) ∧ u.cell? ⟨gt,1,none⟩ = some (.slice ht.ser.ao ht.ser.n ht.ser.cap) ∧ u.cell? ⟨gt,2,none⟩ = some (.slice ht.post.ao ht.post.n ht.post.cap) ∧ u.cell? ⟨gt,3,none⟩ = some (.slice ht.book.ao ht.book.n ht.book.cap) ∧ u.cell? ⟨gt,4,none⟩ = some (.slice ht.sess.ao ht.sess.n ht.sess.cap) ∧ u.cell? ⟨gt,5,none⟩ = some (.int .i64 ht.next)) (first | with_reducible assumption | (apply lx; repeat (first | with_reducible assumption | with_reducible apply below_box | with_reducible apply Below.drew | with_reducible apply Mem.bset | with_reducible exact Below.refl _ _ | omega)) | fail) (first | (go_at_call 8; have hBz := And.left (by assumption); refine (bil_play (Bl.play Bl.new (cs.take k)).1 (cs.drop k) ht (rs.drop k) ao2 (n - k) cap2 _ _ (Below.refl _ _) (HT.out.2.1.below hBz) ⟨HSf.out.below (bchain (bchain HBY.out HBZ.out) hBz),HEf.out.below (bchain (bchain (bchain HBX.out HBY.out) HBZ.out) hBz)⟩ (Bl.Right.played Bl.right_new) (fun c hc => HF.out c (List.mem_of_mem_drop hc)) (by omega)).mono ?_; rintro e u2 ⟨h',ro,rn,rc,rfl,hL',hR',hA',b2⟩; have s2 := bchain hBz b2; have z2 := s2.size; have HLx := Lib.hid (And.intro hL' (And.intro hR' hA')); have hrf := hR'.fits; have hrr := hR'.reach; have HBx := Lib.hid (And.intro s2 hBz.size); have s3 := lx _ s2; (first | (have D : Bl.At u2 Z.heap.size Bl.z := (b2.block _ (ltA Z _)).trans (heap_alloc_new Z _)) | skip); (try (obtain ⟨q0,q1,q2,q3,q4,q5⟩ := D.cells; have qL := D.lt; have qf0 := D.frozen 0; have qf1 := D.frozen 1; have qf2 := D.frozen 2; have qf3 := D.frozen 3; have qf4 := D.frozen 4; have qf5 := D.frozen 5)); unfold Bl.Sv.val Bl.sl; clear hL' hR' hA' b2 hBz) | fail)
    all_goals (try go_wp2_with fail)
    all_goals go_meet
    · exact ⟨_,h',ro,rn,rc,rfl,rfl,hrf,hrr,Lib.hid (Bl.oneA HLx.out),Lib.hid (below_box HBx.out.1 _)⟩
    · exact ⟨_,h',ro,rn,rc,rfl,rfl,hrf,hrr,Lib.hid (Bl.oneB HLx.out D (ltA Z _)),Lib.hid (bel6 HBx.out.1 (Nat.le_refl _) h')⟩
   case rest =>
    rename World => Q
    obtain ⟨gu,hu,uo,un,uc,rfl,rfl,huf,hur,HU,HBQ⟩ := hcut
    have HEq : Hid (Bl.play Bl.new cs = ((Bl.play (Bl.play Bl.new (cs.take k)).1 (cs.drop k)).1,(Bl.play Bl.new (cs.take k)).2 ++ (Bl.play (Bl.play Bl.new (cs.take k)).1 (cs.drop k)).2)) := Lib.hid (by
     have := Bl.play_app (cs.take k) (cs.drop k) Bl.new
     rw [List.take_append_drop] at this
     exact this)
    rw [HEq.out] at HZs
    have hl1 := Bl.play_len (cs.take k) Bl.new
    have hl2 := Bl.play_len (cs.drop k) (Bl.play Bl.new (cs.take k)).1
    have hcs : cs.length = n := by rw [← HE.out.len,← HLs.out.len]
    rw [List.length_take] at hl1
    rw [List.length_drop] at hl2
    have htn : tn ≤ 50 := by have := HT.out.2.2.len; omega
    have hun : un ≤ 50 := by have := HU.out.2.2.len; omega
    clear hl1 hl2 hcs HEq
    obtain ⟨A1,hA1⟩ : ∃ A1,(Bl.play Bl.new (cs.take k)).2 = A1 := ⟨_,rfl⟩
    obtain ⟨A2,hA2⟩ : ∃ A2,(Bl.play (Bl.play Bl.new (cs.take k)).1 (cs.drop k)).2 = A2 := ⟨_,rfl⟩
    obtain ⟨S2,hS2⟩ : ∃ S2,(Bl.play (Bl.play Bl.new (cs.take k)).1 (cs.drop k)).1 = S2 := ⟨_,rfl⟩
    rw [hA1,hA2,hS2] at HZs
    rw [hA1] at HT
    rw [hA2,hS2] at HU
    clear hA1 hA2 hS2
    have hG1 := HZs.out.1.below (bchain HBZ.out HBQ.out)
    have hG2 := HU.out.1
    go_upto_region 6 with fail
    go_wp2_with (first | ((with_reducible apply Bl.wpl_load hG1); rfl; rfl; rfl) | ((with_reducible apply Bl.wpl_load hG2); rfl; rfl; rfl))
    refine (keep_states S2 hs hu Q _ (Below.refl _ _) (HZs.out.2.1.below (bchain HBZ.out HBQ.out)) HU.out.2.1).mono ?_
    rintro e w5 ⟨rfl,b5⟩
    have HB5 := Lib.hid b5
    have HR1 := Lib.hid ((HT.out.2.2.below HBQ.out).below b5)
    have HR2 := Lib.hid (HU.out.2.2.below b5)
    have HRs := Lib.hid ((HZs.out.2.2.below (bchain HBZ.out HBQ.out)).below b5)
    clear b5 hG1 hG2
    go_wp2_with (at_builtin; go_must (refine Rp.wpListG_append _ (by kernel_rfl) (.tmp 45) (.tmp 46) rfl w5.heap.size (.slice (some ⟨w5.heap.size,0,none⟩) 0 0) [] rfl (Rp.own_empty (Nat.le_refl _) (heap_alloc_new w5 _)) to_ tn tc A1 rfl HR1.out.len HR1.out.nil ((HR1.out.below ((Below.refl _ _).alloc (Nat.le_refl _) _)).seg) (by simp only [List.length_nil]; omega) (by simp) ?_))
    intro v1 y1 o1 gr1 _
    have hb1 : Below w5.heap.size w5 y1 := (below_box (Below.refl _ _) _).grown gr1 (by simp) (fun j hj => by simp only [Value.ownBlock,Option.some.injEq] at hj; omega)
    have HO1 := Lib.hid o1
    have HY1 := Lib.hid hb1
    clear o1 gr1 hb1
    go_wp2_with (at_builtin; go_must (refine Rp.wpListG_append _ (by kernel_rfl) (.tmp 47) (.tmp 48) rfl w5.heap.size v1 ([] ++ A1) rfl HO1.out uo un uc A2 rfl HR2.out.len HR2.out.nil ((HR2.out.below HY1.out).seg) (by rw [List.nil_append,← HR1.out.len]; omega) HY1.out.size ?_))
    intro v2 y2 o2 gr2 _
    have hb2 := HY1.out.grown gr2 HY1.out.size (Rp.own_ge HO1.out)
    try rw [List.nil_append] at o2
    obtain ⟨vo,vc,hv2,hL2,_⟩ := Rp.own_ls o2 (fun x hx => HRs.out.short x hx)
    have hl := HRs.out.len
    rw [← hl] at hv2 hL2
    have HL2 := Lib.hid hL2
    have HY2 := Lib.hid hb2
    have hvf := hL2.fits
    have hvr := hL2.reach
    subst hv2
    clear o2 gr2 hb2 hL2 hl
    go_wp2_with fail
    refine (Rp.same_rows (A1 ++ A2) so vo sn sc vc y2 _ (Below.refl _ _) (HRs.out.below HY2.out) HL2.out).mono ?_
    rintro e w7 ⟨rfl,b7⟩
    have HB7 := Lib.hid (bchain (bchain (bchain (bchain (bchain (bchain HBX.out HBY.out) HBZ.out) HBQ.out) HB5.out) HY2.out) b7)
    clear b7
    go_wp2_with fail
    refine (bruns w _ HB7.out).mono ?_
    rintro e w8 ⟨rfl,b8⟩
    have HB8 := Lib.hid b8
    clear b8
    go_wp2_with fail
    go_ret
    exact ⟨rfl,HB8.out⟩
end Go.Proofs.YtjpfpojbalepeabGreat
