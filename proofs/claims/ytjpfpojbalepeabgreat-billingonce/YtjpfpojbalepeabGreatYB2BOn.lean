/- THE WALK OF BillingOnce. (By genonce.py.) -/
import Derived.Test.YtjpfpojbalepeabGreatZB214
import Derived.Test.YtjpfpojbalepeabGreatYB2BOs
set_option maxRecDepth 100000
set_option linter.unusedVariables false
namespace Go.Proofs.YtjpfpojbalepeabGreat
open Go.RowKit
open Mem
set_option maxHeartbeats 8000000 in
theorem billingOnce_walk (rs0 : List Ca.T) (cs0 : List Bl.Cl) (ao0 : Option Addr) (n0 cap0 : Nat) (w : World) (hC : Bl.Cs w ao0 n0 cap0 rs0 cs0) :
  Calls Tryz.prog 4 #[.slice ao0 n0 cap0] w fun e w' => e = .returned (.bool true) ∧ Below w.heap.size w w' := by
 have HC := Lib.hid hC
 clear hC
 go_enter Tryz.func4,Tryz.ntmps4
 go_wp2_with fail
 refine (bil_new w _ (Below.refl _ _)).mono ?_
 rintro e w1 ⟨h0,rfl,hL0,b1⟩
 have hb2 := Bl.below_own w1 h0
 have HA0 := Lib.hid (Bl.at_box w1 h0)
 have HL0 := Lib.hid ((hL0.below hb2).fresh (w1.heap.size + 1))
 have HB1 := Lib.hid (bchain b1 hb2)
 have HG := Lib.hid (b1.size)
 clear hL0 b1 hb2
 go_wp2_with (first | ((with_reducible apply Bl.wpl_store (h := h0) (g := w1.heap.size)); rfl; rfl; rfl; rfl; rfl; rfl))
 refine (law_fewL rs0 cs0 60 ao0 n0 cap0 w _ HC.out HB1.out (by omega)).mono ?_
 rintro e w3 ⟨ao,n,cap,rs,rfl,hn60,hLs,hin,hE,b3⟩
 rw [Bl.box_size] at hin
 have hcap := hLs.reach
 have hfit := hLs.fits
 have HS0 : Hid (OnS w w3 w1.heap.size h0 Bl.new ao n cap rs (Bl.fewL 60 cs0) w3.heap.size none 0 0 []) := Lib.hid (OnS.start (bchain HB1.out b3) HG.out (HA0.out.below b3) (HL0.out.below b3) Bl.right_new hLs hin hE Bl.few_lines)
 clear hLs hin hE b3 HA0 HL0 HB1 HG
 generalize w1.heap.size = g at *
 generalize Bl.fewL 60 cs0 = cs at *
 generalize w3.heap.size = B at *
 go_wp2_with fail
 go_loopw [4,5,6,7,8] (fun v j _ _ _ wr => ∃ (k : Nat) (h : Bl.Sv) (vo : Option Addr) (q vc : Nat) (ds : List Ca.T),k ≤ n ∧ j = .int .i64 k ∧ v = .slice vo q vc ∧ Hid (OnS w wr g h (Bl.play Bl.new (cs.take k)).1 ao n cap rs cs B vo q vc ds) ∧ Hid (Bl.KeyR ds (Bl.doers Bl.new (cs.take k)))) (fun _ j _ _ _ _ => n - (intOf j).toNat)
 case atStart => exact ⟨0,h0,none,0,0,[],by omega,rfl,rfl,HS0,Lib.hid rfl⟩
 case round =>
  clear HS0
  obtain ⟨k,h,vo,q,vc,ds,hk,rfl,rfl,HS,HD⟩ := hrel
  have HPl : Hid ((Bl.play Bl.new (cs.take k)).1.post.length = q) := Lib.hid (by
   have h1 := Bl.doers_len (cs.take k) Bl.new
   have h2 := Bl.keyR_len HD.out
   have h3 := HS.out.qlen
   rw [h1,h3,h2]
   exact Nat.zero_add _)
  by_cases hlt : k < n
  ·
   obtain ⟨b,off,rfl⟩ := HS.out.ls.at (by omega)
   have hkr : k < rs.length := HS.out.ls.len ▸ hlt
   have hkc : k < cs.length := HS.out.each.len ▸ hkr
   have hrow := HS.out.ls.row k hkr
   have HCk := Lib.hid (HS.out.each.each k hkr)
   have HFk := Lib.hid (And.intro (HS.out.few cs[k] (List.getElem_mem hkc)) (HS.out.ls.short rs[k] (List.getElem_mem hkr)))
   have HTk := Lib.hid (Bl.play_take (s := Bl.new) hkc)
   have HNw := Lib.hid (Bl.doers_new (l := cs.take k) (c := cs[k]) Bl.right_new)
   have HSa := Lib.hid (Bl.doers_same (l := cs.take k) (s := Bl.new) (c := cs[k]))
   have HMo := Lib.hid (Bl.doers_more (l := cs.take k) (s := Bl.new) (c := cs[k]))
   have HTs := Lib.hid (List.take_succ_eq_append_getElem hkc)
   generalize rs[k] = r at hrow HCk HFk
   generalize cs[k] = c at HCk HFk HTk HNw HSa HMo HTs
   generalize Bl.play Bl.new (cs.take k) = sp at HS HTk HNw HSa HMo HPl
   generalize Bl.doers Bl.new (cs.take k) = dn at HD HNw HSa HMo
   obtain ⟨s,sq⟩ := sp
   simp only at HS HTk HNw HSa HMo HPl
   have HLs := Lib.hid HS.out.lp.lies
   have HWb := Lib.hid HS.out.bel
   have HRt := Lib.hid HS.out.right
   have hbox := HS.out.box
   go_upto_region 7 with fail
   go_cut [6,7] (fun p p2 wx => ∃ (gt gr : Nat) (h' : Bl.Sv),p = .pointer (some ⟨gt,0,none⟩) ∧ p2 = .pointer (some ⟨gr,0,none⟩) ∧ Hid (Two wr wx gt gr h' (Bl.apply s c).1 (Bl.apply s c).2))
   case first =>
    obtain ⟨x0,x1,x2,x3,x4,x5⟩ := hbox.cells
    obtain ⟨g0,g1,g2,g3,g4,g5,g6,g7,g8,g9,g10,g11,g12,g13,g14,g15,g16⟩ := hrow
    have lx : ∀ u,Below wr.heap.size wr u → Below wr.heap.size wr u ∧ u.cell? ⟨g,0,none⟩ = some (.slice h.tab.ao h.tab.n h.tab.cap) ∧ u.cell? ⟨g,1,none⟩ = some (.slice h.ser.ao h.ser.n h.ser.cap) ∧ u.cell? ⟨g,2,none⟩ = some (.slice h.post.ao h.post.n h.post.cap) ∧ u.cell? ⟨g,3,none⟩ = some (.slice h.book.ao h.book.n h.book.cap) ∧ u.cell? ⟨g,4,none⟩ = some (.slice h.sess.ao h.sess.n h.sess.cap) ∧ u.cell? ⟨g,5,none⟩ = some (.int .i64 h.next) ∧ u.cell? ⟨b,off + k * 17,none⟩ = some (.int .i64 r.sess) ∧ u.cell? ⟨b,off + k * 17 + 1,none⟩ = some (.int .i64 r.seq) ∧ u.cell? ⟨b,off + k * 17 + 2,none⟩ = some (.int .i64 r.kind) ∧ u.cell? ⟨b,off + k * 17 + 3,none⟩ = some (.string r.ser) ∧ u.cell? ⟨b,off + k * 17 + 4,none⟩ = some (.int .i64 r.lim) ∧ u.cell? ⟨b,off + k * 17 + 5,none⟩ = some (.string r.cat) ∧ u.cell? ⟨b,off + k * 17 + 6,none⟩ = some (.int .i64 r.ry) ∧ u.cell? ⟨b,off + k * 17 + 7,none⟩ = some (.int .i64 r.rm) ∧ u.cell? ⟨b,off + k * 17 + 8,none⟩ = some (.int .i64 r.rd) ∧ u.cell? ⟨b,off + k * 17 + 9,none⟩ = some (.int .i64 r.bp) ∧ u.cell? ⟨b,off + k * 17 + 10,none⟩ = some (.int .i64 r.y) ∧ u.cell? ⟨b,off + k * 17 + 11,none⟩ = some (.int .i64 r.m) ∧ u.cell? ⟨b,off + k * 17 + 12,none⟩ = some (.int .i64 r.d) ∧ u.cell? ⟨b,off + k * 17 + 13,none⟩ = some (.slice r.lines.ao r.lines.n r.lines.cap) ∧ u.cell? ⟨b,off + k * 17 + 14,none⟩ = some (.string r.ofS) ∧ u.cell? ⟨b,off + k * 17 + 15,none⟩ = some (.int .i64 r.ofN) ∧ u.cell? ⟨b,off + k * 17 + 16,none⟩ = some (.int .i64 r.csess) := fun u hu => ⟨hu,((bcell hu).1 _ _ (cell_lt x0)).trans x0,((bcell hu).1 _ _ (cell_lt x1)).trans x1,((bcell hu).1 _ _ (cell_lt x2)).trans x2,((bcell hu).1 _ _ (cell_lt x3)).trans x3,((bcell hu).1 _ _ (cell_lt x4)).trans x4,((bcell hu).1 _ _ (cell_lt x5)).trans x5,((bcell hu).1 _ _ (cell_lt g0)).trans g0,((bcell hu).1 _ _ (cell_lt g1)).trans g1,((bcell hu).1 _ _ (cell_lt g2)).trans g2,((bcell hu).1 _ _ (cell_lt g3)).trans g3,((bcell hu).1 _ _ (cell_lt g4)).trans g4,((bcell hu).1 _ _ (cell_lt g5)).trans g5,((bcell hu).1 _ _ (cell_lt g6)).trans g6,((bcell hu).1 _ _ (cell_lt g7)).trans g7,((bcell hu).1 _ _ (cell_lt g8)).trans g8,((bcell hu).1 _ _ (cell_lt g9)).trans g9,((bcell hu).1 _ _ (cell_lt g10)).trans g10,((bcell hu).1 _ _ (cell_lt g11)).trans g11,((bcell hu).1 _ _ (cell_lt g12)).trans g12,((bcell hu).1 _ _ (cell_lt g13)).trans g13,((bcell hu).1 _ _ (cell_lt g14)).trans g14,((bcell hu).1 _ _ (cell_lt g15)).trans g15,((bcell hu).1 _ _ (cell_lt g16)).trans g16⟩
    go_region_held3 (fun u => Below wr.heap.size wr u ∧ u.cell? ⟨g,0,none⟩ = some (.slice h.tab.ao h.tab.n h.tab.cap) ∧ u.cell? ⟨g,1,none⟩ = some (.slice h.ser.ao h.ser.n h.ser.cap) ∧ u.cell? ⟨g,2,none⟩ = some (.slice h.post.ao h.post.n h.post.cap) ∧ u.cell? ⟨g,3,none⟩ = some (.slice h.book.ao h.book.n h.book.cap) ∧ u.cell? ⟨g,4,none⟩ = some (.slice h.sess.ao h.sess.n h.sess.cap) ∧ u.cell? ⟨g,5,none⟩ = some (.int .i64 h.next) ∧ u.cell? ⟨b,off + k * 17,none⟩ = some (.int .i64 r.sess) ∧ u.cell? ⟨b,off + k * 17 + 1,none⟩ = some (.int .i64 r.seq) ∧ u.cell? ⟨b,off + k * 17 + 2,none⟩ = some (.int .i64 r.kind) ∧ u.cell? ⟨b,off + k * 17 + 3,none⟩ = some (.string r.ser) ∧ u.cell? ⟨b,off + k * 17 + 4,none⟩ = some (.int .i64 r.lim) ∧ u.cell? ⟨b,off + k * 17 + 5,none⟩ = some (.string r.cat) ∧ u.cell? ⟨b,off + k * 17 + 6,none⟩ = some (.int .i64 r.ry) ∧ u.cell? ⟨b,off + k * 17 + 7,none⟩ = some (.int .i64 r.rm) ∧ u.cell? ⟨b,off + k * 17 + 8,none⟩ = some (.int .i64 r.rd) ∧ u.cell? ⟨b,off + k * 17 + 9,none⟩ = some (.int .i64 r.bp) ∧ u.cell? ⟨b,off + k * 17 + 10,none⟩ = some (.int .i64 r.y) ∧ u.cell? ⟨b,off + k * 17 + 11,none⟩ = some (.int .i64 r.m) ∧ u.cell? ⟨b,off + k * 17 + 12,none⟩ = some (.int .i64 r.d) ∧ u.cell? ⟨b,off + k * 17 + 13,none⟩ = some (.slice r.lines.ao r.lines.n r.lines.cap) ∧ u.cell? ⟨b,off + k * 17 + 14,none⟩ = some (.string r.ofS) ∧ u.cell? ⟨b,off + k * 17 + 15,none⟩ = some (.int .i64 r.ofN) ∧ u.cell? ⟨b,off + k * 17 + 16,none⟩ = some (.int .i64 r.csess)) (first | with_reducible assumption | (apply lx; repeat (first | with_reducible assumption | with_reducible apply below_box | with_reducible apply Below.drew | with_reducible apply Mem.bset | with_reducible exact Below.refl _ _ | omega)) | fail) (first | (go_at_call 11; have hBz := And.left (by assumption); refine (bil_apply s c h r _ _ (Below.refl _ _) (HLs.out.below hBz) (HCk.out.below (bchain HWb.out hBz)) HFk.out.2 HRt.out HFk.out.1).mono ?_; rintro e u ⟨h',rfl,hL',b'⟩; have hBx := bchain hBz b'; have s2 := lx _ hBx; have z2 := hBx.size; (first | (have D : Bl.At u wr.heap.size Bl.z := (b'.block _ (ltA wr _)).trans (heap_alloc_new wr _); have LD := fixA hL' (ltA wr _)) | (have D : Bl.At u wr.heap.size Bl.z := (b'.block _ (ltB wr _ _)).trans (heap_old (heap_alloc_new wr _)); have LD := fixA hL' (ltB wr _ _)) | (have D : Bl.At u (wr.heap.size + 1) Bl.z := (b'.block _ (ltC wr _ _)).trans (heap_next wr _ _); have LD := fixA hL' (ltC wr _ _)) | skip); (first | (have E : Rp.Bk u wr.heap.size ⟨0,0,0⟩ := (b'.block _ (ltA wr _)).trans (heap_alloc_new wr _); have LE := fixA hL' (ltA wr _)) | (have E : Rp.Bk u wr.heap.size ⟨0,0,0⟩ := (b'.block _ (ltB wr _ _)).trans (heap_old (heap_alloc_new wr _)); have LE := fixA hL' (ltB wr _ _)) | (have E : Rp.Bk u (wr.heap.size + 1) ⟨0,0,0⟩ := (b'.block _ (ltC wr _ _)).trans (heap_next wr _ _); have LE := fixA hL' (ltC wr _ _)) | skip); (try (obtain ⟨q0,q1,q2,q3,q4,q5⟩ := D.cells; have qL := D.lt; have qf0 := D.frozen 0; have qf1 := D.frozen 1; have qf2 := D.frozen 2; have qf3 := D.frozen 3; have qf4 := D.frozen 4; have qf5 := D.frozen 5)); (try (have eC := E.c; unfold Rp.C at eC; obtain ⟨e0,e1,e2⟩ := eC; have eL := E.lt; have ef0 := E.frozen 0; have ef1 := E.frozen 1; have ef2 := E.frozen 2)); have HLx := Lib.hid (And.intro hL' hBz.size); have HBx := Lib.hid hBx; unfold Bl.Sv.val Bl.sl Rp.val; clear hL' b' hBz) | fail)
    all_goals (try go_wp2_with fail)
    all_goals go_meet
    · exact ⟨_,_,h',rfl,rfl,Lib.hid (two1 HBx.out HLx.out.1 HLx.out.2)⟩
    · exact ⟨_,_,h',rfl,rfl,Lib.hid (two2 HBx.out HLx.out.1 HLx.out.2)⟩
    · exact ⟨_,_,h',rfl,rfl,Lib.hid (two3 HBx.out HLx.out.1 HLx.out.2 D (by omega) LD)⟩
    · exact ⟨_,_,h',rfl,rfl,Lib.hid (two4 HBx.out HLx.out.1 HLx.out.2 D E (by omega) (by omega) (by omega) LD LE)⟩
    · exact ⟨_,_,h',rfl,rfl,Lib.hid (two5 HBx.out HLx.out.1 HLx.out.2 E (by omega) LE)⟩
    · exact ⟨_,_,h',rfl,rfl,Lib.hid (two4 HBx.out HLx.out.1 HLx.out.2 D E (by omega) (by omega) (by omega) LD LE)⟩
   case rest =>
    rename World => wx
    obtain ⟨gt,gr,h2,rfl,rfl,HT⟩ := hcut
    have hA1 := HT.out.box
    have hA2 := HS.out.box.below HT.out.bel
    have HRt2 := Lib.hid (HS.out.right.applied c)
    have HP2 : Hid (h2.post.n = (Bl.apply s c).1.post.length) := Lib.hid (by
     obtain ⟨rs',h1,h2',_⟩ := HT.out.lies.post
     rw [h1.len,h2'.len])
    have HP1 : Hid (h.post.n = q) := Lib.hid (by
     obtain ⟨rs',h1,h2',_⟩ := HS.out.lp.post
     rw [h1.len,h2'.len,HPl.out])
    obtain ⟨y0,y1,y2,y3,y4,y5⟩ := hA1.cells
    obtain ⟨z0,z1,z2,z3,z4,z5⟩ := hA2.cells
    rw [HP1.out] at z2
    clear hbox HLs
    rcases Bl.apply_len s c with hl | hl
    ·
     have hd : ¬ q < h2.post.n := by have := HP2.out; have := HPl.out; omega
     have HN := Lib.hid (HS.out.put HT.out.bel HT.out.lies HRt2.out)
     have HSm := Lib.hid (HSa.out hl)
     clear hl
     go_wp2_with (first | ((with_reducible apply Bl.wpl_load hA1); rfl; rfl; rfl) | ((with_reducible apply Bl.wpl_put (h := h2) hA2); rfl; rfl; rfl; rfl))
     go_roundw
     case rel =>
      refine ⟨k + 1,h2,vo,q,vc,ds,by omega,by go_num,rfl,Lib.hid ?_,Lib.hid ?_⟩
      ·
       rw [HTk.out]
       exact HN.out
      ·
       rw [HTs.out,HSm.out]
       exact HD.out
     case measure => simp [intOf]; omega
    ·
     have hd : q < h2.post.n := by have := HP2.out; have := HPl.out; omega
     have HNo := Lib.hid (HNw.out (by omega))
     have HSm := Lib.hid (HMo.out (by omega))
     clear hl
     obtain ⟨lo,lc,el,hLd,_⟩ := Ca.own_ls (Ca.own_below HS.out.own HT.out.bel) HS.out.sh
     simp only [Value.slice.injEq] at el
     obtain ⟨e1,e2,e3⟩ := el
     subst e1 e3
     rw [← e2] at hLd
     have HLd := Lib.hid hLd
     have hcd := hLd.reach
     have hfd := hLd.fits
     clear hLd e2
     go_wp2_with fail
     clear hd y0 y1 y2 y3 y4 y5 z0 z1 z2 z3 z4 z5
     go_loopw [8] (fun j wk => ∃ m : Nat,m ≤ q ∧ j = .int .i64 m ∧ Hid (Below wx.heap.size wx wk)) (fun j _ => q - (intOf j).toNat)
     case atStart => exact ⟨0,by omega,rfl,Lib.hid (Below.refl _ _)⟩
     case round =>
      rename World => wk
      obtain ⟨m,hm,rfl,HBk⟩ := hrel
      have hrow2 := (hrow.below HT.out.bel).below HBk.out
      by_cases hml : m < q
      ·
       obtain ⟨bd,od,rfl⟩ := HLd.out.at (by omega)
       have hmd : m < ds.length := HLd.out.len ▸ hml
       have hrd := (HLd.out.row m hmd).below HBk.out
       have HNe := Lib.hid (Bl.keyR_ne HD.out HNo.out m hmd)
       rw [← HCk.out.sess,← HCk.out.seq] at HNe
       generalize ds[m] = d at hrd HNe
       have g0 := cell_regrown hrow2.c0
       have g1 := cell_regrown hrow2.c1
       have f0 := cell_regrown hrd.c0
       have f1 := cell_regrown hrd.c1
       clear hrow2 hrd
       by_cases e0 : d.sess = r.sess
       ·
        have q0 : (d.sess == r.sess) = true := beq_iff_eq.2 e0
        have q1 : (d.seq == r.seq) = false := beq_eq_false_iff_ne.2 (fun z => HNe.out ⟨e0,z⟩)
        clear e0
        go_wp2_with fail
        refine wp_region_quiet_below (by kernel_rfl) (by kernel_rfl) ?_
        repeat (first | go_big_quiet_step (fail) | quiet_step (fail))
        refine wpQuiet_nil ?_
        intro _ hw'
        obtain ⟨⟨dq,osq⟩,hw''⟩ := hw'
        subst hw''
        have HBv := Lib.hid (bchain HBk.out (below_regrown wk dq osq))
        go_wp2_with fail
        go_roundw
        case rel => exact ⟨m + 1,by omega,by go_num,HBv⟩
        case measure => simp [intOf]; omega
       ·
        have q0 : (d.sess == r.sess) = false := beq_eq_false_iff_ne.2 e0
        clear e0
        go_wp2_with fail
        refine wp_region_quiet_below (by kernel_rfl) (by kernel_rfl) ?_
        repeat (first | go_big_quiet_step (fail) | quiet_step (fail))
        refine wpQuiet_nil ?_
        intro _ hw'
        obtain ⟨⟨dq,osq⟩,hw''⟩ := hw'
        subst hw''
        have HBv := Lib.hid (bchain HBk.out (below_regrown wk dq osq))
        go_wp2_with fail
        go_roundw
        case rel => exact ⟨m + 1,by omega,by go_num,HBv⟩
        case measure => simp [intOf]; omega
      ·
       obtain rfl : m = q := by omega
       have hBw := bchain HT.out.bel HBk.out
       have HBw := Lib.hid hBw
       have hbA : Below wk.heap.size wk (wk.alloc (Ca.block r)) := (Below.refl _ _).alloc (Nat.le_refl _) _
       have HOa := Lib.hid (Ca.own_below (Ca.own_below HS.out.own hBw) hbA)
       have HBa := Lib.hid (bchain hBw hbA)
       have HLa := Lib.hid ((HT.out.lies.below HBk.out).below hbA)
       have hA1a := (hA1.below HBk.out).below hbA
       have hA2a := (hA2.below HBk.out).below hbA
       have HA1a := Lib.hid hA1a
       have HA2a := Lib.hid hA2a
       have HM : Hid (m = ds.length ∧ m ≤ 1000) := Lib.hid ⟨HLd.out.len,by have := HPl.out; have := HS.out.right.few; omega⟩
       clear hA1a hA2a hBw hbA
       go_wp2_with (first | ((with_reducible apply Ca.wpl_load hrow2); rfl; rfl; rfl) | ((with_reducible apply Ca.wpl_one (r := r)); rfl; rfl; rfl) | (at_builtin; go_must (refine Ca.wpList_append (wk.alloc (Ca.block r)) rfl (.tmp 64) (.tmp 69) rfl B (.slice vo m vc) ds rfl HOa.out (some ⟨wk.heap.size,0,none⟩) 1 1 [r] rfl rfl (fun h => by cases h) (Ca.seg_block (heap_alloc_new wk _)) (by have := HM.out; omega) (by have := HS.out.Bw; have := HBa.out.size; omega) ?_)))
       intro v5 w5 o5 gr5 hv5
       obtain ⟨va,q5,vc5,hv⟩ := Ca.own_slice o5
       subst hv
       have hA1b := HS.out.kept gr5 HA1a.out (by have := HT.out.gt; omega)
       have hA2b := HS.out.var gr5 HA2a.out
       have HN := Lib.hid (HS.out.app HBa.out HLa.out HRt2.out gr5 (by rw [show (wk.alloc (Ca.block r)).heap.size = wk.heap.size + 1 by simp]; exact hv5) o5 HFk.out.2)
       have HQ5 : Hid (q5 = m + 1) := Lib.hid (by have h1 := HN.out.qlen; rw [List.length_append,← HM.out.1] at h1; exact h1)
       clear gr5 hv5 o5
       go_wp2_with (first | ((with_reducible apply Bl.wpl_load hA1b); rfl; rfl; rfl) | ((with_reducible apply Bl.wpl_put (h := h2) hA2b); rfl; rfl; rfl; rfl))
       go_roundw
       case rel =>
        refine ⟨k + 1,h2,va,q5,vc5,ds ++ [r],by omega,by go_num,rfl,Lib.hid ?_,Lib.hid ?_⟩
        ·
         rw [HTk.out]
         exact HN.out
        ·
         rw [HTs.out,HSm.out]
         exact Bl.keyR_add HD.out HCk.out.sess HCk.out.seq
       case measure => simp [intOf]; omega
  ·
   obtain rfl : k = n := by omega
   have HP1 : Hid (h.post.n = q) := Lib.hid (by
    obtain ⟨rs',h1,h2',_⟩ := HS.out.lp.post
    rw [h1.len,h2'.len,HPl.out])
   obtain ⟨z0,z1,z2,z3,z4,z5⟩ := HS.out.box.cells
   rw [HP1.out] at z2
   have hq : ((q : Int) == (q : Int)) = true := beq_self_eq_true _
   have HB5 := Lib.hid HS.out.bel
   go_wp2_with fail
   refine (bruns w _ HB5.out).mono ?_
   rintro e w6 ⟨rfl,b6⟩
   have HB6 := Lib.hid b6
   clear b6
   go_wp2_with fail
   go_ret
   exact ⟨rfl,HB6.out⟩
end Go.Proofs.YtjpfpojbalepeabGreat
