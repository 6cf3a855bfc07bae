/- THE WALK OF BillingGapless. (By gengap.py.) -/
import Derived.Test.YtjpfpojbalepeaaGreatYGBGk
import Derived.Test.YtjpfpojbalepeaaGreatZG14
set_option maxRecDepth 100000
set_option linter.unusedVariables false
namespace Go.Proofs.YtjpfpojbalepeaaGreat
open Go.RowKit
open Mem
open Go.Sort (grow)
set_option maxHeartbeats 8000000 in
theorem billingGapless_walk (rs0 : List Ca.T) (cs0 : List Bl.Cl) (ao0 : Option Addr) (n0 cap0 : Nat) (w : World) (hC : Bl.Cs w ao0 n0 cap0 rs0 cs0) :
  Calls Tryz.prog 7 #[.slice ao0 n0 cap0] w fun e w' => e = .returned (.bool true) ∧ Below w.heap.size w w' := by
 have HC := Lib.hid hC
 clear hC
 go_enter Tryz.func7,Tryz.ntmps7
 go_wp2_with fail
 refine (bil_new w _ (Below.refl _ _)).mono ?_
 rintro e w1 ⟨h0,rfl,hL0,b1⟩
 have hb2 := Bl.below_own w1 h0
 have HA0 := Lib.hid (Bl.at_box w1 h0)
 have HL0 := Lib.hid ((hL0.below hb2).fresh (w1.heap.size + 1))
 have HB1 := Lib.hid (bchain b1 hb2)
 have HG := Lib.hid (b1.size)
 clear hL0 b1 hb2
 go_wp2_with (first | ((with_reducible apply Bl.wpl_store (h := h0) (g := w1.heap.size)); rfl; rfl; rfl; rfl; rfl; rfl))
 refine (law_fewL rs0 cs0 60 ao0 n0 cap0 w _ HC.out HB1.out (by omega)).mono ?_
 rintro e w3 ⟨ao,n,cap,rs,rfl,hn60,hLs,hin,hE,b3⟩
 rw [Bl.box_size] at hin
 have hcap := hLs.reach
 have hfit := hLs.fits
 have HS0 : Hid (BSt w w3 w1.heap.size h0 Bl.new ao n cap rs (Bl.fewL 60 cs0)) := Lib.hid ⟨bchain HB1.out b3,HG.out,HA0.out.below b3,HL0.out.below b3,Bl.right_new,hLs,hin,hE,Bl.few_lines⟩
 clear hLs hin hE b3 HA0 HL0 HB1 HG
 generalize w1.heap.size = g at *
 generalize Bl.fewL 60 cs0 = cs at *
 go_wp2_with fail
 go_loopw [4,5,6,7,8] (fun j _ _ _ _ wr => ∃ (k : Nat) (h : Bl.Sv) (s : Bl.St),k ≤ n ∧ j = .int .i64 k ∧ Hid (BSt w wr g h s ao n cap rs cs)) (fun j _ _ _ _ _ => n - (intOf j).toNat)
 case atStart => exact ⟨0,h0,Bl.new,by omega,rfl,HS0⟩
 case round =>
  clear HS0
  obtain ⟨k,h,s,hk,rfl,HS⟩ := hrel
  by_cases hlt : k < n
  ·
   obtain ⟨b,off,rfl⟩ := HS.out.ls.at (by omega)
   have hkr : k < rs.length := HS.out.len.1 ▸ hlt
   have hkc : k < cs.length := HS.out.len.2 ▸ hkr
   have hrow := HS.out.ls.row k hkr
   have HCk := Lib.hid (HS.out.each.each k hkr)
   have HFk := Lib.hid (And.intro (HS.out.few cs[k] (List.getElem_mem hkc)) (HS.out.ls.short rs[k] (List.getElem_mem hkr)))
   generalize rs[k] = r at hrow HCk HFk
   generalize cs[k] = c at HCk HFk
   have HLs := Lib.hid HS.out.lies.lies
   have HWb := Lib.hid HS.out.bel
   have HRt := Lib.hid HS.out.right
   have hbox := HS.out.box
   have hx2 := hbox.cells.2.2.1
   have HP1 : Hid (h.post.n = s.post.length) := Lib.hid (by
    obtain ⟨rs',h1,h2',_⟩ := HS.out.lies.post
    rw [h1.len,h2'.len])
   obtain ⟨P,hP⟩ : ∃ P,h.post.n = P := ⟨_,rfl⟩
   rw [hP] at hx2 HP1
   have HPh := Lib.hid hP
   clear hP
   go_upto_region 7 with fail
   go_cut [6,7] (fun p p2 wx => ∃ (gt gr : Nat) (h' : Bl.Sv),p = .pointer (some ⟨gt,0,none⟩) ∧ p2 = .pointer (some ⟨gr,0,none⟩) ∧ Hid (Two wr wx gt gr h' (Bl.apply s c).1 (Bl.apply s c).2))
   case first =>
    obtain ⟨x0,x1,x2,x3,x4,x5⟩ := hbox.cells
    obtain ⟨g0,g1,g2,g3,g4,g5,g6,g7,g8,g9,g10,g11,g12,g13,g14,g15,g16⟩ := hrow
    have lx : ∀ u,Below wr.heap.size wr u → Below wr.heap.size wr u ∧ u.cell? ⟨g,0,none⟩ = some (.slice h.tab.ao h.tab.n h.tab.cap) ∧ u.cell? ⟨g,1,none⟩ = some (.slice h.ser.ao h.ser.n h.ser.cap) ∧ u.cell? ⟨g,2,none⟩ = some (.slice h.post.ao h.post.n h.post.cap) ∧ u.cell? ⟨g,3,none⟩ = some (.slice h.book.ao h.book.n h.book.cap) ∧ u.cell? ⟨g,4,none⟩ = some (.slice h.sess.ao h.sess.n h.sess.cap) ∧ u.cell? ⟨g,5,none⟩ = some (.int .i64 h.next) ∧ u.cell? ⟨b,off + k * 17,none⟩ = some (.int .i64 r.sess) ∧ u.cell? ⟨b,off + k * 17 + 1,none⟩ = some (.int .i64 r.seq) ∧ u.cell? ⟨b,off + k * 17 + 2,none⟩ = some (.int .i64 r.kind) ∧ u.cell? ⟨b,off + k * 17 + 3,none⟩ = some (.string r.ser) ∧ u.cell? ⟨b,off + k * 17 + 4,none⟩ = some (.int .i64 r.lim) ∧ u.cell? ⟨b,off + k * 17 + 5,none⟩ = some (.string r.cat) ∧ u.cell? ⟨b,off + k * 17 + 6,none⟩ = some (.int .i64 r.ry) ∧ u.cell? ⟨b,off + k * 17 + 7,none⟩ = some (.int .i64 r.rm) ∧ u.cell? ⟨b,off + k * 17 + 8,none⟩ = some (.int .i64 r.rd) ∧ u.cell? ⟨b,off + k * 17 + 9,none⟩ = some (.int .i64 r.bp) ∧ u.cell? ⟨b,off + k * 17 + 10,none⟩ = some (.int .i64 r.y) ∧ u.cell? ⟨b,off + k * 17 + 11,none⟩ = some (.int .i64 r.m) ∧ u.cell? ⟨b,off + k * 17 + 12,none⟩ = some (.int .i64 r.d) ∧ u.cell? ⟨b,off + k * 17 + 13,none⟩ = some (.slice r.lines.ao r.lines.n r.lines.cap) ∧ u.cell? ⟨b,off + k * 17 + 14,none⟩ = some (.string r.ofS) ∧ u.cell? ⟨b,off + k * 17 + 15,none⟩ = some (.int .i64 r.ofN) ∧ u.cell? ⟨b,off + k * 17 + 16,none⟩ = some (.int .i64 r.csess) := fun u hu => ⟨hu,((bcell hu).1 _ _ (cell_lt x0)).trans x0,((bcell hu).1 _ _ (cell_lt x1)).trans x1,((bcell hu).1 _ _ (cell_lt x2)).trans x2,((bcell hu).1 _ _ (cell_lt x3)).trans x3,((bcell hu).1 _ _ (cell_lt x4)).trans x4,((bcell hu).1 _ _ (cell_lt x5)).trans x5,((bcell hu).1 _ _ (cell_lt g0)).trans g0,((bcell hu).1 _ _ (cell_lt g1)).trans g1,((bcell hu).1 _ _ (cell_lt g2)).trans g2,((bcell hu).1 _ _ (cell_lt g3)).trans g3,((bcell hu).1 _ _ (cell_lt g4)).trans g4,((bcell hu).1 _ _ (cell_lt g5)).trans g5,((bcell hu).1 _ _ (cell_lt g6)).trans g6,((bcell hu).1 _ _ (cell_lt g7)).trans g7,((bcell hu).1 _ _ (cell_lt g8)).trans g8,((bcell hu).1 _ _ (cell_lt g9)).trans g9,((bcell hu).1 _ _ (cell_lt g10)).trans g10,((bcell hu).1 _ _ (cell_lt g11)).trans g11,((bcell hu).1 _ _ (cell_lt g12)).trans g12,((bcell hu).1 _ _ (cell_lt g13)).trans g13,((bcell hu).1 _ _ (cell_lt g14)).trans g14,((bcell hu).1 _ _ (cell_lt g15)).trans g15,((bcell hu).1 _ _ (cell_lt g16)).trans g16⟩
    go_region_held3 (fun u => Below wr.heap.size wr u ∧ u.cell? ⟨g,0,none⟩ = some (.slice h.tab.ao h.tab.n h.tab.cap) ∧ u.cell? ⟨g,1,none⟩ = some (.slice h.ser.ao h.ser.n h.ser.cap) ∧ u.cell? ⟨g,2,none⟩ = some (.slice h.post.ao h.post.n h.post.cap) ∧ u.cell? ⟨g,3,none⟩ = some (.slice h.book.ao h.book.n h.book.cap) ∧ u.cell? ⟨g,4,none⟩ = some (.slice h.sess.ao h.sess.n h.sess.cap) ∧ u.cell? ⟨g,5,none⟩ = some (.int .i64 h.next) ∧ u.cell? ⟨b,off + k * 17,none⟩ = some (.int .i64 r.sess) ∧ u.cell? ⟨b,off + k * 17 + 1,none⟩ = some (.int .i64 r.seq) ∧ u.cell? ⟨b,off + k * 17 + 2,none⟩ = some (.int .i64 r.kind) ∧ u.cell? ⟨b,off + k * 17 + 3,none⟩ = some (.string r.ser) ∧ u.cell? ⟨b,off + k * 17 + 4,none⟩ = some (.int .i64 r.lim) ∧ u.cell? ⟨b,off + k * 17 + 5,none⟩ = some (.string r.cat) ∧ u.cell? ⟨b,off + k * 17 + 6,none⟩ = some (.int .i64 r.ry) ∧ u.cell? ⟨b,off + k * 17 + 7,none⟩ = some (.int .i64 r.rm) ∧ u.cell? ⟨b,off + k * 17 + 8,none⟩ = some (.int .i64 r.rd) ∧ u.cell? ⟨b,off + k * 17 + 9,none⟩ = some (.int .i64 r.bp) ∧ u.cell? ⟨b,off + k * 17 + 10,none⟩ = some (.int .i64 r.y) ∧ u.cell? ⟨b,off + k * 17 + 11,none⟩ = some (.int .i64 r.m) ∧ u.cell? ⟨b,off + k * 17 + 12,none⟩ = some (.int .i64 r.d) ∧ u.cell? ⟨b,off + k * 17 + 13,none⟩ = some (.slice r.lines.ao r.lines.n r.lines.cap) ∧ u.cell? ⟨b,off + k * 17 + 14,none⟩ = some (.string r.ofS) ∧ u.cell? ⟨b,off + k * 17 + 15,none⟩ = some (.int .i64 r.ofN) ∧ u.cell? ⟨b,off + k * 17 + 16,none⟩ = some (.int .i64 r.csess)) (first | with_reducible assumption | (apply lx; repeat (first | with_reducible assumption | with_reducible apply below_box | with_reducible apply Below.drew | with_reducible apply Mem.bset | with_reducible exact Below.refl _ _ | omega)) | fail) (first | (go_at_call 17; have hBz := And.left (by assumption); refine (bil_apply s c h r _ _ (Below.refl _ _) (HLs.out.below hBz) (HCk.out.below (bchain HWb.out hBz)) HFk.out.2 HRt.out HFk.out.1).mono ?_; rintro e u ⟨h',rfl,hL',b'⟩; have hBx := bchain hBz b'; have s2 := lx _ hBx; have z2 := hBx.size; (first | (have D : Bl.At u wr.heap.size Bl.z := (b'.block _ (ltA wr _)).trans (heap_alloc_new wr _); have LD := fixA hL' (ltA wr _)) | (have D : Bl.At u wr.heap.size Bl.z := (b'.block _ (ltB wr _ _)).trans (heap_old (heap_alloc_new wr _)); have LD := fixA hL' (ltB wr _ _)) | (have D : Bl.At u (wr.heap.size + 1) Bl.z := (b'.block _ (ltC wr _ _)).trans (heap_next wr _ _); have LD := fixA hL' (ltC wr _ _)) | skip); (first | (have E : Rp.Bk u wr.heap.size ⟨0,0,0⟩ := (b'.block _ (ltA wr _)).trans (heap_alloc_new wr _); have LE := fixA hL' (ltA wr _)) | (have E : Rp.Bk u wr.heap.size ⟨0,0,0⟩ := (b'.block _ (ltB wr _ _)).trans (heap_old (heap_alloc_new wr _)); have LE := fixA hL' (ltB wr _ _)) | (have E : Rp.Bk u (wr.heap.size + 1) ⟨0,0,0⟩ := (b'.block _ (ltC wr _ _)).trans (heap_next wr _ _); have LE := fixA hL' (ltC wr _ _)) | skip); (try (obtain ⟨q0,q1,q2,q3,q4,q5⟩ := D.cells; have qL := D.lt; have qf0 := D.frozen 0; have qf1 := D.frozen 1; have qf2 := D.frozen 2; have qf3 := D.frozen 3; have qf4 := D.frozen 4; have qf5 := D.frozen 5)); (try (have eC := E.c; unfold Rp.C at eC; obtain ⟨e0,e1,e2⟩ := eC; have eL := E.lt; have ef0 := E.frozen 0; have ef1 := E.frozen 1; have ef2 := E.frozen 2)); have HLx := Lib.hid (And.intro hL' hBz.size); have HBx := Lib.hid hBx; unfold Bl.Sv.val Bl.sl Rp.val; clear hL' b' hBz) | fail)
    all_goals (try go_wp2_with fail)
    all_goals go_meet
    · exact ⟨_,_,h',rfl,rfl,Lib.hid (two1 HBx.out HLx.out.1 HLx.out.2)⟩
    · exact ⟨_,_,h',rfl,rfl,Lib.hid (two2 HBx.out HLx.out.1 HLx.out.2)⟩
    · exact ⟨_,_,h',rfl,rfl,Lib.hid (two3 HBx.out HLx.out.1 HLx.out.2 D (by omega) LD)⟩
    · exact ⟨_,_,h',rfl,rfl,Lib.hid (two4 HBx.out HLx.out.1 HLx.out.2 D E (by omega) (by omega) (by omega) LD LE)⟩
    · exact ⟨_,_,h',rfl,rfl,Lib.hid (two5 HBx.out HLx.out.1 HLx.out.2 E (by omega) LE)⟩
    · exact ⟨_,_,h',rfl,rfl,Lib.hid (two4 HBx.out HLx.out.1 HLx.out.2 D E (by omega) (by omega) (by omega) LD LE)⟩
   case rest =>
    rename World => wx
    obtain ⟨gt,gr,h2,rfl,rfl,HT⟩ := hcut
    have hA1 := HT.out.box
    have hA2 := HS.out.box.below HT.out.bel
    have HRt2 := Lib.hid (HS.out.right.applied c)
    obtain ⟨rs2,hp1,hp2,_⟩ := HT.out.lies.post
    have HPl := Lib.hid hp1
    have HPe := Lib.hid hp2
    have HP2 : Hid (h2.post.n = (Bl.apply s c).1.post.length) := Lib.hid (by rw [hp1.len,hp2.len])
    have hp2c := hp1.reach
    have hp2f := hp1.fits
    obtain ⟨y0,y1,y2,y3,y4,y5⟩ := hA1.cells
    clear hbox HLs hx2 hp1 hp2
    rcases Bl.apply_len s c with hl | hl
    ·
     have hd : ¬ P < h2.post.n := by have := HP2.out; have := HP1.out; omega
     have HN := Lib.hid (HS.out.lay HT.out.bel HT.out.lies HRt2.out)
     clear hl
     go_wp2_with (first | ((with_reducible apply Bl.wpl_load hA1); rfl; rfl; rfl) | ((with_reducible apply Bl.wpl_put (h := h2) hA2); rfl; rfl; rfl; rfl))
     go_roundw
     case rel => exact ⟨k + 1,h2,_,by omega,by go_num,HN⟩
     case measure => simp [intOf]; omega
    ·
     have hd : P < h2.post.n := by have := HP2.out; have := HP1.out; omega
     have hd2 : h2.post.n = P + 1 := by have := HP2.out; have := HP1.out; omega
     have hPr : P < rs2.length := HPl.out.len ▸ hd
     obtain ⟨b2,off2,e2⟩ := HPl.out.at (by omega)
     have hl2 := HPl.out
     rw [e2,hd2] at hl2
     rw [e2,hd2] at y2
     have hrow2 := hl2.row P hPr
     obtain ⟨q1,q2,q3,q4⟩ := Bl.grown_row HPe.out P HP1.out hPr hl
     generalize rs2[P] = r2 at hrow2 q2 q3 q4
     obtain ⟨r0,r1,r2'⟩ : Rp.C wx gr (Bl.apply s c).2 := HT.out.rep.c
     rw [q1] at r0
     rw [q2] at r1
     rw [q3] at r2'
     have t1 : (r2.ser.toList == r.ser.toList) = true := beq_iff_eq.2 (by rw [q4,HCk.out.ser])
     have hbP := Pd.below_own wx r2
     have HBP := Lib.hid hbP
     obtain ⟨a0,a1,a2,a3,a4,a5,a6,a7,a8,a9,a10,a11⟩ : Pd.C (Pd.box wx r2) wx.heap.size r2 := Pd.c_box wx r2
     have o0 := cell_regrown a0
     have o1 := cell_regrown a1
     have o7 := cell_regrown a7
     have u2 := cell_regrown (((bcell hbP).1 _ _ (cell_lt y2)).trans y2)
     have v0 := cell_regrown (((bcell hbP).1 _ _ (cell_lt r0)).trans r0)
     have v1 := cell_regrown (((bcell hbP).1 _ _ (cell_lt r1)).trans r1)
     have v2 := cell_regrown (((bcell hbP).1 _ _ (cell_lt r2')).trans r2')
     have hrw := (hrow.below HT.out.bel).below hbP
     have v3 := cell_regrown hrw.c3
     have n1 : ((((P + 1 : Nat) : Int)) != ((P : Int) + 1)) = false := by rw [bne_eq_false_iff_eq]; omega
     have n2 : (r2.num != r2.num) = false := bne_self_eq_false _
     have n3 : (r2.gross != r2.gross) = false := bne_self_eq_false _
     clear hl hl2 q1 q2 q3 q4 hrw hbP e2 a2 a3 a4 a5 a6 a8 a9 a10 a11 r0 r1 r2' a0 a1 a7 y0 y1 y3 y4 y5
     go_wp2_with (first | ((with_reducible apply Pd.wpl_load hrow2); rfl; rfl; rfl) | ((with_reducible apply Pd.wpl_store (r := r2) (g := wx.heap.size)); rfl; rfl; rfl; rfl; rfl; rfl))
     refine wp_region_quiet_below (by kernel_rfl) (by kernel_rfl) ?_
     repeat (first | go_big_quiet_step (fail) | quiet_step (fail))
     refine wpQuiet_nil ?_
     intro _ hw'
     obtain ⟨⟨dq,osq⟩,hw''⟩ := hw'
     subst hw''
     have hbr := bchain HBP.out (below_regrown (Pd.box wx r2) dq osq)
     have hA1r := hA1.below hbr
     have hA2r := hA2.below hbr
     have HN := Lib.hid (HS.out.lay (bchain HT.out.bel hbr) (HT.out.lies.below hbr) HRt2.out)
     clear hbr
     go_wp2_with (first | ((with_reducible apply Bl.wpl_load hA1r); rfl; rfl; rfl) | ((with_reducible apply Bl.wpl_put (h := h2) hA2r); rfl; rfl; rfl; rfl))
     go_roundw
     case rel => exact ⟨k + 1,h2,_,by omega,by go_num,HN⟩
     case measure => simp [intOf]; omega
  ·
   obtain rfl : k = n := by omega
   obtain ⟨rsP,hp1,hp2,_⟩ := HS.out.lies.post
   have HPl := Lib.hid hp1
   have HPe := Lib.hid hp2
   have HRt := Lib.hid HS.out.right
   have HG0 : Hid (GpS w wr g h rsP wr.heap.size none 0 none 0 0 [] []) := Lib.hid ⟨HS.out.bel,HS.out.box,hp1,hp1.inp,World.ownsRow_nil _ _ _ _,World.ownsRow_nil _ _ _ _,(fun k e => by cases e),HS.out.box.lt,HS.out.bel.size,Nat.le_refl _⟩
   have hpc := hp1.reach
   have hpf := hp1.fits
   have HPn : Hid (h.post.n = s.post.length) := Lib.hid (by rw [hp1.len,hp2.len])
   obtain ⟨B,hB⟩ : ∃ B,wr.heap.size = B := ⟨_,rfl⟩
   rw [hB] at HG0
   obtain ⟨P,hP⟩ : ∃ P,h.post.n = P := ⟨_,rfl⟩
   rw [hP] at hpf HPn
   have HPh := Lib.hid hP
   clear hp1 hp2 hB hP HS
   go_wp2_with fail
   go_loopw [9,10,11,12] (fun nv lv j _ wz => ∃ (i : Nat) (va : Option Addr) (vc : Nat) (la : Option Addr) (lc q : Nat) (ns : List ByteArray) (ks : List Int),i ≤ P ∧ q ≤ i ∧ nv = .slice va q vc ∧ lv = .slice la q lc ∧ j = .int .i64 i ∧ Hid (GpS w wz g h rsP B va vc la lc q ns ks) ∧ Hid (Bl.Nm s.post i ns ks)) (fun _ _ j _ _ => P - (intOf j).toNat)
   case atStart => exact ⟨0,none,0,none,0,0,[],[],by omega,by omega,rfl,rfl,rfl,HG0,Lib.hid (Bl.nm_0 _)⟩
   case round =>
    clear HG0
    rename World => wz
    obtain ⟨i,va,vc,la,lc,q,ns,ks,hi,hqi,rfl,rfl,rfl,HGz,HNz⟩ := hrel
    have z2 := HGz.out.box.cells.2.2.1
    rw [HPh.out] at z2
    by_cases hlt : i < P
    ·
     obtain ⟨bp,op,ep⟩ := HPl.out.at (by rw [HPh.out]; omega)
     have hip : i < rsP.length := by rw [← HPl.out.len,HPh.out]; exact hlt
     have his : i < s.post.length := by have := HPn.out; omega
     have HIs := Lib.hid his
     have HRo : Hid (∀ u,Pd.Ls u h.post.ao h.post.n h.post.cap rsP → Pd.At u bp (op + i * 12) rsP[i]) := Lib.hid fun u l => by
      rw [ep] at l
      exact l.row i hip
     have HZ2 : Hid (∀ u,Bl.At u g h → u.cell? ⟨g,2,none⟩ = some (.slice (some ⟨bp,op,none⟩) P h.post.cap)) := Lib.hid fun u l => by
      have z := l.cells.2.2.1
      rw [HPh.out,ep] at z
      exact z
     rw [ep] at z2
     have HIp := Lib.hid (HPe.out.each i hip)
     have HNu := Lib.hid (HRt.out.num i his)
     have HSe : Hid (rsP[i].ser = s.post[i].ser ∧ rsP[i].num = (Bl.cnt s.post[i].ser (s.post.take i) : Int) + 1) := Lib.hid ⟨HIp.out.ser,by rw [HIp.out.num]; exact HNu.out⟩
     have HX40 : Hid (Bl.cnt s.post[i].ser (s.post.take i) ≤ 40) := Lib.hid (by
      have h1 := Bl.cnt_len s.post[i].ser (s.post.take i)
      rw [List.length_take] at h1
      have h2 := HRt.out.few
      omega)
     have HHt := Lib.hid (fun (ns' : List ByteArray) (ks' : List Int) (hn : Bl.Nm s.post i ns' ks') (m : Nat) (hm : m < ns'.length) (e : ns'[m] = s.post[i].ser) => And.intro (hn.hit his m hm e) (show ks'[m]'(hn.len ▸ hm) = (Bl.cnt s.post[i].ser (s.post.take i) : Int) by rw [hn.get m hm,e]))
     generalize rsP[i] = rP at HRo HSe
     generalize s.post[i].ser = sc at HSe HX40 HHt
     obtain ⟨X,hX⟩ : ∃ X,Bl.cnt sc (s.post.take i) = X := ⟨_,rfl⟩
     rw [hX] at HSe HX40 HHt
     have hqc := V1.slice HGz.out.no
     have hqk := V1.slice HGz.out.lo
     obtain ⟨_,_,ec,hc1,hc2⟩ := hqc
     obtain ⟨_,_,ek,hc3,hc4⟩ := hqk
     cases ec
     cases ek
     have HQ := Lib.hid HGz.out.qn
     clear hX HIp HNu hip his
     go_wp2_with fail
     go_loopw [12] (fun j wk => ∃ m : Nat,m ≤ q ∧ j = .int .i64 m ∧ Hid (Below wz.heap.size wz wk) ∧ Hid (∀ (x : Nat) (hx : x < ns.length),x < m → ns[x] ≠ sc)) (fun j _ => q - (intOf j).toNat)
     case atStart => exact ⟨0,by omega,rfl,Lib.hid (Below.refl _ _),Lib.hid fun x _ hx => absurd hx (Nat.not_lt_zero _)⟩
     case round =>
      rename World => wk
      obtain ⟨m,hm,rfl,HBk,HNo⟩ := hrel
      have hG := HGz.out.below HBk.out
      have HG := Lib.hid hG
      have y2 := cell_regrown (HZ2.out wk hG.box)
      have hr := HRo.out wk hG.post
      have c0 := hr.c0
      rw [HSe.out.1] at c0
      have c0' := cell_regrown c0
      clear hr hG
      by_cases hml : m < q
      ·
       obtain ⟨ng,en,hcn,_,_⟩ := V1.at HG.out.no m hml
       have hmn : m < ns.length := HQ.out ▸ hml
       rw [List.getElem?_map,List.getElem?_eq_getElem hmn] at hcn
       have hcn' := cell_regrown hcn
       subst en
       by_cases hh : ns[m] = sc
       ·
        have HHm := Lib.hid hh
        rw [hh] at hcn'
        have t0 : (sc.toList == sc.toList) = true := beq_self_eq_true _
        clear hcn hh
        go_wp2_with fail
        refine wp_region_quiet_below (by kernel_rfl) (by kernel_rfl) ?_
        repeat (first | go_big_quiet_step (fail) | quiet_step (fail))
        refine wpQuiet_nil ?_
        intro _ hw'
        obtain ⟨⟨dq,osq⟩,hw''⟩ := hw'
        subst hw''
        have HG2 := Lib.hid (HG.out.below (below_regrown wk dq osq))
        generalize grow (redrawn wk dq) osq = w2 at HG2 ⊢
        have HEq : Hid (∃ hx : m < ns.length,ns[m] = sc) := Lib.hid ⟨hmn,HHm.out⟩
        have hne : ((m : Int) == (q : Int)) = false := beq_eq_false_iff_ne.2 (by omega)
        clear t0 hcn' c0 c0' y2 HNo HG HHm
        obtain ⟨hx,hxe⟩ := HEq.out
        obtain ⟨lg,el,hcl,_,_⟩ := V1.at HG2.out.lo m (by omega)
        subst el
        have HSt := Lib.hid (HHt.out (ns) (ks) HNz.out m hx hxe)
        have hkl : m < (ks).length := HNz.out.len ▸ hx
        rw [List.getElem?_map,List.getElem?_eq_getElem hkl,HSt.out.2] at hcl
        have hcl2 : w2.cell? ⟨lg,m,none⟩ = some (.int .i64 (X : Int)) := hcl
        have c1 := (HRo.out w2 HG2.out.post).c1
        rw [HSe.out.2] at c1
        have c1' := cell_regrown c1
        have k1 := cell_regrown hcl2
        have y2 := cell_regrown (HZ2.out w2 HG2.out.box)
        have n1 : (((X : Int) + 1) != ((X : Int) + 1)) = false := bne_self_eq_false _
        have hX40 := HX40.out
        have hqb := V1.slice HG2.out.lo
        obtain ⟨_,_,eb,hb1,hb2⟩ := hqb
        cases eb
        clear hcl
        go_wp2_with fail
        refine wp_region_quiet_below (by kernel_rfl) (by kernel_rfl) ?_
        repeat (first | go_big_quiet_step (fail) | quiet_step (fail))
        refine wpQuiet_nil ?_
        intro _ hw'
        obtain ⟨⟨dq,osq⟩,hw''⟩ := hw'
        subst hw''
        have hbq := below_regrown w2 dq osq
        have hGq := HG2.out.below hbq
        have HGq := Lib.hid (hGq.bump m (by omega) ((X : Int) + 1))
        obtain ⟨_,eq1,hc2,hf2,_⟩ := V1.at hGq.lo m (by omega)
        cases eq1
        have k2 : (grow (redrawn w2 dq) osq).cell? ⟨lg,m,none⟩ = some (.int .i64 (X : Int)) := ((bcell hbq).1 _ _ (cell_lt hcl2)).trans hcl2
        have f2 := hf2 m
        generalize grow (redrawn w2 dq) osq = w4 at HGq k2 f2 ⊢
        clear hbq hGq hc2 hf2 hcl2 c1 c1' k1 y2 n1
        go_wp2_with fail
        go_roundw
        case rel => exact ⟨i + 1,_,_,some ⟨lg,0,none⟩,_,_,ns,_,by omega,by omega,rfl,rfl,by go_num,HGq,Lib.hid HSt.out.1⟩
        case measure => simp [intOf]; omega
       ·
        have HHm := Lib.hid hh
        have t0 : (ns[m].toList == sc.toList) = false := Bl.tl_ne hh
        generalize ns[m] = nm at t0 hcn'
        clear hcn hh
        go_wp2_with fail
        refine wp_region_quiet_below (by kernel_rfl) (by kernel_rfl) ?_
        repeat (first | go_big_quiet_step (fail) | quiet_step (fail))
        refine wpQuiet_nil ?_
        intro _ hw'
        obtain ⟨⟨dq,osq⟩,hw''⟩ := hw'
        subst hw''
        have HBw := Lib.hid (bchain HBk.out (below_regrown wk dq osq))
        go_wp2_with fail
        go_roundw
        case rel =>
         refine ⟨m + 1,by omega,by go_num,HBw,Lib.hid fun x hx hxm => ?_⟩
         rcases Nat.lt_succ_iff_lt_or_eq.1 hxm with z | z
         · exact HNo.out x hx z
         ·
          subst z
          exact HHm.out
        case measure => simp [intOf]; omega
      ·
       obtain rfl : m = q := by omega
       go_wp2_with fail
       refine wp_region_quiet_below (by kernel_rfl) (by kernel_rfl) ?_
       repeat (first | go_big_quiet_step (fail) | quiet_step (fail))
       refine wpQuiet_nil ?_
       intro _ hw'
       obtain ⟨⟨dq,osq⟩,hw''⟩ := hw'
       subst hw''
       have HGw := Lib.hid (HG.out.below (below_regrown wk dq osq))
       have HBw := Lib.hid (bchain HBk.out (below_regrown wk dq osq))
       generalize grow (redrawn wk dq) osq = wv at HBw HGw ⊢
       have HNn := Lib.hid (HNz.out.new (c := sc) fun x hx => HNo.out x hx (by rw [HQ.out]; exact hx))
       have HLg : Hid (ns.length = m) := Lib.hid HQ.out.symm
       have z2v := HZ2.out wv HGw.out.box
       have c0v := (HRo.out wv HGw.out.post).c0
       rw [HSe.out.1] at c0v
       have hqe : ((m : Int) == (m : Int)) = true := beq_self_eq_true _
       have HQs : Hid (m ≤ 1000) := Lib.hid (by
        have h4 := HPn.out
        have h5 := HRt.out.few
        omega)
       clear y2 c0 c0' HG
       go_wp2_with (first | (at_builtin; go_must (refine V1.appS wv sc rfl (.tmp 115) (.tmp 123) rfl B (.slice va m vc) m (ns.map Value.string) rfl HGw.out.no rfl (by have := HQs.out; omega) HGw.out.Bw ?_)))
       intro v1 w1 o1 g1 a1
       have HO1 := Lib.hid (And.intro o1 (And.intro g1 a1))
       have HLo1 := Lib.hid (HGw.out.lo1 g1)
       clear o1 g1 a1 z2v c0v
       go_wp2_with (first | (at_builtin; go_must (refine V1.appN w1 0 rfl (.tmp 125) (.tmp 126) rfl B (.slice la m lc) m (ks.map V1.iv) rfl HLo1.out.1 rfl (by have := HQs.out; omega) HLo1.out.2 ?_)))
       intro v2 w2 o2 g2 a2
       obtain ⟨va',vc',la',lc',e1,e2,hG2⟩ := HGw.out.more HO1.out.1 HO1.out.2.1 HO1.out.2.2 o2 g2 a2
       subst e1 e2
       have HG2 := Lib.hid hG2
       have HEq : Hid (∃ hx : m < (ns ++ [sc]).length,(ns ++ [sc])[m] = sc) := Lib.hid (by
        have h1 := HLg.out
        refine ⟨by rw [List.length_append,h1]; exact Nat.lt_succ_self _,?_⟩
        subst h1
        simp)
       clear o2 g2 a2 hG2 HO1 HLo1 hqe
       obtain ⟨hx,hxe⟩ := HEq.out
       obtain ⟨lg,el,hcl,_,_⟩ := V1.at HG2.out.lo m (by omega)
       subst el
       have HSt := Lib.hid (HHt.out (ns ++ [sc]) (ks ++ [0]) HNn.out m hx hxe)
       have hkl : m < (ks ++ [0]).length := HNn.out.len ▸ hx
       rw [List.getElem?_map,List.getElem?_eq_getElem hkl,HSt.out.2] at hcl
       have hcl2 : w2.cell? ⟨lg,m,none⟩ = some (.int .i64 (X : Int)) := hcl
       have c1 := (HRo.out w2 HG2.out.post).c1
       rw [HSe.out.2] at c1
       have c1' := cell_regrown c1
       have k1 := cell_regrown hcl2
       have y2 := cell_regrown (HZ2.out w2 HG2.out.box)
       have n1 : (((X : Int) + 1) != ((X : Int) + 1)) = false := bne_self_eq_false _
       have hX40 := HX40.out
       have hqb := V1.slice HG2.out.lo
       obtain ⟨_,_,eb,hb1,hb2⟩ := hqb
       cases eb
       clear hcl
       go_wp2_with fail
       refine wp_region_quiet_below (by kernel_rfl) (by kernel_rfl) ?_
       repeat (first | go_big_quiet_step (fail) | quiet_step (fail))
       refine wpQuiet_nil ?_
       intro _ hw'
       obtain ⟨⟨dq,osq⟩,hw''⟩ := hw'
       subst hw''
       have hbq := below_regrown w2 dq osq
       have hGq := HG2.out.below hbq
       have HGq := Lib.hid (hGq.bump m (by omega) ((X : Int) + 1))
       obtain ⟨_,eq1,hc2,hf2,_⟩ := V1.at hGq.lo m (by omega)
       cases eq1
       have k2 : (grow (redrawn w2 dq) osq).cell? ⟨lg,m,none⟩ = some (.int .i64 (X : Int)) := ((bcell hbq).1 _ _ (cell_lt hcl2)).trans hcl2
       have f2 := hf2 m
       generalize grow (redrawn w2 dq) osq = w4 at HGq k2 f2 ⊢
       clear hbq hGq hc2 hf2 hcl2 c1 c1' k1 y2 n1
       go_wp2_with fail
       go_roundw
       case rel => exact ⟨i + 1,_,_,some ⟨lg,0,none⟩,_,_,ns ++ [sc],_,by omega,by omega,rfl,rfl,by go_num,HGq,Lib.hid HSt.out.1⟩
       case measure => simp [intOf]; omega
    ·
     obtain rfl : i = P := by omega
     have HB5 := Lib.hid HGz.out.bel
     go_wp2_with fail
     refine (bruns w _ HB5.out).mono ?_
     rintro e w6 ⟨rfl,b6⟩
     have HB6 := Lib.hid b6
     clear b6
     go_wp2_with fail
     go_ret
     exact ⟨rfl,HB6.out⟩
end Go.Proofs.YtjpfpojbalepeaaGreat
