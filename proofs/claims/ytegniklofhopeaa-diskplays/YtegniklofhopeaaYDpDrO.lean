/- THE DOCUMENT's OWN DISK: Rename. (By gendrf.py.) -/
import Derived.Test.YtegniklofhopeaaYDpDrD
import Derived.Test.YtegniklofhopeaaYDpDrH
import Derived.Test.YtegniklofhopeaaYDpDkU
import Derived.Deep.RegionLaw
import Derived.BigRegion
import Derived.Deep.DeepCutAuto
import Derived.Deep.CutBlock
set_option maxRecDepth 100000
set_option linter.unusedVariables false
namespace Go.Proofs.Ytegniklofhopeaa
open Go.RowKit
open Mem Dk
section
variable {P : Nat → Prop} {w : World} {p : Nat} {d : D} {v : Sl} {rs : List Rq.T}
theorem Dr.c_keep {u v : World} {b : Nat} {r : Rq.T} (h : Rq.C u b r) (e : v.heap[b]? = u.heap[b]?) : Rq.C v b r := by
 obtain ⟨h0,h1,h2⟩ := h
 exact ⟨(World.cell?_of_block e).trans h0,(World.cell?_of_block e).trans h1,(World.cell?_of_block e).trans h2⟩
theorem Dk.ren_ok {d : D} (h : Ok d) {s t : ByteArray} (hh : has s d.fs = true) (hn : t.size ≤ 24) : Ok ⟨put ⟨t,(Dk.own s d.fs).bs,(Dk.own s d.fs).kept⟩ (del s d.fs),d.off,d.left⟩ := by
 have h1 := total_put (f := ⟨t,(Dk.own s d.fs).bs,(Dk.own s d.fs).kept⟩) (del_sorted (s := s) h.sorted)
 have h2 := total_del (spot_lt h.sorted hh)
 have h3 := own_at h.sorted hh
 rw [← h3] at h2
 have h4 := h.room
 simp only at h1
 have h5 := h.kept _ (own_mem h.sorted hh)
 exact put_ok (del_ok h s) h5 hn (by show total (put _ (del s d.fs)) ≤ _; omega)
theorem Dr.put_ins {l : List F} (h : Sorted l) {t : ByteArray} (hh : has t l = false) {X : List UInt8} {K : Nat} : put ⟨t,X,K⟩ (ins ⟨t,[],0⟩ l) = put ⟨t,X,K⟩ l := by
 have e : put ⟨t,[],0⟩ l = ins ⟨t,[],0⟩ l := if_neg (by rw [show has _ l = false from hh]; exact Bool.false_ne_true)
 have hp := put_put (f := ⟨t,[],0⟩) (g := ⟨t,X,K⟩) h rfl
 rw [← e,hp]
theorem Dr.ren_fin {Q : Nat → Prop} {V : World} {D0 : D} {vv : Sl} {rr : List Rq.T} (a : Dr.At Q V p D0 vv rr) {t : ByteArray} (hh : has t D0.fs = true) {bF : Nat} {r : Rq.T} (hC : Rq.C V bF r) {bs : List UInt8} {kp : Nat} (hkp : r.kept = (kp : Int)) (o : By.Own V 0 (sl r.bytes) bs) (hb : ∀ c,(sl r.bytes).ownBlock = some c → nw Q V c ∧ c ≠ p ∧ (sl vv).ownBlock ≠ some c) (hF : ¬ Q bF) (ok : Ok ⟨put ⟨t,bs,kp⟩ D0.fs,D0.off,D0.left⟩) :
  ∃ g nn cc : Nat,vv.ao = some ⟨g,0,none⟩ ∧ nn ≤ cc ∧ cc ≤ 9223372036854775807 ∧ Dk.spot t D0.fs < nn ∧ g ≠ p ∧ bF ≠ p ∧ bF ≠ g ∧ V.cell? ⟨p,0,none⟩ = some (.slice (some ⟨g,0,none⟩) nn cc) ∧ (∃ x,V.cell? ⟨g,Dk.spot t D0.fs * 3 + 1,none⟩ = some x) ∧ (∃ x,V.cell? ⟨g,Dk.spot t D0.fs * 3 + 2,none⟩ = some x) ∧ V.frozen? ⟨g,Dk.spot t D0.fs * 3 + 1,none⟩ = false ∧ V.frozen? ⟨g,Dk.spot t D0.fs * 3 + 2,none⟩ = false ∧
   (Dr.Dsk (nw Q V) ((V.setCell ⟨g,Dk.spot t D0.fs * 3 + 1,none⟩ (.slice r.bytes.ao r.bytes.n r.bytes.cap)).setCell ⟨g,Dk.spot t D0.fs * 3 + 2,none⟩ (.int .i64 (kp : Int))) p ⟨put ⟨t,bs,kp⟩ D0.fs,D0.off,D0.left⟩ ∧ UpdQ Q V ((V.setCell ⟨g,Dk.spot t D0.fs * 3 + 1,none⟩ (.slice r.bytes.ao r.bytes.n r.bytes.cap)).setCell ⟨g,Dk.spot t D0.fs * 3 + 2,none⟩ (.int .i64 (kp : Int)))) := by
 obtain ⟨g,r0,hg,hkn,⟨q0,q1,q2⟩,hf,_,_,_,_,_,hgl,hgp⟩ := a.cells hh
 obtain ⟨d0,d1,d2⟩ := a.box.cells
 rw [hg] at d0
 have hvn := a.n
 have hgb := Dr.own_block hg
 refine ⟨g,vv.n,vv.cap,hg,hvn.2.1,hvn.2.2.1,hkn,hgp,fun e => hF (e ▸ a.pp),fun e => hF (e ▸ (a.pv g hgb).1),d0,⟨_,q1⟩,⟨_,q2⟩,hf _,hf _,?_⟩
 exact a.two hh hg (Below.refl _ _) o (fun c ec => ⟨(hb c ec).1,(hb c ec).2.1,fun e => (hb c ec).2.2 (e ▸ hgb)⟩) ok
set_option maxHeartbeats 8000000 in
theorem dr_rename (h : Dr.At P w p d v rs) (s t : ByteArray) (ht : t.size ≤ 9223372036854775807) : Calls Try.prog 24 #[.pointer (some ⟨p,0,none⟩),.string s,.string t] w (Dr.OpE P w p (renD d s t)) := by
 have CA := Lib.hid (dr_at h s)
 have CN := Lib.hid (dr_name t w ht)
 have CP := Lib.hid (dr_power h)
 obtain ⟨c0,c1,c2⟩ := h.box.cells
 cases ho : d.off
 ·
  cases hn : nameOk t
  ·
   have HE : Hid (Dr.OpE P w p (renD d s t) (.returned (.int .i64 19)) w) := Lib.hid (by
    have e : renD d s t = (19,d) := by
     unfold renD
     rw [if_neg (by rw [ho]; exact Bool.false_ne_true),if_pos hn]
    rw [e]
    exact ⟨rfl,⟨v,rs,h.mono fun b z => .inl z⟩,UpdQ.refl _ _⟩)
   rw [hn] at CN
   rw [ho] at c2
   clear h ho hn
   generalize Dr.atI s d.fs = ai at CA
   go_enter Try.func24,Try.ntmps24
   go_wp2_with (first | (go_at_call 44; refine CA.out.mono ?_; rintro e u ⟨rfl,hu⟩; rw [hu]; clear hu u CA) | (go_at_call 42; refine CN.out.mono ?_; rintro e u ⟨rfl,hu⟩; rw [hu]; clear hu u CN))
   go_ret
   exact HE.out
  ·
   rw [hn] at CN
   have ht24 : t.size ≤ 24 := by
    by_cases q : t.size < 1 ∨ 24 < t.size
    ·
     rw [name_no q] at hn
     cases hn
    · omega
   cases hh : has s d.fs
   ·
    have HE : Hid (Dr.OpE P w p (renD d s t) (.returned (.int .i64 11)) w) := Lib.hid (by
     have e : renD d s t = (11,d) := by
      unfold renD
      rw [if_neg (by rw [ho]; exact Bool.false_ne_true),if_neg (by rw [hn]; intro z; cases z),if_pos hh]
     rw [e]
     exact ⟨rfl,⟨v,rs,h.mono fun b z => .inl z⟩,UpdQ.refl _ _⟩)
    rw [Dr.atI_no hh] at CA
    rw [ho] at c2
    clear h ho hn hh
    go_enter Try.func24,Try.ntmps24
    go_wp2_with (first | (go_at_call 44; refine CA.out.mono ?_; rintro e u ⟨rfl,hu⟩; rw [hu]; clear hu u CA) | (go_at_call 42; refine CN.out.mono ?_; rintro e u ⟨rfl,hu⟩; rw [hu]; clear hu u CN))
    go_ret
    exact HE.out
   ·
    rw [Dr.atI_yes hh] at CA
    have HE1 : Hid (∀ w',d.left = 0 → Dr.At P w' p (down d) v rs → UpdQ (fun b => b = p) w w' → Dr.OpE P w p (renD d s t) (.returned (.int .i64 18)) w') := Lib.hid fun w' h0 a u => by
     have e : renD d s t = (18,down d) := by
      unfold renD
      rw [if_neg (by rw [ho]; exact Bool.false_ne_true),if_neg (by rw [hn]; intro z; cases z),if_neg (by rw [hh]; intro z; cases z),if_pos h0]
     rw [e]
     exact ⟨rfl,⟨v,rs,a.mono fun b z => .inl z⟩,u.mono fun b z => z ▸ h.pp⟩
    have HE2 : Hid (d.left ≠ 0 → renD d s t = (0,with' d (put ⟨t,(Dk.own s d.fs).bs,(Dk.own s d.fs).kept⟩ (del s d.fs)))) := Lib.hid fun h0 => by
     unfold renD
     rw [if_neg (by rw [ho]; exact Bool.false_ne_true),if_neg (by rw [hn]; intro z; cases z),if_neg (by rw [hh]; intro z; cases z),if_neg h0]
    have HOk := Lib.hid (ren_ok h.ok hh ht24)
    have HDk := Lib.hid (del_ok h.ok s)
    have HDl : Hid ((del s d.fs).length < 1000) := Lib.hid (by have := del_len h.ok.sorted hh; have := h.few; omega)
    have HSp := Lib.hid (spot_lt h.ok.sorted hh)
    have HPp := Lib.hid h.pp
    rw [ho] at c2
    have HH := Lib.hid hh
    clear h ho hn hh
    go_enter Try.func24,Try.ntmps24
    go_wp2_with (first | (go_at_call 44; refine CA.out.mono ?_; rintro e u ⟨rfl,hu⟩; rw [hu]; clear hu u CA) | (go_at_call 42; refine CN.out.mono ?_; rintro e u ⟨rfl,hu⟩; rw [hu]; clear hu u CN))
    refine CP.out.mono ?_
    rintro e W ⟨hE,u⟩
    clear c0 c1 c2
    rcases hE with ⟨h0,rfl,a⟩ | ⟨h0,rfl,a⟩
    ·
     have HEq := Lib.hid (HE2.out h0)
     have HU := Lib.hid u
     have al := a.lt
     obtain ⟨g,r,hg,hkn,⟨q0,q1,q2⟩,hf,hkp,hL,hln,hOwn,hbl,hgl,hgp⟩ := al.cells (show has s (spent d).fs = true from HH.out)
     change Dk.spot s d.fs < v.n at hkn
     change W.cell? ⟨g,Dk.spot s d.fs * 3,none⟩ = _ at q0
     change W.cell? ⟨g,Dk.spot s d.fs * 3 + 1,none⟩ = _ at q1
     change W.cell? ⟨g,Dk.spot s d.fs * 3 + 2,none⟩ = _ at q2
     change r.kept = ((Dk.own s d.fs).kept : Int) at hkp
     change By.Ls W r.bytes.ao r.bytes.n r.bytes.cap (Dk.own s d.fs).bs at hL
     change r.bytes.n = (Dk.own s d.fs).bs.length at hln
     obtain ⟨d0,d1,d2⟩ := al.box.cells
     rw [hg] at d0
     have hvn := al.n
     obtain ⟨m2,m3⟩ := And.intro hvn.2.1 hvn.2.2.1
     obtain ⟨W1,hW1,bW1,hC⟩ := Rq.boxed1 W r
     have HC := Lib.hid hC
     have HBW := Lib.hid bW1
     have HA1 := Lib.hid (al.below bW1)
     have HOw : Hid (By.Own W1 0 (sl r.bytes) (Dk.own s d.fs).bs) := Lib.hid (By.own_below hOwn bW1)
     have HBl := Lib.hid hbl
     have HKp := Lib.hid hkp
     have HGp := Lib.hid hgp
     have HPl := Lib.hid al.box.lt
     obtain ⟨k,hk⟩ : ∃ k,Dk.spot s d.fs = k := ⟨_,rfl⟩
     have hl := HA1.out.ls
     have hfew := HA1.out.few
     obtain ⟨e0,e1,e2⟩ := HA1.out.box.cells
     have hpl := HA1.out.box.lt
     have f0 := HA1.out.box.frozen 0
     obtain ⟨vao,vn,vcap⟩ := v
     simp only at hg d0 hkn m2 m3 hvn hl e0
     subst hg
     have hkn' : k + 1 ≤ vn := by omega
     have hn1000 : vn ≤ 1000 := by
      have e3 : (spent d).fs.length = d.fs.length := rfl
      omega
     have HL := Lib.hid hl
     obtain ⟨hs1,hR1⟩ := HL.out.to k (show k ≤ vn by omega)
     obtain ⟨k1,hk1⟩ : ∃ k1,k + 1 = k1 := ⟨_,rfl⟩
     have hwr : IntKind.i64.wrap ((k : Int) + 1) = (k1 : Int) := by rw [IntKind.wrap_i64]; omega
     rw [hk1] at hkn'
     obtain ⟨ao2,cap2,hs2,hR2⟩ := HL.out.from k1 hkn'
     obtain ⟨j,hj⟩ : ∃ j,vn - k1 = j := ⟨_,rfl⟩
     rw [hj] at hs2 hR2
     have HR1 := Lib.hid hR1
     have HR2 := Lib.hid hR2
     have hjb : j ≤ 1000 := by omega
     have hkb : k ≤ 1000 := by omega
     have HMid : Hid (∀ (y : World) (v3 : Value),Below W1.heap.size W1 y → Rq.Own y W1.heap.size v3 ([] ++ rs.take k ++ rs.drop k1) → ∃ v' rs',Dr.At (nw (fun b => P b ∧ b < W.heap.size) W1) (y.setCell ⟨p,0,none⟩ v3) p ⟨del s d.fs,(spent d).off,(spent d).left⟩ v' rs' ∧ UpdQ (fun b => b = p) W1 (y.setCell ⟨p,0,none⟩ v3) ∧ ∀ g,(sl v').ownBlock = some g → W1.heap.size ≤ g) := Lib.hid fun y v3 b o => by
      rw [← hk1,← hk] at o
      obtain ⟨v',_,a1,u1,hv⟩ := HA1.out.relay b o (Dr.all_del (d := spent d) HA1.out) Dr.mem_del (ok_dec HDk.out) (Nat.le_of_lt HDl.out)
      exact ⟨_,_,a1,u1,hv⟩
     have lx : Hid (∀ u,Below W1.heap.size W1 u → u.cell? ⟨p,0,none⟩ = some (.slice (some ⟨g,0,none⟩) vn vcap) ∧ u.frozen? ⟨p,0,none⟩ = false ∧ p < u.heap.size) := Lib.hid fun u b => ⟨((bcell b).1 _ _ hpl).trans e0,((bcell b).2 _ _ hpl).trans f0,Nat.lt_of_lt_of_le hpl b.size⟩
     have lb1 : Hid (∀ o,Below W1.heap.size W1 (W1.alloc o).drew) := Lib.hid fun o => ((Below.refl _ _).alloc (Nat.le_refl _) _).drew
     unfold Rq.C at hC
     obtain ⟨w0,w1,w2⟩ := hC
     clear a al u hkp hL hln hOwn hbl hf hvn h0 HE1 HE2 CP hl hR1 hR2 hj hk1 hfew e1 e2 bW1 hgl
     rw [hk]
     rw [hk] at hkn q0 q1 q2
     clear hk
     go_upto_region 11 with fail
     go_cut [] (fun wx => Hid (∃ v' rs',Dr.At (nw (fun b => P b ∧ b < W.heap.size) W1) wx p ⟨del s d.fs,(spent d).off,(spent d).left⟩ v' rs' ∧ UpdQ (fun b => b = p) W1 wx ∧ ∀ g,(sl v').ownBlock = some g → W1.heap.size ≤ g))
     case first =>
      go_region_law (first | (refine Rq.step_append y1 W1 b1 (by rfl) (.tmp 44) (.tmp 51) (by rfl) v1 ([] ++ rs.take k) (by rfl) o1 ao2 j cap2 (rs.drop k1) (by rfl) HR2.out.len HR2.out.nil (HR2.out.seg.below b1) (by simp; omega) ?_; intro v3 y3 o3 gr3 b3; have s3 := lx.out _ b3; (obtain ⟨t30,t31,t32⟩ := s3); (obtain ⟨xa,xn,xc,rfl⟩ := Dr.own_slice o3)) | (refine Rq.step_append (W1.alloc (.cells #[] 69)).drew W1 (by exact lb1.out _) (by rfl) (.tmp 37) (.tmp 43) (by rfl) (.slice (some ⟨W1.heap.size,0,none⟩) 0 0) [] (by rfl) (Rq.own_empty (Nat.le_refl _) (heap_alloc_new W1 _)) (some ⟨g,0,none⟩) k vcap (rs.take k) (by rfl) HR1.out.len HR1.out.nil (HR1.out.seg.below (by exact lb1.out _)) (by simp; omega) ?_; intro v1 y1 o1 gr1 b1; have s1 := lx.out _ b1; (obtain ⟨t10,t11,t12⟩ := s1)) | fail)
      all_goals
       go_wp2
       go_meet
       exact Lib.hid (HMid.out _ _ b3 o3)
     case rest =>
      obtain ⟨v2,rs2,a2,u2,hv2⟩ := hcut.out
      have HU2 := Lib.hid u2
      have hszW : W1.heap.size = W.heap.size + 1 := by rw [← hW1]; simp
      have hpW : p < W.heap.size := HPl.out
      have HC2 := Lib.hid (Dr.c_keep HC.out (u2.block _ (by omega) (by omega)))
      have HOw2 : Hid (By.Own wc 0 (sl r.bytes) (Dk.own s d.fs).bs) := Lib.hid (rows_keep HOw.out fun c ec => u2.block c (World.ownsRow.lt HOw.out c ec).2 (HBl.out c ec).2.1)
      have CA2 := Lib.hid (dr_at a2 t)
      have HUw : Hid (UpdQ P w wc) := Lib.hid (((HU.out.mono fun b z => z ▸ HPp.out).trans (UpdQ.of HBW.out)).trans (u2.mono fun b z => z ▸ HPp.out))
      have HszW : Hid (w.heap.size ≤ W.heap.size) := Lib.hid HU.out.size
      have HszW1 := Lib.hid hszW
      clear hcut u2 HMid lx lb1 HR1 HR2 hs1 hs2 hwr w0 w1 w2 q0 q1 q2 d0 d1 d2 e0 f0
      cases hh2 : has t (del s d.fs)
      ·
       rw [show Dr.atI t (del s d.fs) = -1 from Dr.atI_no hh2] at CA2
       have CM := Lib.hid (dr_make a2 t ht24 hh2 HDl.out)
       have HT := Lib.hid (Dr.ins_told (d := ⟨del s d.fs,d.off,d.left⟩) HDk.out hh2)
       have HPu := Lib.hid (Dr.put_ins HDk.out.sorted hh2 (X := (Dk.own s d.fs).bs) (K := (Dk.own s d.fs).kept))
       clear a2 hh2 hW1
       go_wp2_with (go_at_call 44; refine CA2.out.mono ?_; rintro e u ⟨rfl,hu⟩; rw [hu]; clear hu u CA2)
       refine CM.out.mono ?_
       rintro e W3 ⟨rfl,⟨v3,rs3,a3,hv3⟩,u3⟩
       have hszc := HU2.out.size
       have HC3 := Dr.c_keep HC2.out (u3.block _ (by omega) (by omega))
       have HOw3 : By.Own W3 0 (sl r.bytes) (Dk.own s d.fs).bs := rows_keep HOw2.out fun c ec => u3.block c (World.ownsRow.lt HOw2.out c ec).2 (HBl.out c ec).2.1
       obtain ⟨g5,nn5,cc5,y0,y1,y2,y3,y4,y5,y6,y7,⟨y8,y8'⟩,⟨y9,y9'⟩,ya,yb,yc⟩ := Dr.ren_fin (D0 := ⟨ins ⟨t,[],0⟩ (del s d.fs),(spent d).off,(spent d).left⟩) a3 HT.out.2.1 HC3 HKp.out HOw3 (fun c ec => by
        obtain ⟨c1,c2,c3⟩ := HBl.out c ec
        refine ⟨.inl (.inl (.inl c1)),c2,fun z => ?_⟩
        have := hv3 c z
        have := c1.2
        omega) (fun z => by
        rcases z with (z | z) | z
        · exact Nat.lt_irrefl _ z.2
        · omega
        · omega) (by
        have e1 := HPu.out
        show Ok ⟨put _ (ins ⟨t,[],0⟩ (del s d.fs)),_,_⟩
        rw [e1]
        exact ok_dec HOk.out)
       have HG : Hid (Dr.OpE P w p (renD d s t) (.returned (.int .i64 0)) ((W3.setCell ⟨g5,Dk.spot t (del s d.fs) * 3 + 1,none⟩ (.slice r.bytes.ao r.bytes.n r.bytes.cap)).setCell ⟨g5,Dk.spot t (del s d.fs) * 3 + 2,none⟩ (.int .i64 r.kept))) := Lib.hid (by
        have e1 : Dk.spot t (ins ⟨t,[],0⟩ (del s d.fs)) = Dk.spot t (del s d.fs) := HT.out.1
        have e2 := HPu.out
        simp only at yc
        rw [e1,e2] at yc
        rw [HEq.out,HKp.out]
        have hs3 := u3.size
        refine ⟨rfl,yc.1.mono fun b z => ?_,Dr.upd_new (HUw.out.trans (u3.mono fun b z => z ▸ HPp.out)) (yc.2.mono fun b z => ?_)⟩
        ·
         rcases z with ((z | z) | z) | z
         · exact .inl z.1
         · exact .inr (by have := HszW.out; omega)
         · exact .inr (by have := HszW.out; omega)
         · exact .inr (by have := HszW.out; omega)
        ·
         rcases z with (z | z) | z
         · exact .inl z.1
         · exact .inr (by have := HszW.out; omega)
         · exact .inr (by have := HszW.out; omega))
       have hsp : Dk.spot t (ins ⟨t,[],0⟩ (del s d.fs)) = Dk.spot t (del s d.fs) := HT.out.1
       simp only at y3 y8' y9' ya yb
       rw [hsp] at y3 y8' y9' ya yb
       clear hsp
       generalize Dk.spot t (del s d.fs) = i5 at *
       unfold Rq.C at HC3
       obtain ⟨w0,w1,w2⟩ := HC3
       clear a3 hv3 u3 HOw3 yc HC2 HOw2 HPu HT HBl HA1 HC HOw HBW hszc hszW HszW HszW1 HU2 HUw CM
       generalize W.heap.size = bF at *
       go_wp2
       go_region
       all_goals
        go_wp2
        go_ret
        exact HG.out.drew
      ·
       rw [show Dr.atI t (del s d.fs) = (Dk.spot t (del s d.fs) : Int) from Dr.atI_yes hh2] at CA2
       have hszc := HU2.out.size
       obtain ⟨g5,nn5,cc5,y0,y1,y2,y3,y4,y5,y6,y7,⟨y8,y8'⟩,⟨y9,y9'⟩,ya,yb,yc⟩ := Dr.ren_fin a2 hh2 HC2.out HKp.out HOw2.out (fun c ec => by
        obtain ⟨c1,c2,c3⟩ := HBl.out c ec
        refine ⟨.inl (.inl c1),c2,fun z => ?_⟩
        have := hv2 c z
        have := c1.2
        omega) (fun z => by
        rcases z with z | z
        · exact Nat.lt_irrefl _ z.2
        · omega) (ok_dec HOk.out)
       have HG : Hid (Dr.OpE P w p (renD d s t) (.returned (.int .i64 0)) ((wc.setCell ⟨g5,Dk.spot t (del s d.fs) * 3 + 1,none⟩ (.slice r.bytes.ao r.bytes.n r.bytes.cap)).setCell ⟨g5,Dk.spot t (del s d.fs) * 3 + 2,none⟩ (.int .i64 r.kept))) := Lib.hid (by
        simp only at yc
        rw [HEq.out,HKp.out]
        refine ⟨rfl,yc.1.mono fun b z => ?_,Dr.upd_new HUw.out (yc.2.mono fun b z => ?_)⟩
        ·
         rcases z with (z | z) | z
         · exact .inl z.1
         · exact .inr (by have := HszW.out; omega)
         · exact .inr (by have := HszW.out; omega)
        ·
         rcases z with z | z
         · exact .inl z.1
         · exact .inr (by have := HszW.out; omega))
       simp only at y3 y8' y9' ya yb
       generalize Dk.spot t (del s d.fs) = i5 at *
       obtain ⟨w0,w1,w2⟩ := HC2.out
       clear a2 hv2 hh2 HC2 yc HOw2 HBl HA1 HC HOw HBW hszc hszW HszW HszW1 HU2 HUw hW1
       generalize W.heap.size = bF at *
       go_wp2_with (go_at_call 44; refine CA2.out.mono ?_; rintro e u ⟨rfl,hu⟩; rw [hu]; clear hu u CA2)
       go_wp2
       go_region
       all_goals
        go_wp2
        go_ret
        exact HG.out.drew
    ·
     have HO := Lib.hid (HE1.out W h0 a u)
     clear a u h0
     go_wp2
     go_ret
     exact HO.out
 ·
  have HE : Hid (Dr.OpE P w p (renD d s t) (.returned (.int .i64 18)) w) := Lib.hid (by
   have e : renD d s t = (18,d) := by
    unfold renD
    rw [if_pos ho]
   rw [e]
   exact ⟨rfl,⟨v,rs,h.mono fun b z => .inl z⟩,UpdQ.refl _ _⟩)
  rw [ho] at c2
  clear h ho
  generalize Dr.atI s d.fs = ai at CA
  go_enter Try.func24,Try.ntmps24
  go_wp2_with (go_at_call 44; refine CA.out.mono ?_; rintro e u ⟨rfl,hu⟩; rw [hu]; clear hu u CA)
  go_ret
  exact HE.out
end
end Go.Proofs.Ytegniklofhopeaa
