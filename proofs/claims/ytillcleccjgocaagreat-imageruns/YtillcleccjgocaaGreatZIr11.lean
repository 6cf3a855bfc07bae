import Derived.Deep.RegionHeld3
import Derived.Lib.QuietBelow
import Derived.Deep.DeepCutAuto
import Derived.Test.YtillcleccjgocaaGreatZIr1
import Derived.Test.YtillcleccjgocaaGreatZIr4
import Derived.Test.YtillcleccjgocaaGreatZIr9
import Derived.Test.YtillcleccjgocaaGreatZIr10
set_option maxRecDepth 100000
set_option linter.unusedVariables false
namespace Go.Proofs.YtillcleccjgocaaGreat
open Go.RowKit
open Mem Pk Cm
open Go.Sort (grow)
set_option maxHeartbeats 2000000 in
theorem pack_read2 (bs : List UInt8) (ao : Option Addr) (m cap : Nat) (w : World) (hL : By.Ls w ao m cap bs) (hm : m ≤ 140737488355328) :
  Calls Tryz.prog 16 #[.slice ao m cap] w fun e w' => (∃ p bo,e = .returned (.pointer (some ⟨p,0,none⟩)) ∧ w.heap.size ≤ p ∧ Rd w' p bo m m bs ⟨0,0⟩) ∧ Below w.heap.size w w' := by
 have hmk := By.make m (by omega)
 have hb0 := By.block_made w m
 have hB1 := (Below.refl w.heap.size w).alloc (Nat.le_refl _) (.cells (By.zeros m) 5)
 obtain ⟨W1,hcp,hblk,hbel,hsz⟩ := By.copy (w.alloc (.cells (By.zeros m) 5)) w.heap.size 0 [] [] m ao m cap bs (by simpa using hb0) rfl hL.len (hL.below hB1).seg (some ⟨w.heap.size,0,none⟩) (fun _ => rfl)
 rw [List.length_nil,Nat.add_zero] at hcp
 rw [List.nil_append,List.append_nil] at hblk
 have HB1 := Lib.hid (hbel _ _ hB1 (Nat.le_refl _))
 have HBk := Lib.hid hblk
 have HLen := Lib.hid hL.len
 have hcap := hL.reach
 have hs1 : W1.heap.size = w.heap.size + 1 := by rw [hsz]; simp
 clear hL hb0 hblk hbel hB1 hsz
 go_enter Tryz.func16,Tryz.ntmps16
 go_wp2
 go_ret
 have bx : Below W1.heap.size W1 (W1.alloc (.cells #[.slice (some ⟨w.heap.size,0,none⟩) m m,.int .i64 0,.int .i64 0] 106)) := (Below.refl _ _).alloc (Nat.le_refl _) _
 have hls := (HBk.out.ls (by rw [← HLen.out]; omega)).below bx
 rw [← HLen.out] at hls
 refine ⟨⟨w.heap.size + 1,some ⟨w.heap.size,0,none⟩,rfl,by omega,?_⟩,bchain HB1.out bx⟩
 rw [← hs1]
 exact ⟨by simp [go_sem],by simp [go_sem],by simp [go_sem],fun o => by simp [go_sem],hls,fun b off e => by cases e; omega,by show 0 ≤ m; omega⟩
theorem UpdQ.ofUpd {w u : World} {p : Nat} (h : Upd w p u) : UpdQ (fun b => b = p) w u := ⟨h.size,fun b hb hq => h.block b hb hq,fun w0 a c => h.below w0 a (c p rfl)⟩
def Im.fin (bs : List UInt8) : Int := (rEnd bs (Im.rState bs ⟨0,0⟩).2).1
def Im.Told (bs : List UInt8) (t : Bl.St) : Prop := Im.fin bs = 0 ∧ Im.fill (Im.rState bs ⟨0,0⟩).1 = some t ∧ Bl.Right t
def Im.getE (bs : List UInt8) : Int := if Im.fin bs = 0 then 4 else Im.fin bs
def Im.GetE (w0 w : World) (bs : List UInt8) (e : Ending) (w' : World) : Prop :=
 ((∃ h t,e = .returned (.tuple #[Bl.Sv.val h,.int .i64 0]) ∧ Im.Told bs t ∧ Bl.Lp (fun b => w.heap.size < b) w' h t) ∨ (e = .returned (.tuple #[Bl.zsv.val,.int .i64 (Im.getE bs)]) ∧ Im.getE bs ≠ 0 ∧ ∀ t,¬ Im.Told bs t)) ∧ Below w0.heap.size w0 w'
set_option maxHeartbeats 4000000 in
theorem img_get (bs : List UInt8) (ao : Option Addr) (m cap : Nat) (w0 w : World) (hw : Below w0.heap.size w0 w) (hL : By.Ls w ao m cap bs) (hm : m ≤ 140737488355328) :
  Calls Tryz.prog 8 #[.slice ao m cap] w (Im.GetE w0 w bs) := by
 have HW := Lib.hid hw
 have HL := Lib.hid hL
 obtain ⟨U,hU⟩ : ∃ U,w.alloc (.cells #[.slice none 0 0,.slice none 0 0,.slice none 0 0,.slice none 0 0,.slice none 0 0,.int .i64 0] 30) = U := ⟨_,rfl⟩
 obtain ⟨hB,k0,hs⟩ := Bl.al1 w (.cells #[.slice none 0 0,.slice none 0 0,.slice none 0 0,.slice none 0 0,.slice none 0 0,.int .i64 0] 30)
 rw [hU] at hB k0 hs
 have hZ : Bl.At U w.heap.size Bl.zsv := k0
 have HZ := Lib.hid hZ
 have HB := Lib.hid hB
 have HS := Lib.hid hs
 clear k0 hs hB hw hL hZ
 go_enter Tryz.func8,Tryz.ntmps8
 go_wp2_with fail
 clear hU
 refine (pack_read2 bs ao m cap U (HL.out.below HB.out) hm).mono ?_
 rintro e w1 ⟨⟨p,bo,rfl,hp,hR⟩,b1⟩
 have HP : Hid (w.heap.size + 1 ≤ p) := Lib.hid (by have := HS.out; omega)
 have HR1 := Lib.hid hR
 have HPl : Hid (p < w1.heap.size) := Lib.hid (cell_lt hR.c0)
 have HB1 := Lib.hid (bchain HB.out b1)
 have HZ1 := Lib.hid (HZ.out.below b1)
 clear b1 hp hR
 go_wp2_with fail
 refine (ird_state p bo m m bs ⟨0,0⟩ w1 HR1.out).mono ?_
 rintro e w2 ⟨h,rfl,_,⟨B1,B2,B3,B4,rs,rn⟩,r2,k2⟩
 have HZ2 := Lib.hid (Im.At.keep HZ1.out (UpdQ.ofUpd k2) (by have := HP.out; omega))
 have HB2 := Lib.hid (k2.below w HB1.out (by have := HP.out; omega))
 have hbx : Below w2.heap.size w2 (Bl.box w2 h) := (Below.refl _ _).alloc (Nat.le_refl _) _
 have HR3 := Lib.hid (r2.below hbx)
 have HRn3 := Lib.hid (rn.below hbx)
 have HZ3 := Lib.hid (HZ2.out.below hbx)
 have HB3 := Lib.hid (bchain HB2.out hbx)
 have HA3 : Hid (Bl.At (Bl.box w2 h) w2.heap.size h) := Lib.hid (heap_alloc_new w2 _)
 have HQ : Hid (B4 ≤ w2.heap.size) := Lib.hid rn.le5
 have HQw : Hid (w1.heap.size ≤ w2.heap.size) := Lib.hid k2.size
 obtain ⟨q,hq⟩ : ∃ q,w2.heap.size = q := ⟨_,rfl⟩
 obtain ⟨W3,hW3⟩ : ∃ W3,Bl.box w2 h = W3 := ⟨_,rfl⟩
 rw [hW3] at HR3 HRn3 HZ3 HB3 HA3
 rw [hq] at HA3 HQ HQw
 have HS3 := Lib.hid hW3
 have HSq := Lib.hid hq
 clear rn r2 k2 hbx hW3 hq
 go_wp2_with (first | ((with_reducible apply Bl.wpl_store (h := h) (g := w2.heap.size)); rfl; rfl; rfl; rfl; rfl; rfl))
 rw [HS3.out,HSq.out]
 clear HS3 HSq
 refine (rd_end p bo m m bs _ W3 HR3.out).mono ?_
 rintro e w4 ⟨rfl,_,k4⟩
 have HRn4 := Lib.hid (HRn3.out.keep (UpdQ.ofUpd k4) (.inl (by have := HPl.out; omega)))
 have HZ4 := Lib.hid (Im.At.keep HZ3.out (UpdQ.ofUpd k4) (by have := HP.out; omega))
 have HA4 := Lib.hid (Im.At.keep HA3.out (UpdQ.ofUpd k4) (by have := HPl.out; have := HQw.out; omega))
 have HB4 := Lib.hid (k4.below w HB3.out (by have := HP.out; omega))
 clear k4
 obtain ⟨E,hE⟩ : ∃ E,(rEnd bs (Im.rState bs ⟨0,0⟩).2).1 = E := ⟨_,rfl⟩
 have HE : Hid (Im.fin bs = E) := Lib.hid hE
 rw [hE]
 clear hE
 by_cases hE0 : E = 0
 ·
  subst hE0
  have HErr : Hid (Im.getE bs = 4) := Lib.hid (if_pos HE.out)
  go_wp2_with fail
  refine (img_reckon q HA4.out HRn4.out (Im.state_rs bs ⟨0,0⟩) (.inr HQ.out)).mono ?_
  rintro e w5 ⟨h5,k5⟩
  have HZ5 := Lib.hid (Im.At.keep HZ4.out k5 (by have := HQw.out; have := HPl.out; have := HP.out; omega))
  have HB5 := Lib.hid (k5.below w HB4.out fun b hb => by have := HQw.out; have := HPl.out; have := HP.out; omega)
  clear k5
  rcases h5 with ⟨t,h',rfl,hf,a5,lp⟩ | ⟨rfl,hf⟩
  ·
   have HF := Lib.hid hf
   have HLp := Lib.hid lp
   have HA5 := Lib.hid a5
   obtain ⟨x0,x1,x2,x3,x4,x5⟩ := a5.cells
   clear hf lp a5
   go_wp2_with fail
   refine (bil_right_any t h' w5 w5 (Below.refl _ _) HLp.out.lies).mono ?_
   rintro e w6 ⟨hcase,b6⟩
   have HZ6 := Lib.hid (HZ5.out.below b6)
   have HB6 := Lib.hid (bchain HB5.out b6)
   have HA6 := Lib.hid (HA5.out.below b6)
   have HL6 := Lib.hid (HLp.out.below b6)
   clear b6 x0 x1 x2 x3 x4 x5
   rcases hcase with ⟨hR,rfl⟩ | ⟨hN,rfl⟩
   ·
    have HTold : Hid (Im.Told bs t) := Lib.hid ⟨HE.out,HF.out,hR⟩
    clear hR
    have hA6 := HA6.out
    have hZ6 := HZ6.out
    go_wp2_with (first | ((with_reducible apply Bl.wpl_load hA6); rfl; rfl; rfl) | ((with_reducible apply Bl.wpl_put (h := h') hZ6); rfl; rfl; rfl; rfl))
    refine bodyPost_ret (Bl.resultsP Tryz.results8 rfl rfl (hZ6.lay _)) rfl ⟨.inl ⟨h',t,rfl,HTold.out,?_⟩,bchain HW.out (Bl.below_lay HB6.out (Nat.le_refl _) _)⟩
    exact (HL6.out.mono (Q := fun b => w.heap.size < b) fun b hb => by have := hb.1; have := HPl.out; have := HP.out; omega).kp (KpP.row w6 (by omega) _)
   ·
    have HNo : Hid (∀ t',¬ Im.Told bs t') := Lib.hid fun t' z => hN (by
     have h1 := z.2.1
     rw [HF.out,Option.some.injEq] at h1
     rw [h1]
     exact z.2.2)
    clear hN
    have hZ6 := HZ6.out
    go_wp2_with (first | ((with_reducible apply Bl.wpl_put (h := Bl.zsv) hZ6); rfl; rfl; rfl; rfl))
    exact bodyPost_ret (Bl.resultsP Tryz.results8 rfl rfl (hZ6.lay _)) rfl ⟨.inr ⟨by rw [HErr.out]; rfl,by rw [HErr.out]; decide,HNo.out⟩,bchain HW.out (Bl.below_lay HB6.out (Nat.le_refl _) _)⟩
  ·
   have HNo : Hid (∀ t',¬ Im.Told bs t') := Lib.hid fun t' z => by
    have h1 := z.2.1
    rw [hf] at h1
    cases h1
   clear hf
   have hZ5 := HZ5.out
   go_wp2_with (first | ((with_reducible apply Bl.wpl_put (h := Bl.zsv) hZ5); rfl; rfl; rfl; rfl))
   exact bodyPost_ret (Bl.resultsP Tryz.results8 rfl rfl (hZ5.lay _)) rfl ⟨.inr ⟨by rw [HErr.out]; rfl,by rw [HErr.out]; decide,HNo.out⟩,bchain HW.out (Bl.below_lay HB5.out (Nat.le_refl _) _)⟩
 ·
  have HErr : Hid (Im.getE bs = E) := Lib.hid ((if_neg (by rw [HE.out]; exact hE0)).trans HE.out)
  have HNo : Hid (∀ t',¬ Im.Told bs t') := Lib.hid fun t' z => hE0 (HE.out.symm.trans z.1)
  have HE0 := Lib.hid hE0
  have qe : (E != 0) = true := bne_iff_ne.2 hE0
  have hZ4 := HZ4.out
  clear hE0
  go_wp2_with (first | ((with_reducible apply Bl.wpl_put (h := Bl.zsv) hZ4); rfl; rfl; rfl; rfl))
  exact bodyPost_ret (Bl.resultsP Tryz.results8 rfl rfl (hZ4.lay _)) rfl ⟨.inr ⟨by rw [HErr.out]; rfl,by rw [HErr.out]; exact HE0.out,HNo.out⟩,bchain HW.out (Bl.below_lay HB4.out (Nat.le_refl _) _)⟩
end Go.Proofs.YtillcleccjgocaaGreat
namespace Go.Proofs.YtillcleccjgocaaGreat.Im
open Pk Cm Bl
theorem raw_strip {s : Bl.St} (h : StO s) : Raw (strip s) := by
 refine ⟨h.tab,⟨by show (s.ser.map cutSer).length ≤ 8; rw [List.length_map]; exact h.ser.1,fun r hr => ?_⟩,⟨by show (s.post.map cutPost).length ≤ 40; rw [List.length_map]; exact h.post.1,fun p hp => ?_⟩,h.sess,rfl,h.next⟩
 ·
  obtain ⟨q,hq,rfl⟩ := List.mem_map.1 hr
  exact ⟨(h.ser.2 q hq).1,(h.ser.2 q hq).2,rfl⟩
 ·
  obtain ⟨q,hq,rfl⟩ := List.mem_map.1 hp
  have o := h.post.2 q hq
  refine ⟨o.ser,o.day,o.ofS,o.ofN,⟨by show (q.tot.parts.map cutPart).length ≤ 12; rw [List.length_map]; exact o.few,fun x hx => ?_⟩,rfl,rfl,rfl,rfl,rfl⟩
  obtain ⟨y,hy,rfl⟩ := List.mem_map.1 hx
  exact ⟨(o.parts y hy).1,(o.parts y hy).2.1,(o.parts y hy).2.2,rfl⟩
theorem rem_0 (bs : List UInt8) : Rem bs s0 bs := ⟨rfl,rfl⟩
theorem read_own {s : Bl.St} (h : StO s) (r : List UInt8) : (rState (stB s ++ r) s0).1 = strip s ∧ Rem (stB s ++ r) (rState (stB s ++ r) s0).2 r := by
 have hr : Rem (stB s ++ r) s0 (stB (strip s) ++ r) := by rw [stB_strip]; exact rem_0 _
 exact fwd_state (raw_strip h) hr
structure N24 (s : Bl.St) : Prop where
 tab : ∀ r ∈ s.tab,r.cat.size ≤ 24
 ser : ∀ r ∈ s.ser,r.name.size ≤ 24
 post : ∀ p ∈ s.post,p.ser.size ≤ 24 ∧ p.ofS.size ≤ 24 ∧ p.tot.parts.length ≤ 12 ∧ ∀ x ∈ p.tot.parts,x.cat.size ≤ 24
end Go.Proofs.YtillcleccjgocaaGreat.Im
namespace Go.Proofs.YtillcleccjgocaaGreat
open Go.RowKit
open Mem Pk Cm
theorem Im.fin_nil {bs : List UInt8} {st : St} (h : Rem bs st []) : (rEnd bs st).1 = 0 := by
 have h1 := List.drop_eq_nil_iff.1 h.2
 unfold rEnd
 rw [if_neg (fun z => by omega)]
 exact h.1
theorem Im.fin_some {bs r : List UInt8} {st : St} (h : Rem bs st r) (hr : r ≠ []) : (rEnd bs st).1 = 5 := by
 have hl : st.at' < bs.length := by
  rcases Nat.lt_or_ge st.at' bs.length with k | k
  · exact k
  · exact absurd (h.2.symm.trans (List.drop_eq_nil_of_le k)) hr
 unfold rEnd
 rw [if_pos ⟨h.1,hl⟩]
theorem Im.fin_rem {bs : List UInt8} {st : St} (h : (rEnd bs st).1 = 0) : Rem bs st [] := by
 unfold rEnd at h
 split at h
 · cases h
 ·
  rename_i k
  refine ⟨h,List.drop_eq_nil_of_le ?_⟩
  have h2 : st.err = 0 := h
  rcases Nat.lt_or_ge st.at' bs.length with z | z
  · exact absurd ⟨h2,z⟩ k
  · exact z
theorem Im.told_own {s : Bl.St} (hR : Bl.Right s) (hO : Im.StO s) : Im.Told (Im.stB s) s := by
 have h := Im.read_own hO []
 rw [List.append_nil] at h
 refine ⟨Im.fin_nil h.2,?_,hR⟩
 have e : (Im.rState (Im.stB s) ⟨0,0⟩).1 = Im.strip s := h.1
 rw [e]
 exact Im.fill_strip hR
theorem Im.told_fun {bs : List UInt8} {s t : Bl.St} (h : Im.Told bs s) (k : Im.Told bs t) : s = t := Option.some.inj (h.2.1.symm.trans k.2.1)
theorem Im.told_bytes {bs : List UInt8} {t : Bl.St} (h : Im.Told bs t) : Im.stB t = bs := by
 obtain ⟨h1,h2⟩ := Im.bwd_state (Im.fin_rem h.1)
 rw [List.append_nil] at h1
 rw [Im.bytes_fill h2 h.2.1]
 exact h1.2.symm
theorem Im.new_bytes : Im.stB Bl.new = [0,0,0,0,2] := by decide +kernel
theorem Im.new_st : Im.StO Bl.new := Im.ok_of (w := default) Bl.right_new (Bl.lies_new _)
theorem Im.told_new : Im.Told [0,0,0,0,2] Bl.new := by
 rw [← Im.new_bytes]
 exact Im.told_own Bl.right_new Im.new_st
theorem Im.get_tail : Im.getE [0,0,0,0,2,0] = 5 ∧ ∀ t,¬ Im.Told [0,0,0,0,2,0] t := by
 have h := Im.read_own Im.new_st [0]
 rw [Im.new_bytes] at h
 have e : Im.fin [0,0,0,0,2,0] = 5 := Im.fin_some h.2 (by simp)
 refine ⟨?_,fun t z => ?_⟩
 ·
  unfold Im.getE
  rw [e]
  rfl
 ·
  have := z.1
  rw [e] at this
  cases this
theorem Im.get_none : Im.getE [] = 3 ∧ ∀ t,¬ Im.Told [] t := by
 have e : Im.fin [] = 3 := by decide +kernel
 refine ⟨?_,fun t z => ?_⟩
 ·
  unfold Im.getE
  rw [e]
  rfl
 ·
  have := z.1
  rw [e] at this
  cases this
theorem Im.get_zero : Im.getE [0,0,0,0,0] = 4 ∧ ∀ t,¬ Im.Told [0,0,0,0,0] t := by
 have e : Im.fin [0,0,0,0,0] = 0 := by decide +kernel
 refine ⟨by unfold Im.getE; rw [e]; rfl,fun t z => ?_⟩
 have h1 := Im.told_bytes z
 have h2 := z.2.2.next.1
 have h3 : t.next = 0 := by
  have h4 := z.2.1
  unfold Im.fill at h4
  split at h4
  ·
   split at h4
   ·
    rw [Option.some.injEq] at h4
    rw [← h4]
    show (Im.rState [0,0,0,0,0] ⟨0,0⟩).1.next = 0
    decide +kernel
   · cases h4
  · cases h4
 omega
theorem img_get_yes (bs : List UInt8) (t : Bl.St) (ao : Option Addr) (m cap : Nat) (w0 w : World) (hw : Below w0.heap.size w0 w) (hL : By.Ls w ao m cap bs) (hm : m ≤ 140737488355328) (hT : Im.Told bs t) :
  Calls Tryz.prog 8 #[.slice ao m cap] w fun e w' => ∃ h,e = .returned (.tuple #[Bl.Sv.val h,.int .i64 0]) ∧ Bl.Lp (fun b => w.heap.size < b) w' h t ∧ Below w0.heap.size w0 w' := by
 refine (img_get bs ao m cap w0 w hw hL hm).mono ?_
 rintro e w' ⟨h1,b⟩
 rcases h1 with ⟨h,t',rfl,h2,h3⟩ | ⟨_,_,h2⟩
 ·
  rw [Im.told_fun h2 hT] at h3
  exact ⟨h,rfl,h3,b⟩
 · exact absurd hT (h2 t)
theorem img_get_no (bs : List UInt8) (E : Int) (ao : Option Addr) (m cap : Nat) (w0 w : World) (hw : Below w0.heap.size w0 w) (hL : By.Ls w ao m cap bs) (hm : m ≤ 140737488355328) (hT : Im.getE bs = E ∧ ∀ t,¬ Im.Told bs t) :
  Calls Tryz.prog 8 #[.slice ao m cap] w fun e w' => e = .returned (.tuple #[Bl.zsv.val,.int .i64 E]) ∧ Below w0.heap.size w0 w' := by
 refine (img_get bs ao m cap w0 w hw hL hm).mono ?_
 rintro e w' ⟨h1,b⟩
 rcases h1 with ⟨h,t',rfl,h2,h3⟩ | ⟨rfl,_,h2⟩
 · exact absurd h2 (hT.2 t')
 ·
  rw [hT.1]
  exact ⟨rfl,b⟩
end Go.Proofs.YtillcleccjgocaaGreat
namespace Go.Proofs.YtillcleccjgocaaGreat.By
open Go.RowKit
open Mem
theorem take_snoc {xs ys : List UInt8} {k : Nat} (h : xs.take k = ys.take k) (ha : k < xs.length) (hb : k < ys.length) (e : xs[k] = ys[k]) : xs.take (k + 1) = ys.take (k + 1) := by
 rw [List.take_succ_eq_append_getElem ha,List.take_succ_eq_append_getElem hb,h,e]
set_option maxHeartbeats 1000000 in
theorem same_any (xs ys : List UInt8) (ao bo : Option Addr) (n m ca cb : Nat) (w : World) (hA : Ls w ao n ca xs) (hB : Ls w bo m cb ys) :
  Calls Tryz.prog 9 #[.slice ao n ca,.slice bo m cb] w fun e w' => e = .returned (.bool (decide (xs = ys))) ∧ Below w.heap.size w w' := by
 have HA := Lib.hid hA
 have HB := Lib.hid hB
 have HN := Lib.hid hA.len
 have HM := Lib.hid hB.len
 have hca := hA.reach
 have hfa := hA.fits
 have hcb := hB.reach
 have hfb := hB.fits
 clear hA hB
 by_cases hnm : n = m
 ·
  subst hnm
  have hne : ((n : Int) != (n : Int)) = false := bne_self_eq_false _
  go_enter Tryz.func9,Tryz.ntmps9
  go_wp2
  go_loopw [5] (fun i wr => ∃ k : Nat,k ≤ n ∧ i = .int .i64 k ∧ Hid (xs.take k = ys.take k) ∧ Hid (Below w.heap.size w wr)) (fun i _ => n - (intOf i).toNat)
  case atStart => exact ⟨0,Nat.zero_le _,rfl,Lib.hid rfl,Lib.hid (Below.refl _ _)⟩
  case round =>
   obtain ⟨k,hk,rfl,HT,HBz⟩ := hrel
   by_cases hlt : k < n
   ·
    obtain ⟨a,oa,rfl⟩ := HA.out.at (by omega)
    obtain ⟨b,ob,rfl⟩ := HB.out.at (by omega)
    have hka : k < xs.length := HN.out ▸ hlt
    have hkb : k < ys.length := HM.out ▸ hlt
    have c1 := HA.out.row k hka
    have c2 := HB.out.row k hkb
    rw [← (bcell HBz.out).1 _ _ (cell_lt c1)] at c1
    rw [← (bcell HBz.out).1 _ _ (cell_lt c2)] at c2
    unfold bv at c1 c2
    have hlt' : (k : Int) < (n : Int) := by omega
    by_cases hxy : xs[k] = ys[k]
    ·
     have HT' : Hid (xs.take (k + 1) = ys.take (k + 1)) := Lib.hid (take_snoc HT.out hka hkb hxy)
     have hne : ((xs[k].toNat : Int) != (ys[k].toNat : Int)) = false := by rw [hxy]; simp
     clear hxy
     generalize xs[k] = x at *
     generalize ys[k] = y at *
     go_wp2
     go_quiet (fail)
     go_wp2
     go_roundw
     case rel => exact ⟨k + 1,by omega,by go_num,HT',Lib.hid (below_drewN HBz.out _)⟩
     case measure => simp [intOf]; omega
    ·
     have hne : ((xs[k].toNat : Int) != (ys[k].toNat : Int)) = true := by
      rw [bne_iff_ne]
      intro h
      exact hxy (UInt8.toNat_inj.1 (by omega))
     have HF : Hid (decide (xs = ys) = false) := Lib.hid (by
      rw [decide_eq_false_iff_not]
      intro h
      subst h
      exact hxy rfl)
     clear hxy
     generalize xs[k] = x at *
     generalize ys[k] = y at *
     go_wp2
     go_quiet (fail)
     go_wp2
     go_ret
     exact ⟨by rw [HF.out]; rfl,below_drewN HBz.out _⟩
   ·
    have HF : Hid (decide (xs = ys) = true) := Lib.hid (by
     rw [decide_eq_true_iff]
     have h1 := HT.out
     have h2 := HN.out
     have h3 := HM.out
     rwa [List.take_of_length_le (by omega),List.take_of_length_le (by omega)] at h1)
    go_wp2
    go_ret
    exact ⟨by rw [HF.out]; rfl,HBz.out⟩
 ·
  have HF : Hid (decide (xs = ys) = false) := Lib.hid (by
   rw [decide_eq_false_iff_not]
   intro h
   subst h
   exact hnm (HN.out.trans HM.out.symm))
  have hne : ((n : Int) != (m : Int)) = true := bne_iff_ne.2 (by omega)
  go_enter Tryz.func9,Tryz.ntmps9
  go_wp2
  go_ret
  exact ⟨by rw [HF.out]; rfl,Below.refl _ _⟩
end Go.Proofs.YtillcleccjgocaaGreat.By
namespace Go.Proofs.YtillcleccjgocaaGreat
open Go.RowKit
open Mem Pk Cm
theorem Bl.Lies.new_at {w v : World} {h : Bl.Sv} (l : Bl.Lies w h Bl.new) : Bl.Lies v h Bl.new := by
 obtain ⟨rs,h1,h2⟩ := l.post
 have e : rs = [] := List.length_eq_zero_iff.1 h2.len
 subst e
 exact ⟨⟨l.tab.len,l.tab.fits,l.tab.reach,l.tab.nil,.inl rfl,l.tab.short⟩,⟨l.ser.len,l.ser.fits,l.ser.reach,l.ser.nil,.inl rfl,l.ser.short⟩,⟨[],⟨h1.len,h1.fits,h1.reach,h1.nil,.inl rfl,h1.short⟩,Bl.each_nil v⟩,⟨l.book.len,l.book.fits,l.book.reach,l.book.nil,.inl rfl,l.book.short⟩,⟨l.sess.len,l.sess.fits,l.sess.reach,l.sess.nil,.inl rfl,l.sess.short⟩,l.next,l.fit⟩
theorem Im.ls5 (u : World) (a b c d e : UInt8) : By.Ls (u.alloc (.cells #[By.bv a,By.bv b,By.bv c,By.bv d,By.bv e] 5)) (some ⟨u.heap.size,0,none⟩) 5 5 [a,b,c,d,e] := by
 have h : By.Block (u.alloc (.cells #[By.bv a,By.bv b,By.bv c,By.bv d,By.bv e] 5)) u.heap.size [a,b,c,d,e] := heap_alloc_new u _
 exact h.ls (by simp)
theorem By.same_eq (xs : List UInt8) (ao bo : Option Addr) (n m ca cb : Nat) (w0 w : World) (hw : Below w0.heap.size w0 w) (hA : By.Ls w ao n ca xs) (hB : By.Ls w bo m cb xs) :
  Calls Tryz.prog 9 #[.slice ao n ca,.slice bo m cb] w fun e w' => e = .returned (.bool true) ∧ Below w0.heap.size w0 w' :=
 (By.same_any xs xs ao bo n m ca cb w hA hB).mono fun e w' ⟨h1,h2⟩ => ⟨by rw [h1,decide_eq_true rfl],bchain hw h2⟩
set_option maxHeartbeats 4000000 in
theorem imruns (w0 w : World) (hw : Below w0.heap.size w0 w) : Calls Tryz.prog 3 #[] w fun e w' => e = .returned (.bool true) ∧ Below w0.heap.size w0 w' := by
 have HW := Lib.hid hw
 clear hw
 go_enter Tryz.func3,Tryz.ntmps3
 go_wp2_with fail
 refine (bil_new w _ (Below.refl _ _)).mono ?_
 rintro e w1 ⟨h0,rfl,hL0,b1⟩
 have HL0 := Lib.hid hL0.lies
 have HB1 := Lib.hid b1
 clear hL0 b1
 go_wp2_with fail
 refine (img_put h0 Bl.new w1 w1 (Below.refl _ _) HL0.out).mono ?_
 rintro e w2 ⟨h2,b2⟩
 have HB2 := Lib.hid (bchain HB1.out b2)
 clear b2
 rcases h2 with ⟨_,ao,n,cap,rfl,hLb,_⟩ | ⟨hN,_⟩
 case inr => exact absurd Bl.right_new hN
 rw [Im.new_bytes] at hLb
 obtain rfl : n = 5 := hLb.len
 have hcap := hLb.reach
 have hfit := hLb.fits
 have HLb := Lib.hid hLb
 clear hLb
 go_wp2_with fail
 refine (img_get_yes _ Bl.new ao 5 cap w2 w2 (Below.refl _ _) HLb.out (by omega) Im.told_new).mono ?_
 rintro e w3 ⟨h,rfl,lp,b3⟩
 have hb4 := Bl.below_own w3 h
 have HB4 := Lib.hid (bchain (bchain HB2.out b3) hb4)
 have HA4 := Lib.hid (Bl.at_box w3 h)
 have HLs := Lib.hid (lp.lies.below hb4)
 have HL4 := Lib.hid (HLb.out.below (bchain b3 hb4))
 obtain ⟨W4,hW4⟩ : ∃ W4,Bl.box w3 h = W4 := ⟨_,rfl⟩
 rw [hW4] at HB4 HA4 HLs HL4
 have HS4 := Lib.hid hW4
 clear lp b3 hb4 hW4 HLb
 go_wp2_with (first | ((with_reducible apply Bl.wpl_store (h := h) (g := w3.heap.size)); rfl; rfl; rfl; rfl; rfl; rfl) | (at_builtin; go_must (refine By.wpList_append (W4.alloc (.cells #[] 5)) rfl (.tmp 18) (.tmp 19) rfl W4.heap.size (.slice (some ⟨W4.heap.size,0,none⟩) 0 0) [] rfl (By.own_empty (Nat.le_refl _) (heap_alloc_new W4 _)) ao 5 cap [0,0,0,0,2] rfl rfl HL4.out.nil (HL4.out.below ((Below.refl _ _).alloc (Nat.le_refl _) _)).seg (by simp) (by simp) ?_)) | rw [HS4.out])
 obtain ⟨g,hg⟩ : ∃ g,w3.heap.size = g := ⟨_,rfl⟩
 rw [hg] at HA4
 try rw [hg]
 clear HS4 hg
 intro v5 w5 o5 gr5 _
 have hb5 : Below W4.heap.size W4 w5 := ((Below.refl _ _).alloc (Nat.le_refl _) _).grown gr5 (by simp) (fun k e => by cases e; exact Nat.le_refl _)
 have HB5 := Lib.hid hb5
 have HO5 := Lib.hid o5
 clear o5 gr5 hb5
 go_wp2_with (at_builtin; go_must (refine By.wpList_append (w5.alloc (.cells #[.int .u8 0] 5)) rfl (.tmp 20) (.tmp 21) rfl W4.heap.size v5 [0,0,0,0,2] rfl (By.own_alloc HO5.out _) (some ⟨w5.heap.size,0,none⟩) 1 1 [0] rfl rfl (fun z => by cases z) (By.seg_one (heap_alloc_new w5 _) rfl) (by simp) (by have := HB5.out.size; simp; omega) ?_))
 intro v6 w6 o6 gr6 _
 have hb6 : Below W4.heap.size W4 w6 := (HB5.out.alloc HB5.out.size _).grown gr6 (by have := HB5.out.size; simp; omega) (By.own_ge HO5.out)
 obtain ⟨ao6,cap6,rfl,l6,_⟩ := By.own_ls o6
 have HB6 := Lib.hid hb6
 have HL6 := Lib.hid l6
 clear o6 gr6 hb6 l6 HO5 HB5
 go_wp2_with fail
 refine (img_get_no [0,0,0,0,2,0] 5 ao6 6 cap6 W4 w6 HB6.out HL6.out (by omega) Im.get_tail).mono ?_
 rintro e w7 ⟨rfl,b7⟩
 have hb8 := Bl.below_own w7 Bl.zsv
 have HB8 := Lib.hid (bchain b7 hb8)
 clear b7 hb8 HB6 HL6
 go_wp2_with (first | ((with_reducible apply Bl.wpl_store (h := Bl.zsv) (g := w7.heap.size)); rfl; rfl; rfl; rfl; rfl; rfl))
 generalize Bl.box w7 Bl.zsv = W8 at *
 refine (img_get_no [] 3 none 0 0 W4 W8 HB8.out (By.ls_nil _) (by omega) Im.get_none).mono ?_
 rintro e w9 ⟨rfl,b9⟩
 have HB10 := Lib.hid (bchain b9 (Bl.below_own w9 Bl.zsv))
 clear b9 HB8
 go_wp2_with (first | ((with_reducible apply Bl.wpl_store (h := Bl.zsv) (g := w9.heap.size)); rfl; rfl; rfl; rfl; rfl; rfl))
 generalize Bl.box w9 Bl.zsv = W10 at *
 refine (img_get_no [0,0,0,0,0] 4 (some ⟨W10.heap.size,0,none⟩) 5 5 W4 _ (below_box HB10.out _) (Im.ls5 W10 0 0 0 0 0) (by omega) Im.get_zero).mono ?_
 rintro e w11 ⟨rfl,b11⟩
 have HB12 := Lib.hid (bchain b11 (Bl.below_own w11 Bl.zsv))
 clear b11 HB10
 go_wp2_with (first | ((with_reducible apply Bl.wpl_store (h := Bl.zsv) (g := w11.heap.size)); rfl; rfl; rfl; rfl; rfl; rfl))
 generalize Bl.box w11 Bl.zsv = X at *
 have HAx := Lib.hid (HA4.out.below HB12.out)
 have HLx := Lib.hid (HLs.out.below HB12.out)
 have HLy := Lib.hid (HL4.out.below HB12.out)
 have HBx := Lib.hid (bchain HB4.out HB12.out)
 clear HA4 HLs HL4 HB12
 have lx : ∀ u,Below X.heap.size X u → Below X.heap.size X u ∧ u.cell? ⟨g,0,none⟩ = some (.slice h.tab.ao h.tab.n h.tab.cap) ∧ u.cell? ⟨g,1,none⟩ = some (.slice h.ser.ao h.ser.n h.ser.cap) ∧ u.cell? ⟨g,2,none⟩ = some (.slice h.post.ao h.post.n h.post.cap) ∧ u.cell? ⟨g,3,none⟩ = some (.slice h.book.ao h.book.n h.book.cap) ∧ u.cell? ⟨g,4,none⟩ = some (.slice h.sess.ao h.sess.n h.sess.cap) ∧ u.cell? ⟨g,5,none⟩ = some (.int .i64 h.next) := fun u b => ⟨b,(HAx.out.below b).cells⟩
 obtain ⟨x0,x1,x2,x3,x4,x5⟩ := HAx.out.cells
 go_region_held3 (fun u => Below X.heap.size X u ∧ u.cell? ⟨g,0,none⟩ = some (.slice h.tab.ao h.tab.n h.tab.cap) ∧ u.cell? ⟨g,1,none⟩ = some (.slice h.ser.ao h.ser.n h.ser.cap) ∧ u.cell? ⟨g,2,none⟩ = some (.slice h.post.ao h.post.n h.post.cap) ∧ u.cell? ⟨g,3,none⟩ = some (.slice h.book.ao h.book.n h.book.cap) ∧ u.cell? ⟨g,4,none⟩ = some (.slice h.sess.ao h.sess.n h.sess.cap) ∧ u.cell? ⟨g,5,none⟩ = some (.int .i64 h.next)) (first | with_reducible assumption | (apply lx; repeat (first | with_reducible assumption | with_reducible apply below_box | with_reducible apply Below.drew | with_reducible exact Below.refl _ _)) | fail) (first | (go_at_call 9; have hBz := And.left (by assumption); refine (By.same_eq [0,0,0,0,2] ao _ 5 5 cap 5 X _ hBz (HLy.out.below hBz) (by first | exact Im.ls5 X 0 0 0 0 2 | exact (Im.ls5 X 0 0 0 0 2).below (Below.refl _ _).drew | exact Im.ls5 X.drew 0 0 0 0 2 | exact (Im.ls5 X.drew 0 0 0 0 2).below (Below.refl _ _).drew)).mono ?_; rintro e u ⟨rfl,b⟩; have sS := lx _ b; have HBu := Lib.hid b; clear b hBz) | (go_at_call 7; have hBz := And.left (by assumption); refine (bil_new X _ hBz).mono ?_; rintro e u ⟨hN,rfl,hLN,b⟩; have sS := lx _ b; have HLn := Lib.hid hLN; have HBu := Lib.hid b; clear b hLN hBz) | (go_at_call 10; have hBz := And.left (by assumption); refine (keep_states Bl.new h hN X _ hBz (HLx.out.below hBz) HLn.out.lies.new_at).mono ?_; rintro e u ⟨rfl,b⟩; have sS := lx _ b; have HBu := Lib.hid b; clear b hBz) | fail)
 all_goals (try go_wp2_with fail)
 all_goals go_ret
 all_goals exact ⟨rfl,bchain HW.out (bchain HBx.out (by first | exact HBu.out | exact HBu.out.drew))⟩
theorem imageRuns_walk (w : World) : Calls Tryz.prog 3 #[] w fun e w' => e = .returned (.bool true) ∧ Below w.heap.size w w' := imruns w w (Below.refl _ _)
end Go.Proofs.YtillcleccjgocaaGreat
