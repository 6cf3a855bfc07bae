import Derived.BigQuiet
import Derived.Test.YtlmjeackfepllaaGreatDoorZWk2
import Derived.Test.YtlmjeackfepllaaGreatDoorZWk4
import Derived.Test.YtlmjeackfepllaaGreatDoorZWk8
import Derived.Test.YtlmjeackfepllaaGreatDoorZWk9
set_option maxRecDepth 100000
set_option linter.unusedVariables false
namespace Go.Proofs.YtlmjeackfepllaaGreatDoor.Wl
open Go.RowKit
open Mem Dk
theorem findL_lt {fs : List F} : ∀ l : List Nat,(∀ k ∈ l,k < 100) → (findL fs l).1 < 100
 | [],_ => by show (0 : Nat) < 100; omega
 | m :: l,h => by
  rw [findL]
  split
  · exact h m (List.mem_cons_self ..)
  · exact findL_lt l fun x hx => h x (List.mem_cons_of_mem _ hx)
theorem findL_end {d : D} (ho : Ok d) : ∀ l : List Nat,(findL d.fs l).2.2.2 ≤ 4194304
 | [] => Nat.zero_le _
 | m :: l => by
  rw [findL]
  split
  ·
   show (read (flOf d.fs m)).2 ≤ 4194304
   have h1 := (read_cut (flOf d.fs m)).1
   have h2 : (flOf d.fs m).length ≤ total d.fs := own_room ho (wname m)
   have h3 := ho.room
   omega
  · exact findL_end ho l
theorem zs_keep {Q : Nat → Prop} {w u : World} {ao : Option Addr} {n cap : Nat} {zs : List Int} (h : Ni.Zs w ao n cap zs) (k : UpdQ Q w u) (hQ : ∀ ad,ao = some ad → ¬ Q ad.block) : Ni.Zs u ao n cap zs := by
 refine ⟨h.len,h.fits,h.reach,?_⟩
 rcases h.seg with e | ⟨b,off,e,hc⟩
 · exact .inl e
 · exact .inr ⟨b,off,e,fun i hi => (Hd.cell_same (k.block b (cell_lt (hc i hi)) (hQ _ e)) _).trans (hc i hi)⟩
section
variable {P R : Nat → Prop} {w0 w u u' : World} {g p n : Nat} {f : Bool} {s : Sg} {d : D}
theorem acc_both (hs : w.heap.size ≤ u.heap.size) (h : Both (nw (nw P w) u) w0 u' g p n f s d) : Both (nw P w) w0 u' g p n f s d := h.mono fun b z => z.elim id fun z => .inr (Nat.le_trans hs z)
theorem acc_upd (h : UpdQ P w u) (k : UpdQ (nw P w) u u') : UpdQ P w u' := upd_nw ((h.mono fun b z => .inl z).trans k)
end
def OpenE (P : Nat → Prop) (w0 w : World) (p : Nat) (x : Int × Nat × Sg × D) (e : Ending) (w' : World) : Prop :=
 (x.1 = 0 ∧ ∃ g,e = .returned (.tuple #[.pointer (some ⟨g,0,none⟩),.int .i64 0]) ∧ Both (nw P w) w0 w' g p x.2.1 false x.2.2.1 x.2.2.2 ∧ UpdQ P w w') ∨
 (x.1 ≠ 0 ∧ e = .returned (.tuple #[.pointer none,.int .i64 x.1]) ∧ S (nw P w) w0 w' p x.2.2.2 ∧ UpdQ P w w')
set_option maxHeartbeats 1000000 in
theorem wl_open_nil (w : World) : Calls Tryz.prog 10 #[.pointer none] w fun e w' => e = .returned (.tuple #[.pointer none,.int .i64 1]) ∧ w' = w := by
 go_enter Tryz.func10,Tryz.ntmps10
 go_wp2_with fail
 go_ret2
 exact ⟨rfl,rfl⟩
set_option maxHeartbeats 8000000 in
theorem wl_open {P : Nat → Prop} {w0 w : World} {p : Nat} {d : D} (h : S P w0 w p d) (hN : Nm d.fs) :
  Calls Tryz.prog 10 #[.pointer (some ⟨p,0,none⟩)] w (OpenE P w0 w p (openS d)) := by
 have ok := h.ok
 have hfew : d.fs.length ≤ 1000 := h.dsk.elim fun v h => h.elim fun L h => h.elim fun rs h => h.few
 have hks : ∀ k ∈ numsS (names d.fs),k < 100 := fun k hk => ((mem_nums hN).1 hk).1
 have hkl : (numsS (names d.fs)).length ≤ 1000 := by
  unfold numsS numsL
  rw [List.length_mergeSort]
  have := List.length_filterMap_le (fun s => numOf (txt s)) (names d.fs)
  unfold names at this ⊢
  rw [List.length_map] at this
  omega
 have hnm : ∀ x ∈ names d.fs,x.size ≤ 140737488355328 := fun x hx => by
  unfold names at hx
  obtain ⟨f,hf,rfl⟩ := List.mem_map.1 hx
  have := ok.names f hf
  omega
 have hnl : (names d.fs).length ≤ 1000 := by unfold names; rw [List.length_map]; exact hfew
 obtain ⟨ks,hks0⟩ : ∃ ks,numsS (names d.fs) = ks := ⟨_,rfl⟩
 rw [hks0] at hks hkl
 obtain ⟨n,s,tn,at',hx⟩ : ∃ n s tn at',findL d.fs ks.reverse = (n,s,tn,at') := ⟨_,_,_,_,rfl⟩
 have hn100 : n < 100 := by
  have := findL_lt (fs := d.fs) ks.reverse fun k hk => hks k (List.mem_reverse.1 hk)
  rw [hx] at this
  exact this
 have hat : at' ≤ 4194304 := by
  have := findL_end ok ks.reverse
  rw [hx] at this
  exact this
 have HX : Hid (openS d = (let c := if tn = true then cutD d (wname n) (at' : Int) else (0,d)
  if c.1 ≠ 0 then (c.1,n,s,c.2) else
  if (rmO s.ready n c.2 ks).1 ≠ 0 then ((rmO s.ready n c.2 ks).1,n,s,(rmO s.ready n c.2 ks).2) else
  if s.ready = true then ((syncD (rmO s.ready n c.2 ks).2 (wname n)).1,n,s,(syncD (rmO s.ready n c.2 ks).2 (wname n)).2) else (0,n,s,(rmO s.ready n c.2 ks).2))) := Lib.hid (by
  unfold openS
  rw [hks0,hx])
 have HS := Lib.hid h
 have HK := Lib.hid (And.intro hks hkl)
 have HN := Lib.hid (And.intro hnm hnl)
 have CN := Lib.hid (s_names h)
 have HFx := Lib.hid hx
 have HK0 := Lib.hid hks0
 clear h hN ok hfew hks hkl hnm hnl hx hks0
 go_enter Tryz.func10,Tryz.ntmps10
 go_wp2_with fail
 refine CN.out.mono ?_
 rintro e u1 ⟨v1,rfl,o1,b1⟩
 obtain ⟨ao1,cap1,rfl,hL1⟩ := St.own_ls o1
 have HB1 := Lib.hid b1
 have CU := Lib.hid (wl_numbers ao1 _ cap1 (names d.fs) u1 hL1 HN.out.1 HN.out.2)
 unfold NumsE at CU
 rw [HK0.out] at CU
 obtain ⟨m1,hm1⟩ : ∃ m1,(names d.fs).length = m1 := ⟨_,rfl⟩
 rw [hm1] at CU ⊢
 clear b1 o1 hL1 CN hm1
 go_wp2_with fail
 refine CU.out.mono ?_
 rintro e u2 ⟨v2,rfl,o2,b2⟩
 obtain ⟨ao,cap,hv2,hZ,hao⟩ := Ni.own_zs o2
 rw [List.length_map] at hv2 hZ
 obtain ⟨m,hm⟩ : ∃ m,ks.length = m := ⟨_,rfl⟩
 rw [hm] at hv2 hZ
 subst hv2
 have HZ := Lib.hid hZ
 have HAo := Lib.hid hao
 have HB2 := Lib.hid (bchain HB1.out b2)
 have HU1 := Lib.hid HB1.out.size
 clear b2 o2 hZ hao CU hm
 go_wp2_with fail
 refine (wl_empty u2).mono ?_
 rintro e u3 ⟨rfl,b3⟩
 have HB3 := Lib.hid (bchain HB2.out b3)
 have HZ3 := Lib.hid (HZ.out.below b3)
 have HAo3 : Hid (∀ ad,ao = some ad → w.heap.size ≤ ad.block ∧ ad.block < u3.heap.size) := Lib.hid fun ad e => by
  have h1 := HAo.out ad e
  have h2 := b3.size
  have h3 := HU1.out
  exact ⟨by omega,by omega⟩
 clear b3
 obtain ⟨Q,hQ⟩ : ∃ Q : Nat → Prop,(fun b => P b ∧ b < w.heap.size) = Q := ⟨_,rfl⟩
 have HQ : Hid (∀ b,Q b ↔ P b ∧ b < w.heap.size) := Lib.hid fun b => by rw [← hQ]
 obtain ⟨g,hg⟩ : ∃ g,u3.heap.size = g := ⟨_,rfl⟩
 obtain ⟨W,hW⟩ : ∃ W,u3.alloc (.cells #[.pointer (some ⟨p,0,none⟩),.int .i64 0,.int .i64 0,.int .i64 (-1),.int .i64 0,.int .i64 0,.int .i64 0,.string ⟨#[]⟩,.slice none 0 0,.bool false,.bool false,.bool false] 82) = W := ⟨_,rfl⟩
 have hbW : Below u3.heap.size u3 W := hW ▸ (Below.refl _ _).alloc (Nat.le_refl _) _
 have hA : Both (nw Q u3) w0 W g p 0 false empty d := by
  have hs3 := HB3.out.size
  have hs0 := HS.out.bel.size
  have hsW : W.heap.size = g + 1 := by rw [← hW,← hg]; simp
  refine ⟨fun b => b = g,Q,⟨⟨none,0,0⟩,(vl_empty _ _).seg ⟨rfl,?_⟩ rfl fun b e => by cases e⟩,?_,fun b z => by omega,fun b z z2 => ?_,fun b z => by omega,fun b z => ?_,fun b z => .inr (by omega),fun b z => .inl z⟩
  ·
   rw [← hW,← hg]
   exact heap_alloc_new u3 _
  ·
   rw [← hQ]
   exact HS.out.tight.later (bchain HB3.out hbW)
  ·
   have := (HQ.out b).1 z2
   omega
  ·
   have := (HQ.out b).1 z
   omega
 have HA := Lib.hid hA
 have HU : Hid (UpdQ Q u3 W) := Lib.hid (UpdQ.of hbW)
 have CF := Lib.hid (wl_find hA ao m cap ks (HZ3.out.below hbW) (fun ad e => by have := HAo3.out ad e; have := hbW.size; omega) HK.out.1)
 rw [HFx.out] at CF
 have HQR : Hid (∀ b,nw Q u3 b → nw P w b) := Lib.hid fun b z => z.elim (fun z => .inl ((HQ.out b).1 z).1) fun z => .inr (Nat.le_trans HB3.out.size z)
 have HQS : Hid (∀ b,nw P w b → w0.heap.size ≤ b) := Lib.hid (S.nwsub HS.out)
 have HQ2 : Hid (∀ ad,ao = some ad → ¬ nw Q u3 ad.block) := Lib.hid fun ad e z => by
  have h1 := HAo3.out ad e
  rcases z with z | z
  ·
   have := (HQ.out _).1 z
   omega
  · omega
 have HQP : Hid (∀ b,Q b → P b) := Lib.hid fun b z => ((HQ.out b).1 z).1
 clear hbW hA hQ
 go_wp2_with fail
 try rw [hW]
 try rw [hg]
 refine CF.out.mono ?_
 rintro e u4 ⟨rfl,h4,q4⟩
 have HA4 : Hid (Both (nw Q u3) w0 u4 g p n false s d) := Lib.hid (acc_both HU.out.size h4)
 have HU4 : Hid (UpdQ Q u3 u4) := Lib.hid (acc_upd HU.out q4)
 clear h4 q4 CF HA HU hW
 dsimp only
 cases tn
 ·
  have HX1 : Hid (openS d = (if (rmO s.ready n d ks).1 ≠ 0 then ((rmO s.ready n d ks).1,n,s,(rmO s.ready n d ks).2) else if s.ready = true then ((syncD (rmO s.ready n d ks).2 (wname n)).1,n,s,(syncD (rmO s.ready n d ks).2 (wname n)).2) else (0,n,s,(rmO s.ready n d ks).2))) := Lib.hid (by rw [HX.out]; rfl)
  clear HX
  have CR := Lib.hid (wl_removeOthers HA4.out ao m cap ks (zs_keep HZ3.out HU4.out fun ad e z => HQ2.out ad e (.inl z)) HQ2.out HK.out.1 HK.out.2)
  obtain ⟨r,d2,hr⟩ : ∃ r d2,rmO s.ready n d ks = (r,d2) := ⟨_,_,rfl⟩
  rw [hr] at CR HX1
  dsimp only at HX1
  clear hr
  go_wp2_with fail
  refine CR.out.mono ?_
  rintro e u6 ⟨rfl,h6,q6⟩
  have HA6 : Hid (Both (nw Q u3) w0 u6 g p n false s d2) := Lib.hid (acc_both HU4.out.size h6)
  have HU6 : Hid (UpdQ Q u3 u6) := Lib.hid (acc_upd HU4.out q6)
  clear h6 q6 CR
  dsimp only
  by_cases hr0 : r = 0
  ·
   subst hr0
   have HX2 : Hid (openS d = (if s.ready = true then ((syncD d2 (wname n)).1,n,s,(syncD d2 (wname n)).2) else (0,n,s,d2))) := Lib.hid (by rw [HX1.out,if_neg (fun z => z rfl)])
   clear HX1
   obtain ⟨P6,Q6,hp6⟩ := HA6.out
   have rdy := hp6.wal.isReady
   have k1 := hp6.wal.cells.2.1
   have HP6 := Lib.hid hp6
   cases hrd : s.ready
   ·
    rw [hrd] at rdy
    have HX3 : Hid (openS d = (0,n,s,d2)) := Lib.hid (by rw [HX2.out,if_neg (by rw [hrd]; simp)])
    clear hp6 hrd HX2
    go_wp2_with fail
    go_ret2
    rw [HX3.out]
    exact .inl ⟨rfl,g,rfl,HA6.out.mono HQR.out,(UpdQ.of HB3.out).trans (HU6.out.mono HQP.out)⟩
   ·
    rw [hrd] at rdy
    obtain ⟨y,d3,hy⟩ : ∃ y d3,syncD d2 (wname n) = (y,d3) := ⟨_,_,rfl⟩
    have HX3 : Hid (openS d = (y,n,s,d3)) := Lib.hid (by rw [HX2.out,if_pos hrd,hy])
    have CS := Lib.hid (chg_sync hp6.dsk (wname n))
    rw [hy] at CS
    clear hp6 hrd HX2 hy
    go_wp2_with (first | (go_at_call 43; refine (wl_name n hn100 _).mono ?_; rintro e u ⟨rfl,hu⟩; rw [hu]; clear hu u) | fail)
    refine CS.out.mono ?_
    rintro e u7 hz
    have hp7 := HP6.out.disk hz
    obtain ⟨rfl,_,_⟩ := hz
    have HA7 : Hid (Both (nw Q u3) w0 u7 g p n false s d3) := Lib.hid (acc_both HU6.out.size ⟨_,_,hp7.1⟩)
    have HU7 : Hid (UpdQ Q u3 u7) := Lib.hid (acc_upd HU6.out (hp7.2.mono HP6.out.qr))
    clear hp7 CS k1 rdy
    dsimp only
    by_cases hy0 : y = 0
    ·
     subst hy0
     go_wp2_with fail
     go_ret2
     rw [HX3.out]
     exact .inl ⟨rfl,g,rfl,HA7.out.mono HQR.out,(UpdQ.of HB3.out).trans (HU7.out.mono HQP.out)⟩
    ·
     have qy : (y != 0) = true := bne_iff_ne.2 hy0
     go_wp2_with fail
     go_ret2
     rw [HX3.out]
     obtain ⟨P7,Q7,hp7⟩ := HA7.out
     exact .inr ⟨hy0,rfl,S.wide hp7.dsk (fun b z => HQR.out b (hp7.qr b z)) HQS.out,(UpdQ.of HB3.out).trans (HU7.out.mono HQP.out)⟩
  ·
   have qr : (r != 0) = true := bne_iff_ne.2 hr0
   have HX2 : Hid (openS d = (r,n,s,d2)) := Lib.hid (by rw [HX1.out,if_pos hr0])
   clear HX1
   go_wp2_with fail
   go_ret2
   rw [HX2.out]
   obtain ⟨P6,Q6,hp6⟩ := HA6.out
   exact .inr ⟨hr0,rfl,S.wide hp6.dsk (fun b z => HQR.out b (hp6.qr b z)) HQS.out,(UpdQ.of HB3.out).trans (HU6.out.mono HQP.out)⟩
 ·
  obtain ⟨c,d1,hc⟩ : ∃ c d1,cutD d (wname n) (at' : Int) = (c,d1) := ⟨_,_,rfl⟩
  have HX0 : Hid (openS d = (if c ≠ 0 then (c,n,s,d1) else if (rmO s.ready n d1 ks).1 ≠ 0 then ((rmO s.ready n d1 ks).1,n,s,(rmO s.ready n d1 ks).2) else if s.ready = true then ((syncD (rmO s.ready n d1 ks).2 (wname n)).1,n,s,(syncD (rmO s.ready n d1 ks).2 (wname n)).2) else (0,n,s,(rmO s.ready n d1 ks).2))) := Lib.hid (by rw [HX.out,if_pos rfl,hc])
  clear HX
  obtain ⟨P4,Q4,hp4⟩ := HA4.out
  have k1 := hp4.wal.cells.2.1
  have HP4 := Lib.hid hp4
  have CC := Lib.hid (s_cut hp4.dsk (wname n) (at' : Int) ⟨by omega,by omega⟩)
  rw [hc] at CC
  clear hp4 hc
  go_wp2_with (first | (go_at_call 43; refine (wl_name n hn100 _).mono ?_; rintro e u ⟨rfl,hu⟩; rw [hu]; clear hu u) | fail)
  refine CC.out.mono ?_
  rintro e u5 hz
  have hp5 := HP4.out.disk (x := (c,d1)) (e := e) hz
  obtain ⟨rfl,_,_⟩ := hz
  have HA5 : Hid (Both (nw Q u3) w0 u5 g p n false s d1) := Lib.hid (acc_both HU4.out.size ⟨_,_,hp5.1⟩)
  have HU5 : Hid (UpdQ Q u3 u5) := Lib.hid (acc_upd HU4.out (hp5.2.mono HP4.out.qr))
  clear hp5 CC k1
  dsimp only
  by_cases hc0 : c = 0
  ·
   subst hc0
   have HX1 : Hid (openS d = (if (rmO s.ready n d1 ks).1 ≠ 0 then ((rmO s.ready n d1 ks).1,n,s,(rmO s.ready n d1 ks).2) else if s.ready = true then ((syncD (rmO s.ready n d1 ks).2 (wname n)).1,n,s,(syncD (rmO s.ready n d1 ks).2 (wname n)).2) else (0,n,s,(rmO s.ready n d1 ks).2))) := Lib.hid (by rw [HX0.out,if_neg (fun z => z rfl)])
   clear HX0
   have CR := Lib.hid (wl_removeOthers HA5.out ao m cap ks (zs_keep HZ3.out HU5.out fun ad e z => HQ2.out ad e (.inl z)) HQ2.out HK.out.1 HK.out.2)
   obtain ⟨r,d2,hr⟩ : ∃ r d2,rmO s.ready n d1 ks = (r,d2) := ⟨_,_,rfl⟩
   rw [hr] at CR HX1
   dsimp only at HX1
   clear hr
   go_wp2_with fail
   refine CR.out.mono ?_
   rintro e u6 ⟨rfl,h6,q6⟩
   have HA6 : Hid (Both (nw Q u3) w0 u6 g p n false s d2) := Lib.hid (acc_both HU5.out.size h6)
   have HU6 : Hid (UpdQ Q u3 u6) := Lib.hid (acc_upd HU5.out q6)
   clear h6 q6 CR
   dsimp only
   by_cases hr0 : r = 0
   ·
    subst hr0
    have HX2 : Hid (openS d = (if s.ready = true then ((syncD d2 (wname n)).1,n,s,(syncD d2 (wname n)).2) else (0,n,s,d2))) := Lib.hid (by rw [HX1.out,if_neg (fun z => z rfl)])
    clear HX1
    obtain ⟨P6,Q6,hp6⟩ := HA6.out
    have rdy := hp6.wal.isReady
    have k1 := hp6.wal.cells.2.1
    have HP6 := Lib.hid hp6
    cases hrd : s.ready
    ·
     rw [hrd] at rdy
     have HX3 : Hid (openS d = (0,n,s,d2)) := Lib.hid (by rw [HX2.out,if_neg (by rw [hrd]; simp)])
     clear hp6 hrd HX2
     go_wp2_with fail
     go_ret2
     rw [HX3.out]
     exact .inl ⟨rfl,g,rfl,HA6.out.mono HQR.out,(UpdQ.of HB3.out).trans (HU6.out.mono HQP.out)⟩
    ·
     rw [hrd] at rdy
     obtain ⟨y,d3,hy⟩ : ∃ y d3,syncD d2 (wname n) = (y,d3) := ⟨_,_,rfl⟩
     have HX3 : Hid (openS d = (y,n,s,d3)) := Lib.hid (by rw [HX2.out,if_pos hrd,hy])
     have CS := Lib.hid (chg_sync hp6.dsk (wname n))
     rw [hy] at CS
     clear hp6 hrd HX2 hy
     go_wp2_with (first | (go_at_call 43; refine (wl_name n hn100 _).mono ?_; rintro e u ⟨rfl,hu⟩; rw [hu]; clear hu u) | fail)
     refine CS.out.mono ?_
     rintro e u7 hz
     have hp7 := HP6.out.disk hz
     obtain ⟨rfl,_,_⟩ := hz
     have HA7 : Hid (Both (nw Q u3) w0 u7 g p n false s d3) := Lib.hid (acc_both HU6.out.size ⟨_,_,hp7.1⟩)
     have HU7 : Hid (UpdQ Q u3 u7) := Lib.hid (acc_upd HU6.out (hp7.2.mono HP6.out.qr))
     clear hp7 CS k1 rdy
     dsimp only
     by_cases hy0 : y = 0
     ·
      subst hy0
      go_wp2_with fail
      go_ret2
      rw [HX3.out]
      exact .inl ⟨rfl,g,rfl,HA7.out.mono HQR.out,(UpdQ.of HB3.out).trans (HU7.out.mono HQP.out)⟩
     ·
      have qy : (y != 0) = true := bne_iff_ne.2 hy0
      go_wp2_with fail
      go_ret2
      rw [HX3.out]
      obtain ⟨P7,Q7,hp7⟩ := HA7.out
      exact .inr ⟨hy0,rfl,S.wide hp7.dsk (fun b z => HQR.out b (hp7.qr b z)) HQS.out,(UpdQ.of HB3.out).trans (HU7.out.mono HQP.out)⟩
   ·
    have qr : (r != 0) = true := bne_iff_ne.2 hr0
    have HX2 : Hid (openS d = (r,n,s,d2)) := Lib.hid (by rw [HX1.out,if_pos hr0])
    clear HX1
    go_wp2_with fail
    go_ret2
    rw [HX2.out]
    obtain ⟨P6,Q6,hp6⟩ := HA6.out
    exact .inr ⟨hr0,rfl,S.wide hp6.dsk (fun b z => HQR.out b (hp6.qr b z)) HQS.out,(UpdQ.of HB3.out).trans (HU6.out.mono HQP.out)⟩
  ·
   have qc : (c != 0) = true := bne_iff_ne.2 hc0
   have HX1 : Hid (openS d = (c,n,s,d1)) := Lib.hid (by rw [HX0.out,if_pos hc0])
   clear HX0
   go_wp2_with fail
   go_ret2
   rw [HX1.out]
   obtain ⟨P5,Q5,hp5⟩ := HA5.out
   exact .inr ⟨hc0,rfl,S.wide hp5.dsk (fun b z => HQR.out b (hp5.qr b z)) HQS.out,(UpdQ.of HB3.out).trans (HU5.out.mono HQP.out)⟩
end Go.Proofs.YtlmjeackfepllaaGreatDoor.Wl
namespace Go.Proofs.YtlmjeackfepllaaGreatDoor.Wl
open Go.RowKit
open Mem Dk
theorem hd_lay {w : World} {g : Nat} {x0 x1 x2 x3 x4 x5 x6 : Value} {ty : TypeId} (h : w.heap[g]? = some (.cells #[x0,x1,x2,x3,x4,x5,x6] ty (0,0))) (r : Hd.T) : (lay w g 0 r).heap[g]? = some (.cells (Hd.rv r).toArray ty (0,0)) := by
 have h0 := (heap_setCell_same _ g 0 _ _ (.int .i64 r.term) h).trans (show _ = some (Obj.cells #[.int .i64 r.term,x1,x2,x3,x4,x5,x6] ty (0,0)) from rfl)
 have h1 := (heap_setCell_same _ g 1 _ _ (.int .i64 r.vote) h0).trans (show _ = some (Obj.cells #[.int .i64 r.term,.int .i64 r.vote,x2,x3,x4,x5,x6] ty (0,0)) from rfl)
 have h2 := (heap_setCell_same _ g 2 _ _ (.int .i64 r.base) h1).trans (show _ = some (Obj.cells #[.int .i64 r.term,.int .i64 r.vote,.int .i64 r.base,x3,x4,x5,x6] ty (0,0)) from rfl)
 have h3 := (heap_setCell_same _ g 3 _ _ (.int .i64 r.bt) h2).trans (show _ = some (Obj.cells #[.int .i64 r.term,.int .i64 r.vote,.int .i64 r.base,.int .i64 r.bt,x4,x5,x6] ty (0,0)) from rfl)
 have h4 := (heap_setCell_same _ g 4 _ _ (.int .i64 r.mem) h3).trans (show _ = some (Obj.cells #[.int .i64 r.term,.int .i64 r.vote,.int .i64 r.base,.int .i64 r.bt,.int .i64 r.mem,x5,x6] ty (0,0)) from rfl)
 have h5 := (heap_setCell_same _ g 5 _ _ (.string r.snap) h4).trans (show _ = some (Obj.cells #[.int .i64 r.term,.int .i64 r.vote,.int .i64 r.base,.int .i64 r.bt,.int .i64 r.mem,.string r.snap,x6] ty (0,0)) from rfl)
 have h6 := (heap_setCell_same _ g 6 _ _ (sv r.log) h5).trans (show _ = some (Obj.cells #[.int .i64 r.term,.int .i64 r.vote,.int .i64 r.base,.int .i64 r.bt,.int .i64 r.mem,.string r.snap,sv r.log] ty (0,0)) from rfl)
 exact h6
theorem hdInfo : (Tryz.prog.info? 30).map (·.size) = some 7 := by kernel_rfl
theorem results_hd {fn : Func} {p : Tmp} (hf : fn.results = #[.cell p 30]) {tmps : Array Value} {w : World} {g : Nat} {r : Hd.T} (hp : tmps.getD p undef = .pointer (some ⟨g,0,none⟩))
  (hk : w.heap[g]? = some (.cells (Hd.rv r).toArray 30 (0,0))) : (results fn tmps).run Tryz.prog w = .ok (Hd.val r) w := by
 have hp' : tmps[p]?.getD undef = .pointer (some ⟨g,0,none⟩) := by simpa using hp
 have e1 := run_loadVar_row (P := Tryz.prog) w g 30 30 (Hd.rv r).toArray (0,0) _ hk Tryz.underlying30 rfl (by rw [hdInfo]; rfl)
 simp [results,hf,hp',asAddr,e1]
 rfl
def HardE (w : World) (s : Sg) (e : Ending) (w' : World) : Prop := ∃ v,e = .returned (Hd.val (row s.h v)) ∧ Et.Own w' w.heap.size (sv v) s.h.log ∧ Below w.heap.size w w'
set_option maxHeartbeats 4000000 in
theorem wl_hard {P : Nat → Prop} {w : World} {g p n : Nat} {f : Bool} {s : Sg} (h : Wal P w g p n f s) : Calls Tryz.prog 15 #[.pointer (some ⟨g,0,none⟩)] w (HardE w s) := by
 obtain ⟨v,hseg⟩ := h
 obtain ⟨⟨vo,vn,vc⟩,hv⟩ : ∃ x,x = v := ⟨_,rfl⟩
 subst hv
 have hlt := hseg.blk.lt
 have HS := Lib.hid hseg
 obtain ⟨c0,c1,c2,c3,c4,c5,c6,_,_⟩ := hseg.blk.cells
 unfold row at c0 c1 c2 c3 c4 c5 c6
 unfold sv at c6
 dsimp only at c0 c1 c2 c3 c4 c5 c6
 obtain ⟨W,hW,hbW,hC⟩ := Hd.boxed1 w ⟨0,0,0,0,0,⟨#[]⟩,⟨none,0,0⟩⟩
 dsimp only at hW
 have c0' := ((bcell hbW).1 _ _ (cell_lt c0)).trans c0
 have c1' := ((bcell hbW).1 _ _ (cell_lt c1)).trans c1
 have c2' := ((bcell hbW).1 _ _ (cell_lt c2)).trans c2
 have c3' := ((bcell hbW).1 _ _ (cell_lt c3)).trans c3
 have c4' := ((bcell hbW).1 _ _ (cell_lt c4)).trans c4
 have c5' := ((bcell hbW).1 _ _ (cell_lt c5)).trans c5
 have c6' := ((bcell hbW).1 _ _ (cell_lt c6)).trans c6
 have hlt' : g < W.heap.size := Nat.lt_of_lt_of_le hlt hbW.size
 obtain ⟨W2,hW2,hbW2,hC2⟩ := Hd.boxed1 W (row s.h ⟨vo,vn,vc⟩)
 have hblk2 : W2.heap[W.heap.size]? = some (.cells #[.int .i64 s.h.term,.int .i64 s.h.vote,.int .i64 s.h.base,.int .i64 s.h.bt,.int .i64 s.h.mem,.string s.h.snap,.slice vo vn vc] 30 (0,0)) := by
  rw [← hW2]
  exact heap_alloc_new W _
 have hblk : W2.heap[w.heap.size]? = some (.cells #[.int .i64 0,.int .i64 0,.int .i64 0,.int .i64 0,.int .i64 0,.string ⟨#[]⟩,.slice none 0 0] 30 (0,0)) := by
  rw [hbW2.block w.heap.size (by rw [← hW]; show w.heap.size < (w.heap.push _).size; rw [Array.size_push]; omega),← hW]
  exact heap_alloc_new w _
 unfold row at hW2 hC2
 unfold Hd.C at hC2 hC
 dsimp only at hW2 hC2
 have HL : Hid (Et.Ls W2 vo vn vc s.h.log) := Lib.hid (HS.out.ls.below (bchain hbW hbW2))
 have HB2 := Lib.hid (bchain hbW hbW2)
 have hle : w.heap.size ≤ W2.heap.size := HB2.out.size
 have HLn := Lib.hid HL.out.len
 have hv2 : vn ≤ 200 := by have := HL.out.len; have := HS.out.few; omega
 have HH : Hid (∀ (v' : Value) (w1 : World),Et.Own w1 (W.heap.size + 1) v' s.h.log → W2.grownBy w1 (Value.slice none 0 0).ownBlock → (∃ ao cap,v' = .slice ao s.h.log.length cap) ∧ Below W2.heap.size W2 w1) := Lib.hid fun v' w1 ho gr => by
  refine ⟨?_,(Below.refl _ _).grown gr (Nat.le_refl _) (fun k e => by cases e)⟩
  obtain ⟨ao,cap,z,_⟩ := Et.own_ls ho (fun x hx => HS.out.short x hx)
  exact ⟨ao,cap,z⟩
 obtain ⟨d0,d1,d2,d3,d4,d5,d6⟩ := hC2
 have HLt : Hid (w.heap.size ≤ W.heap.size) := Lib.hid (by rw [← hW]; show w.heap.size ≤ (w.heap.push _).size; rw [Array.size_push]; omega)
 have lnil := HL.out.nil
 have lseg := HL.out.seg
 clear hbW2 hseg hbW
 subst hW2
 go_enter Tryz.func15,Tryz.ntmps15
 clear c0 c1 c2 c3 c4 c5 c6
 go_wp2_with (at_builtin; go_must (refine Et.wpList_append _ rfl (.const (.slice none 0 0)) (.tmp 10) rfl _ (.slice none 0 0) [] rfl (Et.own_nil _ _) vo vn vc s.h.log rfl HLn.out lnil lseg (by show (0 + vn) * 32 ≤ 140737488355328; omega) (Nat.le_refl _) ?_))
 intro v' w1 ho gr _
 obtain ⟨⟨ao,cap,rfl⟩,bw⟩ := HH.out v' w1 ho gr
 have HO := Lib.hid ho
 have HW1 := Lib.hid (bchain HB2.out bw)
 have b2 := (bw.block _ (by have := hblk2; exact (Array.getElem?_eq_some_iff.1 this).1)).trans hblk2
 have b1 := (bw.block _ (by have := hblk; exact (Array.getElem?_eq_some_iff.1 this).1)).trans hblk
 have fz2 := fun k => frozen_of_row w1 W.heap.size k _ _ b2
 have fz1 := fun k => frozen_of_row w1 w.heap.size k _ _ b1
 have e0 : w1.cell? ⟨W.heap.size,0,none⟩ = some (.int .i64 s.h.term) := by rw [cell_of_row w1 _ _ _ _ _ b2]; rfl
 have e1 : w1.cell? ⟨W.heap.size,1,none⟩ = some (.int .i64 s.h.vote) := by rw [cell_of_row w1 _ _ _ _ _ b2]; rfl
 have e2 : w1.cell? ⟨W.heap.size,2,none⟩ = some (.int .i64 s.h.base) := by rw [cell_of_row w1 _ _ _ _ _ b2]; rfl
 have e3 : w1.cell? ⟨W.heap.size,3,none⟩ = some (.int .i64 s.h.bt) := by rw [cell_of_row w1 _ _ _ _ _ b2]; rfl
 have e4 : w1.cell? ⟨W.heap.size,4,none⟩ = some (.int .i64 s.h.mem) := by rw [cell_of_row w1 _ _ _ _ _ b2]; rfl
 have e5 : w1.cell? ⟨W.heap.size,5,none⟩ = some (.string s.h.snap) := by rw [cell_of_row w1 _ _ _ _ _ b2]; rfl
 have e6 : w1.cell? ⟨W.heap.size,6,none⟩ = some (.slice vo vn vc) := by rw [cell_of_row w1 _ _ _ _ _ b2]; rfl
 have f0 : w1.cell? ⟨w.heap.size,0,none⟩ = some (.int .i64 0) := by rw [cell_of_row w1 _ _ _ _ _ b1]; rfl
 have f1 : w1.cell? ⟨w.heap.size,1,none⟩ = some (.int .i64 0) := by rw [cell_of_row w1 _ _ _ _ _ b1]; rfl
 have f2 : w1.cell? ⟨w.heap.size,2,none⟩ = some (.int .i64 0) := by rw [cell_of_row w1 _ _ _ _ _ b1]; rfl
 have f3 : w1.cell? ⟨w.heap.size,3,none⟩ = some (.int .i64 0) := by rw [cell_of_row w1 _ _ _ _ _ b1]; rfl
 have f4 : w1.cell? ⟨w.heap.size,4,none⟩ = some (.int .i64 0) := by rw [cell_of_row w1 _ _ _ _ _ b1]; rfl
 have f5 : w1.cell? ⟨w.heap.size,5,none⟩ = some (.string ⟨#[]⟩) := by rw [cell_of_row w1 _ _ _ _ _ b1]; rfl
 have f6 : w1.cell? ⟨w.heap.size,6,none⟩ = some (.slice none 0 0) := by rw [cell_of_row w1 _ _ _ _ _ b1]; rfl
 have l2 : W.heap.size < w1.heap.size := (Array.getElem?_eq_some_iff.1 b2).1
 have l1 : w.heap.size < w1.heap.size := (Array.getElem?_eq_some_iff.1 b1).1
 have hWw : w.heap.size < W.heap.size := by rw [← hW]; show w.heap.size < (w.heap.push _).size; rw [Array.size_push]; omega
 have HWw := Lib.hid hWw
 have HB1 := Lib.hid b1
 have hne : (w.heap.size == W.heap.size) = false := beq_eq_false_iff_ne.2 (by omega)
 have hne2 : w.heap.size ≠ W.heap.size := by omega
 clear hblk hblk2 b1 b2 lnil lseg hC c0' c1' c2' c3' c4' c5' c6' d0 d1 d2 d3 d4 d5 d6 bw ho gr
 go_wp2_with fail
 have hfin : (lay (w1.setCell ⟨W.heap.size,6,none⟩ (.slice ao s.h.log.length cap)) w.heap.size 0 (row s.h ⟨ao,s.h.log.length,cap⟩)).heap[w.heap.size]? = some (.cells (Hd.rv (row s.h ⟨ao,s.h.log.length,cap⟩)).toArray 30 (0,0)) := hd_lay (((upd_set w1 W.heap.size 6 _).block w.heap.size l1 hne2).trans HB1.out) _
 refine bodyPost_ret (results_hd Tryz.results15 rfl hfin) rfl ?_
 have hU : UpdQ (fun b => b = W.heap.size ∨ b = w.heap.size) w1 (lay (w1.setCell ⟨W.heap.size,6,none⟩ (.slice ao s.h.log.length cap)) w.heap.size 0 (row s.h ⟨ao,s.h.log.length,cap⟩)) := ((upd_set w1 W.heap.size 6 _).mono fun b z => .inl z).trans ((lay_upd _ w.heap.size 0 _).mono fun b z => .inr z)
 refine ⟨⟨ao,s.h.log.length,cap⟩,rfl,?_,hU.below w HW1.out fun b z => z.elim (fun z => by omega) fun z => by omega⟩
 have ho := HO.out
 exact hU.rows (Et.own_mono ho (by have := HLt.out; omega)) fun b z => by
  have := Et.own_ge ho b z
  have := HLt.out
  omega
end Go.Proofs.YtlmjeackfepllaaGreatDoor.Wl
namespace Go.Proofs.YtlmjeackfepllaaGreatDoor.Wl
open Go.RowKit
open Mem
open Go.Sort (grow)
def sameA (a b : H) : Bool := (a.term == b.term) && ((a.vote == b.vote) && ((a.base == b.base) && ((a.bt == b.bt) && ((a.mem == b.mem) && (decide (a.snap = b.snap) && Et.sameB a.log b.log)))))
theorem sameA_iff {a b : H} : sameA a b = true ↔ a = b := by
 unfold sameA
 simp only [Bool.and_eq_true,beq_iff_eq,decide_eq_true_eq,Et.sameB_iff]
 obtain ⟨t,v,x,c,m,s,l⟩ := a
 obtain ⟨t',v',x',c',m',s',l'⟩ := b
 simp only [H.mk.injEq]
theorem sameA_no {a b : H} (h : a ≠ b) : sameA a b = false := by
 cases e : sameA a b
 · rfl
 · exact absurd (sameA_iff.1 e) h
set_option maxHeartbeats 8000000 in
theorem rf_same (r r' : Hd.T) (l l' : List Et.T) (w : World) (hl : Et.Ls w r.log.ao r.log.n r.log.cap l) (hl' : Et.Ls w r'.log.ao r'.log.n r'.log.cap l') :
  Calls Tryz.prog 14 #[Hd.val r,Hd.val r'] w fun e w' => e = .returned (.bool (sameA (Hd.h r l) (Hd.h r' l'))) ∧ Below w.heap.size w w' := by
 obtain ⟨⟨ao,n,cap⟩,hlog⟩ : ∃ s,r.log = s := ⟨_,rfl⟩
 obtain ⟨⟨bo,m,cb⟩,hlog'⟩ : ∃ s,r'.log = s := ⟨_,rfl⟩
 rw [hlog] at hl
 rw [hlog'] at hl'
 dsimp only at hl hl'
 obtain ⟨W0,hW0,hbW0,hC0⟩ := Hd.boxed1 w r
 obtain ⟨W,hW,hbW,hC'⟩ := Hd.boxed1 W0 r'
 have hC := hC0.below hbW
 have HB := Lib.hid (bchain hbW0 hbW)
 have HL := Lib.hid (hl.below HB.out)
 have HL' := Lib.hid (hl'.below HB.out)
 have HN := Lib.hid hl.len
 have HM := Lib.hid hl'.len
 have h1 := hl.fits
 have h2 := hl.reach
 have h3 := hl'.fits
 have h4 := hl'.reach
 unfold Hd.C at hC hC'
 rw [hlog] at hC hW0
 rw [hlog'] at hC' hW
 dsimp only at hC hC' hW hW0
 obtain ⟨a0,a1,a2,a3,a4,a5,a6⟩ := hC
 obtain ⟨b0,b1,b2,b3,b4,b5,b6⟩ := hC'
 unfold Hd.val
 rw [hlog,hlog']
 dsimp only
 clear hl hl' hlog hlog' hbW hbW0 hC0
 by_cases e0 : r.term = r'.term
 rotate_left
 ·
  have q0 : (r.term != r'.term) = true := bne_iff_ne.2 e0
  have HX : Hid (sameA (Hd.h r l) (Hd.h r' l') = false) := Lib.hid (sameA_no fun z => e0 (congrArg H.term z))
  clear e0
  go_enter Tryz.func14,Tryz.ntmps14
  go_wp2_with fail
  go_ret
  exact ⟨ret_bool HX.out.symm,HB.out⟩
 have q0 : (r.term != r'.term) = false := by rw [e0]; exact bne_self_eq_false _
 have E0 := Lib.hid e0
 clear e0
 by_cases e1 : r.vote = r'.vote
 rotate_left
 ·
  have q1 : (r.vote != r'.vote) = true := bne_iff_ne.2 e1
  have HX : Hid (sameA (Hd.h r l) (Hd.h r' l') = false) := Lib.hid (sameA_no fun z => e1 (congrArg H.vote z))
  clear e1
  go_enter Tryz.func14,Tryz.ntmps14
  go_wp2_with fail
  go_ret
  exact ⟨ret_bool HX.out.symm,HB.out⟩
 have q1 : (r.vote != r'.vote) = false := by rw [e1]; exact bne_self_eq_false _
 have E1 := Lib.hid e1
 clear e1
 by_cases e2 : r.base = r'.base
 rotate_left
 ·
  have q2 : (r.base != r'.base) = true := bne_iff_ne.2 e2
  have HX : Hid (sameA (Hd.h r l) (Hd.h r' l') = false) := Lib.hid (sameA_no fun z => e2 (congrArg H.base z))
  clear e2
  go_enter Tryz.func14,Tryz.ntmps14
  go_wp2_with fail
  go_ret
  exact ⟨ret_bool HX.out.symm,HB.out⟩
 have q2 : (r.base != r'.base) = false := by rw [e2]; exact bne_self_eq_false _
 have E2 := Lib.hid e2
 clear e2
 by_cases e3 : r.bt = r'.bt
 rotate_left
 ·
  have q3 : (r.bt != r'.bt) = true := bne_iff_ne.2 e3
  have HX : Hid (sameA (Hd.h r l) (Hd.h r' l') = false) := Lib.hid (sameA_no fun z => e3 (congrArg H.bt z))
  clear e3
  go_enter Tryz.func14,Tryz.ntmps14
  go_wp2_with fail
  go_ret
  exact ⟨ret_bool HX.out.symm,HB.out⟩
 have q3 : (r.bt != r'.bt) = false := by rw [e3]; exact bne_self_eq_false _
 have E3 := Lib.hid e3
 clear e3
 by_cases e4 : r.mem = r'.mem
 rotate_left
 ·
  have q4 : (r.mem != r'.mem) = true := bne_iff_ne.2 e4
  have HX : Hid (sameA (Hd.h r l) (Hd.h r' l') = false) := Lib.hid (sameA_no fun z => e4 (congrArg H.mem z))
  clear e4
  go_enter Tryz.func14,Tryz.ntmps14
  go_wp2_with fail
  go_ret
  exact ⟨ret_bool HX.out.symm,HB.out⟩
 have q4 : (r.mem != r'.mem) = false := by rw [e4]; exact bne_self_eq_false _
 have E4 := Lib.hid e4
 clear e4
 by_cases e5 : r.snap = r'.snap
 rotate_left
 ·
  have q5 : (r.snap.toList == r'.snap.toList) = false := beq_eq_false_iff_ne.2 fun h => e5 (txt_ext (by rw [← tl,← tl]; exact h))
  have HX : Hid (sameA (Hd.h r l) (Hd.h r' l') = false) := Lib.hid (sameA_no fun z => e5 (congrArg H.snap z))
  clear e5
  go_enter Tryz.func14,Tryz.ntmps14
  go_wp2_with fail
  go_ret
  exact ⟨ret_bool HX.out.symm,HB.out⟩
 have q5 : (r.snap.toList == r'.snap.toList) = true := beq_iff_eq.2 (by rw [e5])
 have E5 := Lib.hid e5
 clear e5
 by_cases e6 : n = m
 rotate_left
 ·
  have q6 : ((n : Int) != (m : Int)) = true := bne_iff_ne.2 (by omega)
  have HX : Hid (sameA (Hd.h r l) (Hd.h r' l') = false) := Lib.hid (sameA_no fun z => e6 (by have := congrArg List.length (congrArg H.log z); have h5 := HN.out; have h6 := HM.out; exact h5.trans (this.trans h6.symm)))
  clear e6
  go_enter Tryz.func14,Tryz.ntmps14
  go_wp2_with fail
  go_ret
  exact ⟨ret_bool HX.out.symm,HB.out⟩
 subst e6
 have q6 : ((n : Int) != (n : Int)) = false := bne_self_eq_false _
 have HE : Hid (l = l' → sameA (Hd.h r l) (Hd.h r' l') = true) := Lib.hid fun z => sameA_iff.2 (by unfold Hd.h; rw [E0.out,E1.out,E2.out,E3.out,E4.out,E5.out,z])
 have HF : Hid (l ≠ l' → sameA (Hd.h r l) (Hd.h r' l') = false) := Lib.hid fun z => sameA_no fun y => z (congrArg H.log y)
 have lz : ∀ y,Below W.heap.size W y → y.cell? ⟨w.heap.size,6,none⟩ = some (.slice ao n cap) ∧ y.cell? ⟨W0.heap.size,6,none⟩ = some (.slice bo n cb) := fun y k => ⟨((bcell k).1 _ _ (cell_lt a6)).trans a6,((bcell k).1 _ _ (cell_lt b6)).trans b6⟩
 have LZ := Lib.hid lz
 clear E0 E1 E2 E3 E4 E5 lz
 go_enter Tryz.func14,Tryz.ntmps14
 go_wp2_with fail
 clear q0 q1 q2 q3 q4 q5 q6 a0 a1 a2 a3 a4 a5 a6 b0 b1 b2 b3 b4 b5 b6 hW hW0
 go_loopw [5] (fun i wr => ∃ k : Nat,k ≤ n ∧ i = .int .i64 k ∧ Hid (l.take k = l'.take k) ∧ Hid (Below W.heap.size W wr)) (fun i _ => n - (intOf i).toNat)
 case atStart => exact ⟨0,Nat.zero_le _,rfl,Lib.hid rfl,Lib.hid (Below.refl _ _)⟩
 case round =>
  rename World => wz
  obtain ⟨k,hk,rfl,HK,HBz⟩ := hrel
  obtain ⟨x6,y6⟩ := LZ.out wz HBz.out
  by_cases hlt : k < n
  ·
   have hka : k < l.length := HN.out ▸ hlt
   have hkb : k < l'.length := HM.out ▸ hlt
   obtain ⟨ga,oa,rfl⟩ := HL.out.at (by omega)
   obtain ⟨gb,ob,rfl⟩ := HL'.out.at (by omega)
   have hra := (HL.out.row k hka).below HBz.out
   have hrb := (HL'.out.row k hkb).below HBz.out
   have HT : Hid (l[k] = l'[k] → l.take (k + 1) = l'.take (k + 1)) := Lib.hid fun z => by rw [List.take_succ_eq_append_getElem hka,List.take_succ_eq_append_getElem hkb,HK.out,z]
   have HG : Hid (l[k] ≠ l'[k] → l ≠ l') := Lib.hid fun z y => z (by subst y; rfl)
   obtain ⟨x,hx⟩ : ∃ x,l[k] = x := ⟨_,rfl⟩
   obtain ⟨y,hy⟩ : ∃ y,l'[k] = y := ⟨_,rfl⟩
   rw [hx] at hra HT HG
   rw [hy] at hrb HT HG
   clear hx hy
   obtain ⟨g0,g1,g2⟩ := hra
   obtain ⟨f0,f1,f2⟩ := hrb
   have g0' := cell_regrown g0
   have g1' := cell_regrown g1
   have g2' := cell_regrown g2
   have f0' := cell_regrown f0
   have f1' := cell_regrown f1
   have f2' := cell_regrown f2
   have x6' := cell_regrown x6
   have y6' := cell_regrown y6
   clear g0 g1 g2 f0 f1 f2
   by_cases e0 : x.term = y.term
   ·
    have q0 : (x.term == y.term) = true := beq_iff_eq.2 e0
    by_cases e1 : x.mem = y.mem
    ·
     have q1 : (x.mem == y.mem) = true := beq_iff_eq.2 e1
     by_cases e2 : x.data = y.data
     ·
      have q2 : (x.data.toList == y.data.toList) = true := beq_iff_eq.2 (by rw [e2])
      have HR : Hid (l.take (k + 1) = l'.take (k + 1)) := Lib.hid (HT.out (by cases x; cases y; simp only [Et.T.mk.injEq]; exact ⟨e0,e1,e2⟩))
      clear e0 e1 e2 HT HG HK
      go_wp2_with fail
      refine wp_region_quiet_below (by kernel_rfl) (by kernel_rfl) ?_
      repeat (first | go_big_quiet_step (fail) | quiet_step (fail))
      refine wpQuiet_nil ?_
      intro _ hw'
      obtain ⟨⟨dq,osq⟩,hw''⟩ := hw'
      subst hw''
      have HBv := Lib.hid (bchain HBz.out (below_regrown wz dq osq))
      go_wp2_with fail
      go_roundw
      case rel => exact ⟨k + 1,by omega,by go_num,HR,HBv⟩
      case measure => simp [intOf]; omega
     ·
      have q2 : (x.data.toList == y.data.toList) = false := beq_eq_false_iff_ne.2 fun h => e2 (txt_ext (by rw [← tl,← tl]; exact h))
      have HR : Hid (sameA (Hd.h r l) (Hd.h r' l') = false) := Lib.hid (HF.out (HG.out fun z => e2 (by rw [z])))
      go_wp2_with fail
      refine wp_region_quiet_below (by kernel_rfl) (by kernel_rfl) ?_
      repeat (first | go_big_quiet_step (fail) | quiet_step (fail))
      refine wpQuiet_nil ?_
      intro _ hw'
      obtain ⟨⟨dq,osq⟩,hw''⟩ := hw'
      subst hw''
      have HBv := Lib.hid (bchain HBz.out (below_regrown wz dq osq))
      go_wp2_with fail
      go_ret
      exact ⟨ret_bool HR.out.symm,bchain HB.out HBv.out⟩
    ·
     have q1 : (x.mem == y.mem) = false := beq_eq_false_iff_ne.2 e1
     have HR : Hid (sameA (Hd.h r l) (Hd.h r' l') = false) := Lib.hid (HF.out (HG.out fun z => e1 (by rw [z])))
     go_wp2_with fail
     refine wp_region_quiet_below (by kernel_rfl) (by kernel_rfl) ?_
     repeat (first | go_big_quiet_step (fail) | quiet_step (fail))
     refine wpQuiet_nil ?_
     intro _ hw'
     obtain ⟨⟨dq,osq⟩,hw''⟩ := hw'
     subst hw''
     have HBv := Lib.hid (bchain HBz.out (below_regrown wz dq osq))
     go_wp2_with fail
     go_ret
     exact ⟨ret_bool HR.out.symm,bchain HB.out HBv.out⟩
   ·
    have q0 : (x.term == y.term) = false := beq_eq_false_iff_ne.2 e0
    have HR : Hid (sameA (Hd.h r l) (Hd.h r' l') = false) := Lib.hid (HF.out (HG.out fun z => e0 (by rw [z])))
    go_wp2_with fail
    refine wp_region_quiet_below (by kernel_rfl) (by kernel_rfl) ?_
    repeat (first | go_big_quiet_step (fail) | quiet_step (fail))
    refine wpQuiet_nil ?_
    intro _ hw'
    obtain ⟨⟨dq,osq⟩,hw''⟩ := hw'
    subst hw''
    have HBv := Lib.hid (bchain HBz.out (below_regrown wz dq osq))
    go_wp2_with fail
    go_ret
    exact ⟨ret_bool HR.out.symm,bchain HB.out HBv.out⟩
  ·
   obtain rfl : k = n := by omega
   have HR : Hid (sameA (Hd.h r l) (Hd.h r' l') = true) := Lib.hid (HE.out (by
    have h5 := HK.out
    rw [List.take_of_length_le (by have := HN.out; omega),List.take_of_length_le (by have := HM.out; omega)] at h5
    exact h5))
   go_wp2_with fail
   go_ret
   exact ⟨ret_bool HR.out.symm,bchain HB.out HBz.out⟩
end Go.Proofs.YtlmjeackfepllaaGreatDoor.Wl
namespace Go.Proofs.YtlmjeackfepllaaGreatDoor.Wl
open Pk Dk
structure Rest (n : Nat) (s : Sg) (d : D) : Prop where
 one : One d.fs n s
 wf : Wf s
 rdy : s.ready = true
 lt : n < 100
 off : d.off = false
 len : (flOf d.fs n).length ≤ 500000
theorem runAll_takes : ∀ (ps : List (List UInt8)) {s s' : Sg},takes s ps = some s' → runAll s ps = s'
 | [],s,s',h => by cases h; rfl
 | p :: l,s,s',h => by
  obtain ⟨m,h1,h2⟩ := takes_cons h
  rw [runAll,h1]
  exact runAll_takes l h2
theorem read_on {bs : List UInt8} {s : Sg} (h : read bs = (s,bs.length)) (tl : List UInt8) : read (bs ++ tl) = ((rd s tl).1,bs.length + (rd s tl).2) := by
 obtain ⟨ps,h1,h2,h3,h4,h5⟩ := rd_split _ bs empty (Nat.le_refl _)
 rw [← read_rd,h] at h2 h3 h4
 dsimp only at h2 h3 h4
 rw [List.drop_length,List.append_nil] at h4
 have := rd_frames ps empty s h1 h2 tl
 rw [← h4] at this
 exact this
theorem crash_names (d : D) (zs : List Int) : (crashD d zs).fs.map F.name = d.fs.map F.name := by
 unfold crashD
 apply List.ext_getElem
 · simp
 ·
  intro i h1 h2
  simp [tear_name]
theorem sorted_names {l m : List F} (h : l.map F.name = m.map F.name) (hs : Sorted m) : Sorted l := by
 have h1 : (m.map F.name).Pairwise (fun a b => lt a b = true) := List.pairwise_map.2 hs
 rw [← h] at h1
 exact List.pairwise_map.1 h1
theorem crash_sorted {d : D} (hs : Sorted d.fs) (zs : List Int) : Sorted (crashD d zs).fs := sorted_names (crash_names d zs) hs
theorem has_names {l m : List F} (h : l.map F.name = m.map F.name) (t : ByteArray) : Dk.has t l = Dk.has t m := by
 rw [Bool.eq_iff_iff,has_mem,has_mem]
 have e : ∀ k : List F,(∃ f ∈ k,f.name = t) ↔ t ∈ k.map F.name := fun k => by rw [List.mem_map]
 rw [e,e,h]
theorem crash_has (d : D) (zs : List Int) (t : ByteArray) : Dk.has t (crashD d zs).fs = Dk.has t d.fs := has_names (crash_names d zs) t
theorem crash_at {d : D} (hs : Sorted d.fs) (zs : List Int) {t : ByteArray} (hh : Dk.has t d.fs = true) : ∃ q,Dk.own t (crashD d zs).fs = tear (Dk.own t d.fs) q := by
 have h1 := spot_lt hs hh
 have h2 := own_at hs hh
 have h3 : (crashD d zs).fs[spot t d.fs]? = some (tear d.fs[spot t d.fs] (pick zs (spot t d.fs))) := by
  unfold crashD
  simp only [List.getElem?_mapIdx]
  rw [List.getElem?_eq_getElem h1]
  rfl
 refine ⟨pick zs (spot t d.fs),?_⟩
 rw [h2]
 exact (own_eq (crash_sorted hs zs) (List.mem_of_getElem? h3) ((tear_name _ _).trans (spot_name hs hh))).2
theorem crash_mem {d : D} {zs : List Int} {g : F} (h : g ∈ (crashD d zs).fs) : ∃ f ∈ d.fs,∃ q,g = tear f q := by
 unfold crashD at h
 obtain ⟨i,hi,e⟩ := List.mem_mapIdx.1 h
 exact ⟨_,List.getElem_mem hi,_,e.symm⟩
theorem tear_full {f : F} (h : f.kept = f.bs.length) (q : Nat) : tear f q = f := by
 obtain ⟨a,b,k⟩ := f
 dsimp only at h
 subst h
 exact tear_again b q
theorem crash_neat {d : D} (h : Neat d.fs) (zs : List Int) : (crashD d zs).fs = d.fs := by
 unfold crashD
 apply List.ext_getElem
 · simp
 ·
  intro i h1 h2
  simp only [List.getElem_mapIdx]
  exact tear_full (h.full _ (List.getElem_mem _)) _
theorem crash_makes_neat {d : D} (hs : Sorted d.fs) (hn : Nm d.fs) (zs : List Int) : Neat (crashD d zs).fs := by
 refine ⟨crash_sorted hs zs,fun g hg => ?_,fun g hg => ?_⟩
 ·
  obtain ⟨f,hf,q,rfl⟩ := crash_mem hg
  rw [tear_name]
  exact hn f hf
 ·
  obtain ⟨f,hf,q,rfl⟩ := crash_mem hg
  unfold tear
  rfl
theorem tear_torn (t : ByteArray) (a b : List UInt8) (q : Nat) : ∃ k fl,k ≤ b.length ∧ (tear ⟨t,a ++ b,a.length⟩ q).bs = a ++ torn k fl b := by
 have hu : (a ++ b).length - a.length = b.length := by rw [List.length_append]; omega
 have hk : q % (b.length + 1) ≤ b.length := by have := Nat.mod_lt q (show 0 < b.length + 1 by omega); omega
 refine ⟨q % (b.length + 1),decide (0 < q % (b.length + 1) ∧ q / (b.length + 1) % 2 = 1),hk,?_⟩
 unfold tear torn
 dsimp only
 rw [hu]
 have e : (a ++ b).take (a.length + q % (b.length + 1)) = a ++ b.take (q % (b.length + 1)) := by
  rw [List.take_append,List.take_of_length_le (by omega),Nat.add_sub_cancel_left]
 rw [e]
 by_cases h : 0 < q % (b.length + 1) ∧ q / (b.length + 1) % 2 = 1
 ·
  rw [if_pos h,if_pos (decide_eq_true h)]
  refine flip_app _ _ fun z => ?_
  have := congrArg List.length z
  rw [List.length_take,List.length_nil] at this
  omega
 · rw [if_neg h,if_neg (by rw [decide_eq_true_eq]; exact h)]
theorem write_out {d : D} {m : Nat} (hm : m < 100) (zs : List UInt8) (room : total d.fs + zs.length ≤ 4194304) (off : d.off = false) (hs : Sorted d.fs) :
  (((writeD d m zs).1 ≠ 0 ∧ (writeD d m zs).2.fs = d.fs) ∨ ((writeD d m zs).1 ≠ 0 ∧ (writeD d m zs).2.fs = put ⟨wname m,flOf d.fs m ++ zs,(Dk.own (wname m) d.fs).kept⟩ d.fs) ∨ ((writeD d m zs).1 = 0 ∧ (writeD d m zs).2.fs = put ⟨wname m,flOf d.fs m ++ zs,(flOf d.fs m ++ zs).length⟩ d.fs ∧ (writeD d m zs).2.off = false)) ∧
   (d.left = -1 → (writeD d m zs).1 = 0 ∧ (writeD d m zs).2.left = -1) := by
 by_cases hl : d.left = 0
 ·
  have e : appD d (wname m) zs = (18,down d) := by
   unfold appD
   rw [if_neg (by rw [off]; simp),if_neg (by rw [wname_ok hm]; simp),if_neg (by omega),if_pos hl]
  have e2 : writeD d m zs = (18,down d) := by
   unfold writeD
   rw [e,if_pos (fun z => by cases z)]
  rw [e2]
  exact ⟨.inl ⟨fun z => (by cases z),rfl⟩,fun z => by omega⟩
 ·
  have e : appD d (wname m) zs = (0,with' d (put ⟨wname m,flOf d.fs m ++ zs,(Dk.own (wname m) d.fs).kept⟩ d.fs)) := by
   unfold appD
   rw [if_neg (by rw [off]; simp),if_neg (by rw [wname_ok hm]; simp),if_neg (by omega),if_neg hl]
   rfl
  have e2 : writeD d m zs = syncD (with' d (put ⟨wname m,flOf d.fs m ++ zs,(Dk.own (wname m) d.fs).kept⟩ d.fs)) (wname m) := by
   unfold writeD
   rw [e,if_neg (fun z => z rfl)]
  obtain ⟨_,p1,p2⟩ := put_spot (f := ⟨wname m,flOf d.fs m ++ zs,(Dk.own (wname m) d.fs).kept⟩) hs
  rw [e2]
  constructor
  ·
   rcases sync_cases (with' d (put ⟨wname m,flOf d.fs m ++ zs,(Dk.own (wname m) d.fs).kept⟩ d.fs)) (wname m) with ⟨r1,r2⟩ | ⟨r1,r2,r3⟩
   · exact .inr (.inl ⟨r1,r2⟩)
   ·
    refine .inr (.inr ⟨r1,?_,?_⟩)
    ·
     rw [r3]
     exact (congrArg (fun f : F => put ⟨wname m,f.bs,f.bs.length⟩ (put ⟨wname m,flOf d.fs m ++ zs,(Dk.own (wname m) d.fs).kept⟩ d.fs)) p2).trans (put_put (f := ⟨wname m,flOf d.fs m ++ zs,(Dk.own (wname m) d.fs).kept⟩) (g := ⟨wname m,flOf d.fs m ++ zs,(flOf d.fs m ++ zs).length⟩) hs rfl)
    ·
     rw [r3]
     exact off
  ·
   intro z
   have hx : (with' d (put ⟨wname m,flOf d.fs m ++ zs,(Dk.own (wname m) d.fs).kept⟩ d.fs)).left = -1 := by
    show dec d.left = -1
    rw [z]
    rfl
   have := sync_power (d := with' d (put ⟨wname m,flOf d.fs m ++ zs,(Dk.own (wname m) d.fs).kept⟩ d.fs)) (t := wname m) off hx p1
   exact ⟨this.1,this.2.2⟩
section
variable {n : Nat} {bs : List UInt8} {k : Nat}
theorem fl_one : flOf [⟨wname n,bs,k⟩] n = bs := by unfold flOf; rw [one_own]
theorem srt_one {f : F} : Sorted [f] := List.pairwise_singleton _ _
theorem neat_one (hn : n < 100) : Neat [⟨wname n,bs,bs.length⟩] := ⟨srt_one,fun f hf => ⟨n,hn,by rw [List.mem_singleton.1 hf]⟩,fun f hf => by rw [List.mem_singleton.1 hf]⟩
theorem has_one {m : Nat} (hn : n < 100) (hm : m < 100) (hne : m ≠ n) : Dk.has (wname m) [⟨wname n,bs,k⟩] = false := by
 rw [Bool.eq_false_iff]
 intro z
 obtain ⟨f,hf,e⟩ := has_mem.1 z
 rw [List.mem_singleton.1 hf] at e
 exact hne (wname_inj hn hm e).symm
theorem tells_one {s : Sg} (hn : n < 100) (h : (read bs).1 = s) (hr : s.ready = true) : Tells [⟨wname n,bs,k⟩] n s :=
 ⟨hn,one_has _ _ _,by rw [fl_one]; exact h,hr,fun m h1 h2 h3 => by rw [has_one hn h2 (by omega)] at h3; cases h3⟩
end
theorem One.neat {fs : List F} {n : Nat} {s : Sg} (h : One fs n s) (hn : n < 100) : Neat fs := by
 obtain ⟨bs,rfl,_⟩ := h
 exact neat_one hn
theorem One.tells {fs : List F} {n : Nat} {s : Sg} (h : One fs n s) (hn : n < 100) (hr : s.ready = true) : Tells fs n s := by
 obtain ⟨bs,rfl,h⟩ := h
 exact tells_one hn (by rw [h]) hr
structure Cut (n : Nat) (s : Sg) (g : H) (e : Int) (fs : List F) (n' : Nat) (s' : Sg) : Prop where
 neat : Neat fs
 tells : Tells fs n' s'
 wf : Wf s'
 part : Part s.h g s'.h
 ok : e = 0 → s'.h = g.bare
 le : n ≤ n' ∧ n' ≤ n + 1
 len : ∀ m,(flOf fs m).length ≤ 500000
 few : fs.length ≤ 2
section
variable {n : Nat} {s : Sg} {d : D} {g : H}
theorem Rest.few (h : Rest n s d) : d.fs.length = 1 := by
 obtain ⟨bs,e,_⟩ := h.one
 rw [e]
 rfl
theorem Rest.room (h : Rest n s d) : total d.fs ≤ 500000 := by
 have hl := h.len
 obtain ⟨bs,e,_⟩ := h.one
 rw [e] at hl ⊢
 rw [fl_one] at hl
 show bs.length + 0 ≤ 500000
 omega
theorem fl_len_one {bs : List UInt8} {k : Nat} (hb : bs.length ≤ 500000) (m : Nat) : (flOf [⟨wname n,bs,k⟩] m).length ≤ 500000 := by
 by_cases e : wname n = wname m
 ·
  have : flOf [⟨wname n,bs,k⟩] m = bs := by unfold flOf; rw [← e,one_own]
  rw [this]
  exact hb
 ·
  have : Dk.has (wname m) [⟨wname n,bs,k⟩] = false := by
   rw [Bool.eq_false_iff]
   intro z
   obtain ⟨f,hf,e2⟩ := has_mem.1 z
   rw [List.mem_singleton.1 hf] at e2
   exact e e2
  unfold flOf
  rw [own_no this]
  exact Nat.zero_le _
theorem Rest.cut (h : Rest n s d) {e : Int} {fs : List F} (he : fs = d.fs) (hz : e ≠ 0) : Cut n s g e fs n s := by
 have ho := h.one
 refine ⟨by rw [he]; exact ho.neat h.lt,by rw [he]; exact ho.tells h.lt h.rdy,h.wf,.inl rfl,fun z => absurd z hz,⟨Nat.le_refl _,by omega⟩,fun m => ?_,by rw [he,h.few]; omega⟩
 have hl := h.len
 obtain ⟨bs,e2,_⟩ := ho
 rw [he,e2]
 rw [e2,fl_one] at hl
 exact fl_len_one hl m
theorem near_of (hw : Wf s) (hr : s.ready = true) (hg : right g = true) (ha : anewB s d n g = false) : Near s g ∧ (flOf d.fs n).length ≤ 8192 := by
 unfold anewB basedB flen at ha
 simp only [Bool.or_eq_false_iff,Bool.not_eq_false',Bool.and_eq_true,beq_iff_eq,decide_eq_false_iff_not,Bool.and_eq_false_iff,beq_eq_false_iff_ne] at ha
 obtain ⟨_,a2,⟨a3,a4,a5⟩,a6,a7⟩ := ha
 refine ⟨⟨hw,hr,right_sound hg,a3,a4,a5,by omega,fun z => ?_⟩,by unfold flOf; omega⟩
 rcases a7 with a7 | a7 | a7
 · exact absurd z a7
 · exact .inl (Decidable.not_not.1 a7)
 · exact .inr (Decidable.not_not.1 a7)
theorem room_change (hg : right g = true) : (frames (pays (change s.h g))).length ≤ 405616 := by
 obtain ⟨a,b,c⟩ := right_ok hg
 have h1 := (fine_change (a := s.h) b a).2
 have h2 := frames_size _ fun p hp => (h1 p hp).2
 have h3 := change_len s.h g b
 omega
theorem room_whole (hg : right g = true) : (frames (pays (whole g))).length ≤ 405616 := by
 obtain ⟨a,b,c⟩ := right_ok hg
 have h1 := (fine_whole b a).2
 have h2 := frames_size _ fun p hp => (h1 p hp).2
 have h3 := whole_len g
 omega
theorem put_one {bs zs : List UInt8} {k : Nat} (e : d.fs = [⟨wname n,bs,bs.length⟩]) : put ⟨wname n,flOf d.fs n ++ zs,k⟩ d.fs = [⟨wname n,bs ++ zs,k⟩] := by
 rw [e,fl_one,one_put]
theorem ext_out (h : Rest n s d) (hg : right g = true) (ha : anewB s d n g = false) :
  (∀ zs,∃ n' s',Cut n s g (extS s d n g).1 (crashD (extS s d n g).2.2 zs).fs n' s') ∧
  (d.left = -1 → (extS s d n g).1 = 0 ∧ Rest n (extS s d n g).2.1 (extS s d n g).2.2 ∧ (extS s d n g).2.2.left = -1 ∧ (extS s d n g).2.1.h = g.bare) := by
 obtain ⟨hn,h8⟩ := near_of h.wf h.rdy hg ha
 obtain ⟨bs,e1,e2⟩ := h.one
 have hb8 : bs.length ≤ 8192 := by rw [e1,fl_one] at h8; exact h8
 obtain ⟨Z,hZ⟩ : ∃ Z,frames (pays (change s.h g)) = Z := ⟨_,rfl⟩
 have hZl := room_change (s := s) hg
 rw [hZ] at hZl
 have hr := h.room
 obtain ⟨w1,w2⟩ := write_out (d := d) h.lt Z (by omega) h.off (by rw [e1]; exact srt_one)
 have hall := hn.all
 have hfine : ∀ p ∈ pays (change s.h g),PayOk p := (fine_change (right_ok hg).2.1 (right_ok hg).1).payOk
 have hrd : read (bs ++ Z) = (s.with g.bare,(bs ++ Z).length) := by
  rw [read_on e2,← hZ,rd_all hfine hall,List.length_append]
 have hx1 : (extS s d n g).1 = (writeD d n Z).1 := by unfold extS; rw [hZ]
 have hx3 : (extS s d n g).2.2 = (writeD d n Z).2 := by unfold extS; rw [hZ]
 have hx2 : (writeD d n Z).1 = 0 → (extS s d n g).2.1 = s.with g.bare := fun z => by
  unfold extS
  dsimp only
  rw [hZ,if_neg (fun y => y z),runAll_takes _ hall]
 rw [hx1,hx3]
 have hdone : ∀ fs : List F,fs = [⟨wname n,bs ++ Z,(bs ++ Z).length⟩] → Cut n s g 0 fs n (s.with g.bare) := fun fs ef => by
  refine ⟨by rw [ef]; exact neat_one h.lt,by rw [ef]; exact tells_one h.lt (by rw [hrd]) h.rdy,wf_takes _ h.wf hall,.done _ _,fun _ => rfl,⟨Nat.le_refl _,by omega⟩,fun m => ?_,by rw [ef]; exact Nat.le_succ 1⟩
  rw [ef]
  exact fl_len_one (by rw [List.length_append]; omega) m
 constructor
 ·
  intro zs
  rcases w1 with ⟨r1,r2⟩ | ⟨r1,r2⟩ | ⟨r1,r2,r3⟩
  ·
   refine ⟨n,s,h.cut ?_ r1⟩
   rw [← r2]
   exact crash_neat (by rw [r2]; exact h.one.neat h.lt) zs
  ·
   rw [put_one e1] at r2
   have hk : (Dk.own (wname n) d.fs).kept = bs.length := by rw [e1,one_own]
   rw [hk] at r2
   have hcr : (crashD (writeD d n Z).2 zs).fs = [tear ⟨wname n,bs ++ Z,bs.length⟩ (pick zs 0)] := by
    unfold crashD
    rw [r2]
    rfl
   obtain ⟨k,fl,hk1,hk2⟩ := tear_torn (wname n) bs Z (pick zs 0)
   obtain ⟨j,sj,j1,j2,j3⟩ := rd_torn _ s _ hfine hall k fl (by rw [hZ]; exact hk1)
   rw [hZ] at j3
   obtain ⟨q1,q2⟩ := hn.part j j2
   have hrt : (read (tear ⟨wname n,bs ++ Z,bs.length⟩ (pick zs 0)).bs).1 = sj := by rw [hk2,read_on e2,j3]
   have hform : ∃ c,tear ⟨wname n,bs ++ Z,bs.length⟩ (pick zs 0) = ⟨wname n,c,c.length⟩ := ⟨_,rfl⟩
   obtain ⟨c,hc⟩ := hform
   have hcb : c = bs ++ torn k fl Z := by rw [hc] at hk2; exact hk2
   refine ⟨n,sj,?_⟩
   rw [hc] at hcr hrt
   rw [hcr]
   refine ⟨neat_one h.lt,tells_one h.lt hrt q1,wf_takes _ h.wf j2,q2,fun z => absurd z r1,⟨Nat.le_refl _,by omega⟩,fun m => fl_len_one ?_ m,Nat.le_succ 1⟩
   rw [hcb,List.length_append,torn_len]
   omega
  ·
   rw [put_one e1,e1,fl_one] at r2
   refine ⟨n,s.with g.bare,?_⟩
   rw [r1]
   refine hdone _ ?_
   rw [crash_neat (by rw [r2]; exact neat_one h.lt) zs,r2]
 ·
  intro z
  obtain ⟨z1,z2⟩ := w2 z
  rcases w1 with ⟨r1,r2⟩ | ⟨r1,r2⟩ | ⟨r1,r2,r3⟩
  · exact absurd z1 r1
  · exact absurd z1 r1
  ·
   rw [put_one e1,e1,fl_one] at r2
   rw [hx2 z1]
   refine ⟨z1,⟨⟨bs ++ Z,r2,hrd⟩,wf_takes _ h.wf hall,h.rdy,h.lt,r3,?_⟩,z2,rfl⟩
   rw [r2,fl_one,List.length_append]
   omega
theorem beside {bs zs : List UInt8} {k : Nat} (hn : n + 1 < 100) : let fs := put ⟨wname (n + 1),zs,k⟩ [⟨wname n,bs,bs.length⟩]
  Sorted fs ∧ Nm fs ∧ fs.length ≤ 2 ∧ Dk.own (wname (n + 1)) fs = ⟨wname (n + 1),zs,k⟩ ∧ Dk.own (wname n) fs = ⟨wname n,bs,bs.length⟩ ∧ Dk.has (wname (n + 1)) fs = true ∧ Dk.has (wname n) fs = true ∧ (∀ m,m < 100 → m ≠ n → m ≠ n + 1 → Dk.has (wname m) fs = false) ∧ (∀ f ∈ fs,f = ⟨wname (n + 1),zs,k⟩ ∨ f = ⟨wname n,bs,bs.length⟩) := by
 dsimp only
 have hne : wname (n + 1) ≠ wname n := fun z => by have := wname_inj hn (by omega) z; omega
 obtain ⟨_,p1,p2⟩ := put_spot (f := ⟨wname (n + 1),zs,k⟩) (l := [⟨wname n,bs,bs.length⟩]) srt_one
 obtain ⟨q1,q2⟩ := put_other (s := wname n) (f := ⟨wname (n + 1),zs,k⟩) (l := [⟨wname n,bs,bs.length⟩]) srt_one hne
 have hmem : ∀ f ∈ put ⟨wname (n + 1),zs,k⟩ [⟨wname n,bs,bs.length⟩],f = ⟨wname (n + 1),zs,k⟩ ∨ f = ⟨wname n,bs,bs.length⟩ := fun f hf => (put_mem hf).imp id List.mem_singleton.1
 refine ⟨put_sorted srt_one,fun f hf => ?_,?_,p2,by rw [q2,one_own],p1,by rw [q1,one_has],fun m h1 h2 h3 => ?_,hmem⟩
 ·
  rcases hmem f hf with rfl | rfl
  · exact ⟨n + 1,hn,rfl⟩
  · exact ⟨n,by omega,rfl⟩
 ·
  have := put_len ⟨wname (n + 1),zs,k⟩ [⟨wname n,bs,bs.length⟩]
  exact this
 ·
  rw [Bool.eq_false_iff]
  intro z
  obtain ⟨f,hf,e⟩ := has_mem.1 z
  rcases hmem f hf with rfl | rfl
  · exact h3 (wname_inj hn h1 e).symm
  · exact h2 (wname_inj (by omega) h1 e).symm
theorem tells_new {fs : List F} {zs : List UInt8} {s' : Sg} (hn : n + 1 < 100) (hh : Dk.has (wname (n + 1)) fs = true) (hf : flOf fs (n + 1) = zs) (hr : (read zs).1 = s') (hy : s'.ready = true) (ho : ∀ m,m < 100 → m ≠ n → m ≠ n + 1 → Dk.has (wname m) fs = false) : Tells fs (n + 1) s' :=
 ⟨hn,hh,by rw [hf]; exact hr,hy,fun m h1 h2 h3 => by rw [ho m h2 (by omega) (by omega)] at h3; cases h3⟩
theorem lay_out (h : Rest n s d) (hn : n + 1 < 100) (hg : right g = true) :
  (∀ zs,∃ n' s',Cut n s g (layS s d n g).1 (crashD (layS s d n g).2.2.2 zs).fs n' s') ∧
  (d.left = -1 → (layS s d n g).1 = 0 ∧ Rest (n + 1) (layS s d n g).2.2.1 (layS s d n g).2.2.2 ∧ (layS s d n g).2.2.2.left = -1 ∧ (layS s d n g).2.2.1.h = g.bare ∧ (layS s d n g).2.1 = n + 1) := by
 obtain ⟨bs,e1,e2⟩ := h.one
 have hbl : bs.length ≤ 500000 := by
  have := h.len
  rw [e1,fl_one] at this
  exact this
 obtain ⟨Z,hZ⟩ : ∃ Z,frames (pays (whole g)) = Z := ⟨_,rfl⟩
 have hZl := room_whole hg
 rw [hZ] at hZl
 have hr := h.room
 have hsnd := right_sound hg
 have hall := takes_whole hsnd
 have hfine : ∀ p ∈ pays (whole g),PayOk p := (fine_whole (right_ok hg).2.1 (right_ok hg).1).payOk
 have hrd : read Z = (⟨g.bare,true,true⟩,Z.length) := by rw [read_rd,← hZ,rd_all hfine hall]
 have hwf : Wf ⟨g.bare,true,true⟩ := wf_takes _ wf_empty hall
 have hno : flOf d.fs (n + 1) = [] := by
  unfold flOf
  rw [e1,own_no (has_one h.lt hn (by omega))]
 have hnk : (Dk.own (wname (n + 1)) d.fs).kept = 0 := by rw [e1,own_no (has_one h.lt hn (by omega))]
 obtain ⟨w1,w2⟩ := write_out (d := d) hn Z (by omega) h.off (by rw [e1]; exact srt_one)
 rw [hno,List.nil_append,hnk,e1] at w1
 obtain ⟨x,hx⟩ : ∃ x,writeD d (n + 1) Z = x := ⟨_,rfl⟩
 rw [hx] at w1 w2
 have hlay : layS s d n g = if x.1 ≠ 0 then (x.1,n,s,x.2) else if (remD x.2 (wname n)).1 ≠ 0 then ((remD x.2 (wname n)).1,n,s,(remD x.2 (wname n)).2) else (0,n + 1,⟨g.bare,true,true⟩,(remD x.2 (wname n)).2) := by
  unfold layS
  rw [hZ,hx,runAll_takes _ hall,h.rdy,if_neg (show ¬ (true = false) by simp)]
 have hlen2 : ∀ (fs : List F),Sorted fs → (∀ f ∈ fs,f.bs.length ≤ 500000) → ∀ m,(flOf fs m).length ≤ 500000 := fun fs hs hf m => by
  unfold flOf
  cases hh : Dk.has (wname m) fs
  ·
   rw [own_no hh]
   exact Nat.zero_le _
  · exact hf _ (own_mem hs hh)
 rcases w1 with ⟨r1,r2⟩ | ⟨r1,r2⟩ | ⟨r1,r2,r3⟩
 ·
  rw [hlay,if_pos r1]
  refine ⟨fun zs => ⟨n,s,h.cut ?_ r1⟩,fun z => absurd (w2 z).1 r1⟩
  show (crashD x.2 zs).fs = d.fs
  rw [crash_neat (by rw [r2]; exact neat_one h.lt) zs,r2,e1]
 ·
  rw [hlay,if_pos r1]
  refine ⟨fun zs => ?_,fun z => absurd (w2 z).1 r1⟩
  show ∃ n' s',Cut n s g x.1 (crashD x.2 zs).fs n' s'
  obtain ⟨b1,b2,b3,b4,b5,b6,b7,b8,b9⟩ := beside (bs := bs) (zs := Z) (k := 0) hn
  rw [← r2] at b1 b2 b3 b4 b5 b6 b7 b8 b9
  obtain ⟨q,hq⟩ := crash_at b1 zs b6
  obtain ⟨q',hq'⟩ := crash_at b1 zs b7
  rw [b4] at hq
  rw [b5,tear_full rfl] at hq'
  obtain ⟨k,fl,hk1,hk2⟩ := tear_torn (wname (n + 1)) [] Z q
  rw [List.nil_append,List.nil_append] at hk2
  change (tear ⟨wname (n + 1),Z,0⟩ q).bs = torn k fl Z at hk2
  obtain ⟨j,sj,j1,j2,j3⟩ := rd_torn _ empty _ hfine hall k fl (by rw [hZ]; exact hk1)
  rw [hZ,← read_rd] at j3
  have hfl : flOf (crashD x.2 zs).fs (n + 1) = torn k fl Z := by unfold flOf; rw [hq,hk2]
  have hfl0 : flOf (crashD x.2 zs).fs n = bs := by unfold flOf; rw [hq']
  have hneat := crash_makes_neat b1 b2 zs
  have hhas : ∀ m,Dk.has (wname m) (crashD x.2 zs).fs = Dk.has (wname m) x.2.fs := fun m => crash_has _ _ _
  have hlenC : ∀ m,(flOf (crashD x.2 zs).fs m).length ≤ 500000 := hlen2 _ hneat.srt fun f hf => by
   obtain ⟨f0,hf0,q0,rfl⟩ := crash_mem hf
   have hf1 : f0.bs.length ≤ 500000 ∧ f0.kept ≤ f0.bs.length := by
    rcases b9 f0 hf0 with rfl | rfl
    · exact ⟨by show Z.length ≤ 500000; omega,Nat.zero_le _⟩
    · exact ⟨hbl,Nat.le_refl _⟩
   obtain ⟨y,y1,y2,_⟩ := tear_told f0 q0 hf1.2
   omega
  have hfewC : (crashD x.2 zs).fs.length ≤ 2 := by
   have := congrArg List.length (crash_names x.2 zs)
   rw [List.length_map,List.length_map] at this
   omega
  cases hry : sj.ready
  ·
   refine ⟨n,s,hneat,⟨h.lt,by rw [hhas,b7],by rw [hfl0,e2],h.rdy,fun m m1 m2 m3 => ?_⟩,h.wf,.inl rfl,fun z => absurd z r1,⟨Nat.le_refl _,by omega⟩,hlenC,hfewC⟩
   by_cases em : m = n + 1
   ·
    rw [em,hfl,j3]
    exact hry
   ·
    rw [hhas,b8 m m2 (by omega) em] at m3
    cases m3
  ·
   have hj : ¬ j < (pays (whole g)).length := fun z => by
    rw [whole_part hsnd z j2] at hry
    cases hry
   rw [List.take_of_length_le (by omega),hall] at j2
   cases j2
   exact ⟨n + 1,_,hneat,tells_new hn (by rw [hhas,b6]) hfl (by rw [j3]) rfl (fun m m1 m2 m3 => by rw [hhas]; exact b8 m m1 m2 m3),hwf,.done _ _,fun z => rfl,⟨by omega,Nat.le_refl _⟩,hlenC,hfewC⟩
 ·
  rw [hlay,if_neg (fun z => z r1)]
  obtain ⟨b1,b2,b3,b4,b5,b6,b7,b8,b9⟩ := beside (bs := bs) (zs := Z) (k := Z.length) hn
  rw [← r2] at b1 b2 b3 b4 b5 b6 b7 b8 b9
  have hfull : ∀ f ∈ x.2.fs,f.kept = f.bs.length := fun f hf => by
   rcases b9 f hf with rfl | rfl
   · rfl
   · rfl
  have hneat : Neat x.2.fs := ⟨b1,b2,hfull⟩
  have hfl : flOf x.2.fs (n + 1) = Z := by unfold flOf; rw [b4]
  have hT := tells_new (s' := ⟨g.bare,true,true⟩) hn b6 hfl (by rw [hrd]) rfl b8
  have hlenX : ∀ m,(flOf x.2.fs m).length ≤ 500000 := hlen2 _ b1 fun f hf => by
   rcases b9 f hf with rfl | rfl
   · show Z.length ≤ 500000; omega
   · exact hbl
  rcases rem_cases x.2 (wname n) with ⟨c1,c2⟩ | ⟨c1,c2,c3⟩
  ·
   rw [if_pos c1]
   refine ⟨fun zs => ⟨n + 1,⟨g.bare,true,true⟩,?_⟩,fun z => ?_⟩
   ·
    show Cut n s g (remD x.2 (wname n)).1 (crashD (remD x.2 (wname n)).2 zs).fs _ _
    rw [crash_neat (by rw [c2]; exact hneat) zs,c2]
    exact ⟨hneat,hT,hwf,.done _ _,fun z => rfl,⟨by omega,Nat.le_refl _⟩,hlenX,b3⟩
   ·
    obtain ⟨z1,z2⟩ := w2 z
    rw [rem_power r3 z2 b7] at c1
    exact absurd rfl c1
  ·
   rw [if_neg (fun z => z c1)]
   have hone : del (wname n) x.2.fs = [⟨wname (n + 1),Z,Z.length⟩] := by
    have hm : (⟨wname (n + 1),Z,Z.length⟩ : F) ∈ del (wname n) x.2.fs := (mem_del b1 b7 _).2 ⟨by rw [← b4]; exact own_mem b1 b6,fun z => by have := wname_inj hn (by omega) z; omega⟩
    refine only (del_sorted b1) hm fun y hy => ?_
    obtain ⟨y1,y2⟩ := (mem_del b1 b7 _).1 hy
    rcases b9 y y1 with rfl | rfl
    · rfl
    · exact absurd rfl y2
   have hfs : (remD x.2 (wname n)).2.fs = [⟨wname (n + 1),Z,Z.length⟩] := by rw [c3]; exact hone
   refine ⟨fun zs => ⟨n + 1,⟨g.bare,true,true⟩,?_⟩,fun z => ?_⟩
   ·
    show Cut n s g 0 (crashD (remD x.2 (wname n)).2 zs).fs _ _
    rw [crash_neat (by rw [hfs]; exact neat_one hn) zs,hfs]
    exact ⟨neat_one hn,tells_one hn (by rw [hrd]) rfl,hwf,.done _ _,fun z => rfl,⟨by omega,Nat.le_refl _⟩,fun m => fl_len_one (by omega) m,Nat.le_succ 1⟩
   ·
    obtain ⟨z1,z2⟩ := w2 z
    refine ⟨rfl,⟨⟨Z,hfs,hrd⟩,hwf,rfl,hn,?_,?_⟩,?_,rfl,rfl⟩
    ·
     show (remD x.2 (wname n)).2.off = false
     rw [c3]
     exact r3
    ·
     show (flOf (remD x.2 (wname n)).2.fs (n + 1)).length ≤ 500000
     rw [hfs,fl_one]
     omega
    ·
     show (remD x.2 (wname n)).2.left = -1
     rw [c3]
     show dec x.2.left = -1
     rw [z2]
     rfl
theorem save_ok (h : Rest n s d) (hn : n + 1 < 100) (hg : right g = true) (hl : d.left = -1) : ∃ n' s' d',saveS n false s d g = (0,false,n',s',d') ∧ Rest n' s' d' ∧ d'.left = -1 ∧ s'.h = g.bare ∧ n ≤ n' ∧ n' ≤ n + 1 ∧ (anewB s d n g = false → n' = n) ∧ (sameH s.h g = false → anewB s d n g = true → n' = n + 1) := by
 unfold saveS
 rw [if_neg (by rw [hg]; simp),if_neg Bool.false_ne_true,h.rdy,Bool.true_and]
 by_cases hs : sameH s.h g = true
 ·
  rw [if_pos hs]
  exact ⟨n,s,d,rfl,h,hl,(sameH_iff h.wf.snap).1 hs,Nat.le_refl _,by omega,fun _ => rfl,fun z => by rw [hs] at z; cases z⟩
 rw [if_neg hs]
 cases ha : anewB s d n g
 ·
  rw [if_pos rfl]
  obtain ⟨a1,a2,a3,a4⟩ := (ext_out h hg ha).2 hl
  exact ⟨_,_,_,by rw [a1]; rfl,a2,a3,a4,Nat.le_refl _,by omega,fun _ => rfl,fun _ z => (by cases z)⟩
 ·
  rw [if_neg (by simp)]
  obtain ⟨a1,a2,a3,a4,a5⟩ := (lay_out h hn hg).2 hl
  exact ⟨n + 1,_,_,by rw [a1,a5]; rfl,a2,a3,a4,by omega,Nat.le_refl _,fun z => (by cases z),fun _ _ => rfl⟩
theorem first_save (hg : right g = true) : ∃ d',saveS 0 false empty Dk.new g = (0,false,1,⟨g.bare,true,true⟩,d') ∧ Rest 1 ⟨g.bare,true,true⟩ d' ∧ d'.left = -1 ∧ flOf d'.fs 1 = frames (pays (whole g)) := by
 have hsnd := right_sound hg
 have hall := takes_whole hsnd
 have hfine : ∀ p ∈ pays (whole g),PayOk p := (fine_whole (right_ok hg).2.1 (right_ok hg).1).payOk
 obtain ⟨Z,hZ⟩ : ∃ Z,frames (pays (whole g)) = Z := ⟨_,rfl⟩
 have hZl := room_whole hg
 rw [hZ] at hZl
 have hrd : read Z = (⟨g.bare,true,true⟩,Z.length) := by rw [read_rd,← hZ,rd_all hfine hall]
 obtain ⟨w1,w2⟩ := write_out (d := Dk.new) (m := 1) (by omega) Z (by show (0 : Nat) + Z.length ≤ 4194304; omega) rfl List.Pairwise.nil
 obtain ⟨z1,z2⟩ := w2 rfl
 have hr : ((writeD Dk.new 1 Z).2.fs = [⟨wname 1,Z,Z.length⟩]) ∧ (writeD Dk.new 1 Z).2.off = false := by
  rcases w1 with ⟨r1,_⟩ | ⟨r1,_⟩ | ⟨_,r2,r3⟩
  · exact absurd z1 r1
  · exact absurd z1 r1
  · exact ⟨r2,r3⟩
 refine ⟨(writeD Dk.new 1 Z).2,?_,⟨⟨Z,hr.1,hrd⟩,wf_takes _ wf_empty hall,rfl,by omega,hr.2,by rw [hr.1,fl_one]; omega⟩,z2,by rw [hr.1,fl_one]; exact hZ.symm⟩
 unfold saveS
 rw [if_neg (by rw [hg]; simp),if_neg Bool.false_ne_true,if_neg (by show ¬ ((false && _) = true); simp),if_neg (by show ¬ ((!false || _) = false); simp)]
 have hlay : layS empty Dk.new 0 g = (0,1,⟨g.bare,true,true⟩,(writeD Dk.new 1 Z).2) := by
  unfold layS
  rw [hZ,show (0 : Nat) + 1 = 1 from rfl,if_neg (fun y => y z1),if_pos (show empty.ready = false from rfl),runAll_takes _ hall]
 rw [hlay]
 rfl
theorem open_new : openS Dk.new = (0,0,empty,Dk.new) := by
 unfold openS
 have e : numsS (names Dk.new.fs) = [] := by
  show ([] : List Nat).mergeSort _ = []
  exact List.mergeSort_nil
 rw [e]
 rfl
theorem save_cut (h : Rest n s d) (hn : n + 1 < 100) (hg : right g = true) (zs : List Int) : ∃ n' s',Cut n s g (saveS n false s d g).1 (crashD (saveS n false s d g).2.2.2.2 zs).fs n' s' := by
 unfold saveS
 rw [if_neg (by rw [hg]; simp),if_neg Bool.false_ne_true,h.rdy,Bool.true_and]
 by_cases hs : sameH s.h g = true
 ·
  rw [if_pos hs]
  have e := (sameH_iff h.wf.snap).1 hs
  have hneat := h.one.neat h.lt
  refine ⟨n,s,?_⟩
  show Cut n s g 0 (crashD d zs).fs n s
  rw [crash_neat hneat zs]
  have hl := h.len
  obtain ⟨bs,e1,e2⟩ := h.one
  refine ⟨hneat,h.one.tells h.lt h.rdy,h.wf,.inl rfl,fun _ => e,⟨Nat.le_refl _,by omega⟩,fun m => ?_,by rw [h.few]; omega⟩
  rw [e1,fl_one] at hl
  rw [e1]
  exact fl_len_one hl m
 rw [if_neg hs]
 cases ha : anewB s d n g
 ·
  rw [if_pos rfl]
  exact (ext_out h hg ha).1 zs
 ·
  rw [if_neg (by simp)]
  exact (lay_out h hn hg).1 zs
theorem Tells.rest {d' : D} (hO : One d'.fs n s) (hT : Tells d'.fs n s) (hw : Wf s) (ho : d'.off = false) (hl : (flOf d'.fs n).length ≤ 500000) : Rest n s d' := ⟨hO,hw,hT.rdy,hT.lt,ho,hl⟩
end
end Go.Proofs.YtlmjeackfepllaaGreatDoor.Wl
namespace Go.Proofs.YtlmjeackfepllaaGreatDoor.St
open Go.RowKit
open Mem
theorem take_snoc {xs ys : List ByteArray} {k : Nat} (h : xs.take k = ys.take k) (ha : k < xs.length) (hb : k < ys.length) (e : xs[k] = ys[k]) : xs.take (k + 1) = ys.take (k + 1) := by
 rw [List.take_succ_eq_append_getElem ha,List.take_succ_eq_append_getElem hb,h,e]
set_option maxHeartbeats 2000000 in
theorem same (xs : List ByteArray) (ao bo : Option Addr) (n ca cb : Nat) (w : World) (hA : Ls w ao n ca xs) (hB : Ls w bo n cb xs) :
  Calls Tryz.prog 12 #[.slice ao n ca,.slice bo n cb] w fun e w' => e = .returned (.bool true) ∧ Below w.heap.size w w' := by
 have HA := Lib.hid hA
 have HB := Lib.hid hB
 have HN := Lib.hid hA.len
 have a1 := hA.fits
 have a2 := hA.reach
 have b1 := hB.fits
 have b2 := hB.reach
 clear hA hB
 go_enter Tryz.func12,Tryz.ntmps12
 go_wp2
 go_loopw [5] (fun i wr => ∃ k : Nat,k ≤ n ∧ i = .int .i64 k ∧ Hid (Below w.heap.size w wr)) (fun i _ => n - (intOf i).toNat)
 case atStart => exact ⟨0,by omega,rfl,Lib.hid (Below.refl _ _)⟩
 case round =>
  rename World => wz
  obtain ⟨k,hk,rfl,HW⟩ := hrel
  by_cases hlt : k < n
  ·
   have hkl : k < xs.length := HN.out ▸ hlt
   obtain ⟨b,off,rfl⟩ := HA.out.at (by omega)
   obtain ⟨c,off2,rfl⟩ := HB.out.at (by omega)
   have r1 := (HA.out.below HW.out).row k hkl
   have r2 := (HB.out.below HW.out).row k hkl
   obtain ⟨x,hx⟩ : ∃ x,xs[k] = x := ⟨_,rfl⟩
   rw [hx] at r1 r2
   clear hx
   have HD := Lib.hid (below_drewN HW.out)
   go_wp2
   go_quiet (fail)
   go_wp2
   go_roundw
   case rel => exact ⟨k + 1,by omega,by go_num,Lib.hid (HD.out _)⟩
   case measure => simp [intOf]; omega
  ·
   obtain rfl : k = n := by omega
   go_wp2
   go_ret
   exact ⟨rfl,HW.out⟩
end Go.Proofs.YtlmjeackfepllaaGreatDoor.St
namespace Go.Proofs.YtlmjeackfepllaaGreatDoor.Wl
open Go.RowKit
open Mem Dk
theorem ls_keep {Q : Nat → Prop} {w u : World} {ao : Option Addr} {n cap : Nat} {l : List Et.T} (h : Et.Ls w ao n cap l) (k : UpdQ Q w u) (hQ : ∀ ad,ao = some ad → ¬ Q ad.block) : Et.Ls u ao n cap l := by
 refine ⟨h.len,h.fits,h.reach,h.nil,?_,h.short⟩
 rcases h.seg with e | ⟨b,off,e,hc⟩
 · exact .inl e
 ·
  refine .inr ⟨b,off,e,fun i hi => ?_⟩
  obtain ⟨c0,c1,c2⟩ := hc i hi
  have hb := k.block b (cell_lt c0) (hQ _ e)
  exact ⟨(Hd.cell_same hb _).trans c0,(Hd.cell_same hb _).trans c1,(Hd.cell_same hb _).trans c2⟩
section
variable {P Q R T : Nat → Prop} {w0 w u v : World} {g p n : Nat} {f : Bool} {s s' : Sg} {d d' : D} {r : Hd.T} {l : List Et.T}
theorem Both.tight (h : Both R w0 w g p n f s d) : Both (fun b => R b ∧ b < w.heap.size) w0 w g p n f s d := h.elim fun P h => h.elim fun Q h => ⟨P,Q,h.wal,h.dsk,h.sub,h.ap,h.pl,h.ql,fun b z => ⟨h.pr b z,h.pl b z⟩,fun b z => ⟨h.qr b z,h.ql b z⟩⟩
theorem Both.bel (h : Both R w0 w g p n f s d) : Below w0.heap.size w0 w := h.elim fun P h => h.elim fun Q h => h.dsk.bel
theorem Both.ok (h : Both R w0 w g p n f s d) : Ok d := h.elim fun P h => h.elim fun Q h => h.dsk.ok
theorem Both.dsk (h : Both R w0 w g p n f s d) (hs : ∀ b,R b → w0.heap.size ≤ b) : S R w0 w p d := h.elim fun P h => h.elim fun Q h => S.wide h.dsk h.qr hs
structure Hl (R : Nat → Prop) (w : World) (r : Hd.T) (l : List Et.T) : Prop where
 ls : Et.Ls w r.log.ao r.log.n r.log.cap l
 out : ∀ ad,r.log.ao = some ad → ad.block < w.heap.size ∧ ¬ R ad.block
def tg (R : Nat → Prop) (w u : World) (b : Nat) : Prop := nw R w b ∧ b < u.heap.size
theorem Hl.upd (h : Hl R w r l) (k : UpdQ R w u) : Hl (tg R w u) u r l :=
 ⟨ls_keep h.ls k fun ad e => (h.out ad e).2,fun ad e => ⟨Nat.lt_of_lt_of_le (h.out ad e).1 k.size,fun z => z.1.elim (h.out ad e).2 fun z => by have := (h.out ad e).1; omega⟩⟩
theorem Hl.later (h : Hl R w r l) (k : Below w.heap.size w u) : Hl R u r l := ⟨h.ls.below k,fun ad e => ⟨Nat.lt_of_lt_of_le (h.out ad e).1 k.size,(h.out ad e).2⟩⟩
theorem Hl.nil (w : World) (h : r.log = ⟨none,0,0⟩) : Hl R w r [] := by
 rw [show r = ⟨r.term,r.vote,r.base,r.bt,r.mem,r.snap,⟨none,0,0⟩⟩ by rw [← h]]
 exact ⟨Et.ls_nil w,fun ad e => by cases e⟩
structure Ws (R : Nat → Prop) (w0 w : World) (g p n : Nat) (s : Sg) (d : D) : Prop where
 bo : Both R w0 w g p n false s d
 lt : ∀ b,R b → b < w.heap.size
 sub : ∀ b,R b → w0.heap.size ≤ b
 rest : Rest n s d
 left : d.left = -1
theorem Ws.later (h : Ws R w0 w g p n s d) (k : Below w.heap.size w u) : Ws R w0 u g p n s d := ⟨h.bo.later k,fun b z => Nat.lt_of_lt_of_le (h.lt b z) k.size,h.sub,h.rest,h.left⟩
theorem Ws.off (h : Ws R w0 w g p n s d) (k : UpdQ T w u) (hT : ∀ b,T b → w0.heap.size ≤ b ∧ ¬ R b) : Ws R w0 u g p n s d := by
 obtain ⟨P,Q,hp⟩ := h.bo
 exact ⟨⟨P,Q,hp.wal.keep k fun b z z2 => (hT b z2).2 (hp.pr b z),⟨hp.dsk.dsk.keep k (fun b z z2 => (hT b z2).2 (hp.qr b z)),hp.dsk.sub,k.below w0 hp.dsk.bel fun b z => (hT b z).1⟩,hp.sub,hp.ap,fun b z => Nat.lt_of_lt_of_le (hp.pl b z) k.size,fun b z => Nat.lt_of_lt_of_le (hp.ql b z) k.size,hp.pr,hp.qr⟩,fun b z => Nat.lt_of_lt_of_le (h.lt b z) k.size,h.sub,h.rest,h.left⟩
theorem tg_sub (h : Both R w0 w g p n f s d) (hs : ∀ b,R b → w0.heap.size ≤ b) : ∀ b,tg R w u b → w0.heap.size ≤ b := fun b z => z.1.elim (hs b) fun z => Nat.le_trans h.bel.size z
theorem Ws.few (h : Ws R w0 w g p n s d) : d.fs.length < 1000 := by rw [h.rest.few]; omega
theorem k_save (h : Ws R w0 w g p n s d) (hn : n + 1 < 100) (hh : Hl R w r l) (hg : right (Hd.h r l) = true) :
  Calls Tryz.prog 11 #[.pointer (some ⟨g,0,none⟩),Hd.val r] w fun e w' => e = .returned (.int .i64 0) ∧ ∃ n' s' d',Ws (tg R w w') w0 w' g p n' s' d' ∧ s'.h = (Hd.h r l).bare ∧ n ≤ n' ∧ n' ≤ n + 1 ∧ (anewB s d n (Hd.h r l) = false → n' = n) ∧ (sameH s.h (Hd.h r l) = false → anewB s d n (Hd.h r l) = true → n' = n + 1) ∧ UpdQ R w w' := by
 have hz : r.snap.size ≤ 140737488355328 := by
  unfold right snapOk at hg
  simp only [Bool.and_eq_true,decide_eq_true_eq] at hg
  have := hg.2.1.2
  have e : (Hd.h r l).snap.size = r.snap.size := rfl
  omega
 obtain ⟨n',s',d',e,h1,h2,h3,h4,h5,h6,h7⟩ := save_ok h.rest hn hg h.left
 refine (wl_save h.bo hn h.few r l hh.ls hz).mono ?_
 rintro x w' ⟨rfl,hb,hu⟩
 rw [e] at hb ⊢
 exact ⟨rfl,n',s',d',⟨hb.tight,fun b z => z.2,tg_sub h.bo h.sub,h1,h2⟩,h3,h4,h5,h6,h7,hu⟩
structure Wn (R : Nat → Prop) (w0 w : World) (g p : Nat) : Prop where
 bo : Both R w0 w g p 0 false empty Dk.new
 lt : ∀ b,R b → b < w.heap.size
 sub : ∀ b,R b → w0.heap.size ≤ b
theorem Wn.later (h : Wn R w0 w g p) (k : Below w.heap.size w u) : Wn R w0 u g p := ⟨h.bo.later k,fun b z => Nat.lt_of_lt_of_le (h.lt b z) k.size,h.sub⟩
theorem k_first (hw : Wn R w0 w g p) (hh : Hl R w r l) (hg : right (Hd.h r l) = true) :
  Calls Tryz.prog 11 #[.pointer (some ⟨g,0,none⟩),Hd.val r] w fun e w' => e = .returned (.int .i64 0) ∧ ∃ d',Ws (tg R w w') w0 w' g p 1 ⟨(Hd.h r l).bare,true,true⟩ d' ∧ flOf d'.fs 1 = frames (pays (whole (Hd.h r l))) ∧ UpdQ R w w' := by
 have hz : r.snap.size ≤ 140737488355328 := by
  unfold right snapOk at hg
  simp only [Bool.and_eq_true,decide_eq_true_eq] at hg
  have := hg.2.1.2
  have e : (Hd.h r l).snap.size = r.snap.size := rfl
  omega
 obtain ⟨h,_,hs⟩ := hw
 obtain ⟨d',e,h1,h2,h3⟩ := first_save hg
 refine (wl_save h (by omega) (by show (0 : Nat) < 1000; omega) r l hh.ls hz).mono ?_
 rintro x w' ⟨rfl,hb,hu⟩
 rw [e] at hb ⊢
 exact ⟨rfl,d',⟨hb.tight,fun b z => z.2,tg_sub h hs,h1,h2⟩,h3,hu⟩
theorem k_new (h : S R w0 w p Dk.new) : Calls Tryz.prog 10 #[.pointer (some ⟨p,0,none⟩)] w fun e w' => ∃ g,e = .returned (.tuple #[.pointer (some ⟨g,0,none⟩),.int .i64 0]) ∧ Wn (tg R w w') w0 w' g p ∧ UpdQ R w w' := by
 refine (wl_open h (fun f hf => by cases hf)).mono ?_
 rintro e w' hO
 rw [open_new] at hO
 rcases hO with ⟨_,g,rfl,hb,hu⟩ | ⟨hne,_⟩
 · exact ⟨g,rfl,⟨hb.tight,fun b z => z.2,fun b z => z.1.elim (h.sub b) fun z => Nat.le_trans h.bel.size z⟩,hu⟩
 · exact absurd rfl hne
theorem k_open (h : S R w0 w p d) (hT : Tells d.fs n s) (hN : Neat d.fs) (hw : Wf s) (ho : d.off = false) (hl : d.left = -1) (hz : ∀ m,(flOf d.fs m).length ≤ 500000) :
  Calls Tryz.prog 10 #[.pointer (some ⟨p,0,none⟩)] w fun e w' => ∃ g d',e = .returned (.tuple #[.pointer (some ⟨g,0,none⟩),.int .i64 0]) ∧ Ws (tg R w w') w0 w' g p n s d' ∧ UpdQ R w w' := by
 obtain ⟨e0,d',e,h1,h2,h3,h4,h5,h6⟩ := open_tells hT hN
 obtain ⟨y1,y2,y3⟩ := h6 ho hl
 refine (wl_open h hN.nm).mono ?_
 rintro x w' hO
 rw [e,y1] at hO
 rcases hO with ⟨_,g,rfl,hb,hu⟩ | ⟨hne,_⟩
 · exact ⟨g,d',rfl,⟨hb.tight,fun b z => z.2,fun b z => z.1.elim (h.sub b) fun z => Nat.le_trans h.bel.size z,⟨(h4 y1).1,hw,h2.rdy,h2.lt,y2,Nat.le_trans (h5 n) (hz n)⟩,y3⟩,hu⟩
 · exact absurd rfl hne
theorem Rest.neat (h : Rest n s d) : Neat d.fs := h.one.neat h.lt
theorem Rest.tells (h : Rest n s d) : Tells d.fs n s := h.one.tells h.lt h.rdy
theorem Rest.lens (h : Rest n s d) (m : Nat) : (flOf d.fs m).length ≤ 500000 := by
 have hl := h.len
 obtain ⟨bs,e,_⟩ := h.one
 rw [e,fl_one] at hl
 rw [e]
 exact fl_len_one hl m
theorem Ws.reopen (h : Ws R w0 w g p n s d) : Calls Tryz.prog 10 #[.pointer (some ⟨p,0,none⟩)] w fun e w' => ∃ g d',e = .returned (.tuple #[.pointer (some ⟨g,0,none⟩),.int .i64 0]) ∧ Ws (tg R w w') w0 w' g p n s d' ∧ UpdQ R w w' :=
 k_open (h.bo.dsk h.sub) h.rest.tells h.rest.neat h.rest.wf h.rest.off h.left h.rest.lens
theorem Ws.names (h : Ws R w0 w g p n s d) : Calls Tryz.prog 13 #[.pointer (some ⟨p,0,none⟩)] w fun e w' => ∃ ao cap,e = .returned (.slice ao 1 cap) ∧ St.Ls w' ao 1 cap [wname n] ∧ Below w.heap.size w w' := by
 refine (s_names (h.bo.dsk h.sub)).mono ?_
 rintro e w' ⟨v,rfl,o,b⟩
 obtain ⟨ao,cap,rfl,hl⟩ := St.own_ls o
 obtain ⟨bs,e,_⟩ := h.rest.one
 rw [e] at hl ⊢
 exact ⟨ao,cap,rfl,hl,b⟩
theorem st_new (w : World) (x : ByteArray) : St.Ls (w.alloc (.cells #[.string x] 9)) (some ⟨w.heap.size,0,none⟩) 1 1 [x] :=
 ⟨rfl,Nat.le_refl _,by omega,.inr ⟨w.heap.size,0,rfl,fun k hk => by
  have : k = 0 := by simp at hk; omega
  subst this
  simp [go_sem]⟩⟩
theorem k_names (h : Ws R w0 w g p n s d) : Calls Tryz.prog 13 #[.pointer (some ⟨p,0,none⟩)] w fun e w' => ∃ ao cap,e = .returned (.slice ao 1 cap) ∧ Ws R w0 w' g p n s d ∧ Below w.heap.size w w' ∧ Calls Tryz.prog 12 #[.slice ao 1 cap,.slice (some ⟨w'.heap.size,0,none⟩) 1 1] (w'.alloc (.cells #[.string (wname n)] 9)) fun e u => e = .returned (.bool true) ∧ Below w'.heap.size w' u := by
 refine h.names.mono ?_
 rintro e w' ⟨ao,cap,rfl,hl,b⟩
 have hb := (Below.refl w'.heap.size w').alloc (Nat.le_refl _) (.cells #[.string (wname n)] 9)
 refine ⟨ao,cap,rfl,h.later b,b,(St.same [wname n] ao (some ⟨w'.heap.size,0,none⟩) 1 cap 1 _ (hl.below hb) (st_new w' _)).mono ?_⟩
 rintro e u ⟨rfl,bu⟩
 exact ⟨rfl,bchain hb bu⟩
theorem k_hard (h : Ws R w0 w g p n s d) : Calls Tryz.prog 15 #[.pointer (some ⟨g,0,none⟩)] w fun e w' => ∃ v,e = .returned (Hd.val (row s.h v)) ∧ Hl R w' (row s.h v) s.h.log ∧ Below w.heap.size w w' := by
 obtain ⟨P,Q,hp⟩ := h.bo
 have hshort : ∀ e ∈ s.h.log,Et.Short e := hp.wal.elim fun v k => k.short
 refine (wl_hard hp.wal).mono ?_
 rintro e w' ⟨v,rfl,o,b⟩
 have hlt := h.lt
 refine ⟨v,rfl,?_,b⟩
 obtain ⟨vo,vn,vc⟩ := v
 obtain ⟨ao,cap,e2,hl⟩ := Et.own_ls o hshort
 have e3 : (Value.slice vo vn vc) = .slice ao s.h.log.length cap := e2
 injection e3 with i1 i2 i3
 subst i1 i2 i3
 refine ⟨hl.1,fun ad e4 => ?_⟩
 have e5 : vo = some ad := e4
 have hob : (sv ⟨vo,s.h.log.length,vc⟩).ownBlock = some ad.block := by rw [e5]; rfl
 have h1 := Et.own_ge o _ hob
 exact ⟨(World.ownsRow.lt o _ hob).2,fun z => by have := hlt _ z; omega⟩
structure Hv (R : Nat → Prop) (w : World) (b : Nat) (r : Hd.T) : Prop where
 blk : Hd.Block w b [r]
 out : ¬ R b
theorem Hv.lt {b : Nat} (h : Hv R w b r) : b < w.heap.size := (Array.getElem?_eq_some_iff.1 h.blk).1
theorem Hv.upd {b : Nat} (h : Hv R w b r) (k : UpdQ R w u) : Hv (tg R w u) u b r := ⟨(k.block b h.lt h.out).trans h.blk,fun z => z.1.elim h.out fun z => by have := h.lt; omega⟩
theorem Hv.later {b : Nat} (h : Hv R w b r) (k : Below w.heap.size w u) : Hv R u b r := ⟨(k.block b h.lt).trans h.blk,h.out⟩
theorem Hv.frozen {b : Nat} (h : Hv R w b r) (k : Nat) : w.frozen? ⟨b,k,none⟩ = false := frozen_of_row w b k _ _ h.blk
theorem Hv.new (w : World) (r : Hd.T) (hR : ∀ b,R b → b < w.heap.size) : Hv R (Hd.box w r) w.heap.size r := ⟨Hd.block_box w r,fun z => Nat.lt_irrefl _ (hR _ z)⟩
end
end Go.Proofs.YtlmjeackfepllaaGreatDoor.Wl
namespace Go.Proofs.YtlmjeackfepllaaGreatDoor.Wl
open Go.RowKit
open Mem Dk
def noSnap (r : Hd.T) : Hd.T := ⟨r.term,r.vote,r.base,r.bt,r.mem,⟨#[]⟩,r.log⟩
theorem noSnap_h (r : Hd.T) (l : List Et.T) : Hd.h (noSnap r) l = (Hd.h r l).bare := rfl
set_option maxHeartbeats 4000000 in
theorem lw_bare (r : Hd.T) (w : World) : Calls Tryz.prog 33 #[Hd.val r] w fun e w' => e = .returned (Hd.val (noSnap r)) ∧ Below w.heap.size w w' := by
 obtain ⟨t,v,b,c,m,sn,ao,n,cap⟩ := r
 obtain ⟨W,hW,hbW,hC⟩ := Hd.boxed1 w ⟨t,v,b,c,m,sn,⟨ao,n,cap⟩⟩
 obtain ⟨W2,hW2,hbW2,hC2⟩ := Hd.boxed1 W ⟨0,0,0,0,0,⟨#[]⟩,⟨none,0,0⟩⟩
 dsimp only at hW hW2
 have b2 : W2.heap[W.heap.size]? = some (.cells #[.int .i64 0,.int .i64 0,.int .i64 0,.int .i64 0,.int .i64 0,.string ⟨#[]⟩,.slice none 0 0] 30 (0,0)) := by
  rw [← hW2]
  exact heap_alloc_new W _
 have hWw : w.heap.size < W.heap.size := by rw [← hW]; show w.heap.size < (w.heap.push _).size; rw [Array.size_push]; omega
 have b1 : W2.heap[w.heap.size]? = some (.cells #[.int .i64 t,.int .i64 v,.int .i64 b,.int .i64 c,.int .i64 m,.string sn,.slice ao n cap] 30 (0,0)) := by
  rw [hbW2.block w.heap.size hWw,← hW]
  exact heap_alloc_new w _
 have HB := Lib.hid (bchain hbW hbW2)
 clear hbW hbW2 hC hC2
 have fz2 := fun k => frozen_of_row W2 W.heap.size k _ _ b2
 have fz1 := fun k => frozen_of_row W2 w.heap.size k _ _ b1
 have e0 : W2.cell? ⟨w.heap.size,0,none⟩ = some (.int .i64 t) := by rw [cell_of_row W2 _ _ _ _ _ b1]; rfl
 have e1 : W2.cell? ⟨w.heap.size,1,none⟩ = some (.int .i64 v) := by rw [cell_of_row W2 _ _ _ _ _ b1]; rfl
 have e2 : W2.cell? ⟨w.heap.size,2,none⟩ = some (.int .i64 b) := by rw [cell_of_row W2 _ _ _ _ _ b1]; rfl
 have e3 : W2.cell? ⟨w.heap.size,3,none⟩ = some (.int .i64 c) := by rw [cell_of_row W2 _ _ _ _ _ b1]; rfl
 have e4 : W2.cell? ⟨w.heap.size,4,none⟩ = some (.int .i64 m) := by rw [cell_of_row W2 _ _ _ _ _ b1]; rfl
 have e5 : W2.cell? ⟨w.heap.size,5,none⟩ = some (.string sn) := by rw [cell_of_row W2 _ _ _ _ _ b1]; rfl
 have e6 : W2.cell? ⟨w.heap.size,6,none⟩ = some (.slice ao n cap) := by rw [cell_of_row W2 _ _ _ _ _ b1]; rfl
 have f0 : W2.cell? ⟨W.heap.size,0,none⟩ = some (.int .i64 0) := by rw [cell_of_row W2 _ _ _ _ _ b2]; rfl
 have f1 : W2.cell? ⟨W.heap.size,1,none⟩ = some (.int .i64 0) := by rw [cell_of_row W2 _ _ _ _ _ b2]; rfl
 have f2 : W2.cell? ⟨W.heap.size,2,none⟩ = some (.int .i64 0) := by rw [cell_of_row W2 _ _ _ _ _ b2]; rfl
 have f3 : W2.cell? ⟨W.heap.size,3,none⟩ = some (.int .i64 0) := by rw [cell_of_row W2 _ _ _ _ _ b2]; rfl
 have f4 : W2.cell? ⟨W.heap.size,4,none⟩ = some (.int .i64 0) := by rw [cell_of_row W2 _ _ _ _ _ b2]; rfl
 have f5 : W2.cell? ⟨W.heap.size,5,none⟩ = some (.string ⟨#[]⟩) := by rw [cell_of_row W2 _ _ _ _ _ b2]; rfl
 have f6 : W2.cell? ⟨W.heap.size,6,none⟩ = some (.slice none 0 0) := by rw [cell_of_row W2 _ _ _ _ _ b2]; rfl
 have l2 : W.heap.size < W2.heap.size := (Array.getElem?_eq_some_iff.1 b2).1
 have l1 : w.heap.size < W2.heap.size := (Array.getElem?_eq_some_iff.1 b1).1
 have HWw := Lib.hid hWw
 have H1 := Lib.hid b1
 have H2 := Lib.hid b2
 have hne : (w.heap.size == W.heap.size) = false := beq_eq_false_iff_ne.2 (by omega)
 have hne2 : w.heap.size ≠ W.heap.size := by omega
 have hne3 : (W.heap.size == w.heap.size) = false := beq_eq_false_iff_ne.2 (by omega)
 have hne4 : W.heap.size ≠ w.heap.size := by omega
 clear b1 b2
 unfold Hd.val
 dsimp only
 go_enter Tryz.func33,Tryz.ntmps33
 go_wp2_with fail
 have hfin : (lay (W2.setCell ⟨w.heap.size,5,none⟩ (.string ⟨#[]⟩)) W.heap.size 0 ⟨t,v,b,c,m,⟨#[]⟩,⟨ao,n,cap⟩⟩).heap[W.heap.size]? = some (.cells (Hd.rv ⟨t,v,b,c,m,⟨#[]⟩,⟨ao,n,cap⟩⟩).toArray 30 (0,0)) := hd_lay (((upd_set W2 w.heap.size 5 _).block W.heap.size l2 hne4).trans H2.out) _
 refine bodyPost_ret (results_hd Tryz.results33 rfl hfin) rfl ?_
 have hU : UpdQ (fun b => b = w.heap.size ∨ b = W.heap.size) W2 (lay (W2.setCell ⟨w.heap.size,5,none⟩ (.string ⟨#[]⟩)) W.heap.size 0 ⟨t,v,b,c,m,⟨#[]⟩,⟨ao,n,cap⟩⟩) := ((upd_set W2 w.heap.size 5 _).mono fun b z => .inl z).trans ((lay_upd _ W.heap.size 0 _).mono fun b z => .inr z)
 exact ⟨rfl,hU.below w HB.out fun b z => z.elim (fun z => by omega) fun z => by have := HWw.out; omega⟩
end Go.Proofs.YtlmjeackfepllaaGreatDoor.Wl
namespace Go.Proofs.YtlmjeackfepllaaGreatDoor.Wl
open Go.RowKit
open Mem
open Go.Sort (grow)
def rEntry (e : Et.T) (b m : Int) : Bool := decide (1 ≤ e.term) && (decide (b ≤ e.term) && (decide (e.term ≤ m) && (decide (0 ≤ e.mem) && (decide (e.mem < 128) && (decide ((e.data.size : Int) ≤ 1100) && ((e.mem == 0) || (e.data.toList == [])))))))
set_option maxHeartbeats 4000000 in
theorem rf_entry (x : Et.T) (b m : Int) (w : World) (hs : Et.Short x) :
  Calls Tryz.prog 59 #[Et.val x,.int .i64 b,.int .i64 m] w fun e w' => e = .returned (.bool (rEntry x b m)) ∧ Below w.heap.size w w' := by
 have hz := hs.2.2
 obtain ⟨W,hW,hbW,hC⟩ := Et.boxed1 w x
 have HB := Lib.hid hbW
 have HE : Hid (rEntry x b m = (decide (1 ≤ x.term) && (decide (b ≤ x.term) && (decide (x.term ≤ m) && (decide (0 ≤ x.mem) && (decide (x.mem < 128) && (decide ((x.data.size : Int) ≤ 1100) && ((x.mem == 0) || (x.data.toList == [])))))))) ) := Lib.hid rfl
 unfold Et.C at hC
 obtain ⟨k0,k1,k2⟩ := hC
 clear hbW hs
 unfold Et.val
 by_cases c0 : 1 ≤ x.term
 rotate_left
 ·
  rw [decide_eq_false c0,Bool.false_and] at HE
  go_enter Tryz.func59,Tryz.ntmps59
  go_wp2_with fail
  go_ret
  exact ⟨ret_bool HE.out.symm,HB.out⟩
 rw [decide_eq_true c0,Bool.true_and] at HE
 by_cases c1 : b ≤ x.term
 rotate_left
 ·
  rw [decide_eq_false c1,Bool.false_and] at HE
  go_enter Tryz.func59,Tryz.ntmps59
  go_wp2_with fail
  go_ret
  exact ⟨ret_bool HE.out.symm,HB.out⟩
 rw [decide_eq_true c1,Bool.true_and] at HE
 by_cases c2 : x.term ≤ m
 rotate_left
 ·
  rw [decide_eq_false c2,Bool.false_and] at HE
  go_enter Tryz.func59,Tryz.ntmps59
  go_wp2_with fail
  go_ret
  exact ⟨ret_bool HE.out.symm,HB.out⟩
 rw [decide_eq_true c2,Bool.true_and] at HE
 by_cases c3 : 0 ≤ x.mem
 rotate_left
 ·
  rw [decide_eq_false c3,Bool.false_and] at HE
  go_enter Tryz.func59,Tryz.ntmps59
  go_wp2_with fail
  go_ret
  exact ⟨ret_bool HE.out.symm,HB.out⟩
 rw [decide_eq_true c3,Bool.true_and] at HE
 by_cases c4 : x.mem < 128
 rotate_left
 ·
  rw [decide_eq_false c4,Bool.false_and] at HE
  go_enter Tryz.func59,Tryz.ntmps59
  go_wp2_with fail
  go_ret
  exact ⟨ret_bool HE.out.symm,HB.out⟩
 rw [decide_eq_true c4,Bool.true_and] at HE
 by_cases c5 : (x.data.size : Int) ≤ 1100
 rotate_left
 ·
  rw [decide_eq_false c5,Bool.false_and] at HE
  go_enter Tryz.func59,Tryz.ntmps59
  go_wp2_with fail
  go_ret
  exact ⟨ret_bool HE.out.symm,HB.out⟩
 rw [decide_eq_true c5,Bool.true_and] at HE
 cases q1 : (x.mem == 0)
 ·
  rw [q1,Bool.false_or] at HE
  cases q2 : (x.data.toList == [])
  ·
   rw [q2] at HE
   go_enter Tryz.func59,Tryz.ntmps59
   go_wp2_with fail
   go_ret
   exact ⟨ret_bool HE.out.symm,HB.out⟩
  ·
   rw [q2] at HE
   go_enter Tryz.func59,Tryz.ntmps59
   go_wp2_with fail
   go_ret
   exact ⟨ret_bool HE.out.symm,HB.out⟩
 ·
  rw [q1,Bool.true_or] at HE
  go_enter Tryz.func59,Tryz.ntmps59
  go_wp2_with fail
  go_ret
  exact ⟨ret_bool HE.out.symm,HB.out⟩
end Go.Proofs.YtlmjeackfepllaaGreatDoor.Wl
namespace Go.Proofs.YtlmjeackfepllaaGreatDoor.Wl
open Go.RowKit
open Mem
open Go.Sort (grow)
def rAll (m : Int) : Int → List Et.T → Bool
 | _,[] => true
 | t,e :: l => rEntry e t m && rAll m e.term l
def rHead (h : H) : Bool := !(decide (h.term < 0)) && (!(decide (h.term > 1099511627776)) && (!(decide (h.vote < -1)) && (!(decide (h.vote ≥ 7)) && (!(decide (h.base < 0)) && (!(decide (h.base > 1099511627776)) && (!(decide (h.bt < 0)) && (!(decide (h.bt > h.term)) && (((h.base == 0) == (h.bt == 0)) && (!(decide (h.mem < 1)) && (!(decide (h.mem ≥ 128)) && (((h.base == 0) == (h.snap.toList == [])) && (!(decide ((h.snap.size : Int) > 65536)) && (!(decide ((h.log.length : Int) > 200)) && (!(decide (h.base > 1099511627776 - (h.log.length : Int)))))))))))))))))
def rRight (h : H) : Bool := rHead h && rAll h.term h.bt h.log
theorem entry_ag (x : Et.T) (b m : Int) (hs : Et.Short x) (u : World) (i : Nat) (os : Array Obj) : AnsW 59 #[Et.val x,.int .i64 b,.int .i64 m] u i os (.bool (rEntry x b m)) :=
 Calls.regrown_of (rf_entry x b m _ hs)
end Go.Proofs.YtlmjeackfepllaaGreatDoor.Wl
namespace Go.Proofs.YtlmjeackfepllaaGreatDoor.Wl
open Go.RowKit
open Mem
open Go.Sort (grow)
set_option maxHeartbeats 4000000 in
theorem rf_no0 (r : Hd.T) (l : List Et.T) (w : World) (hl : Et.Ls w r.log.ao r.log.n r.log.cap l) (hz : r.snap.size ≤ 140737488355328)  (c0 : r.term < 0) :
  Calls Tryz.prog 20 #[Hd.val r] w fun e w' => e = .returned (.bool false) ∧ Below w.heap.size w w' := by
 obtain ⟨term,vote,base,bt,mem,snap,ao,n,cap⟩ := r
 dsimp only at *
 obtain ⟨W,hW,hbW,hC⟩ := Hd.boxed1 w ⟨term,vote,base,bt,mem,snap,⟨ao,n,cap⟩⟩
 have HB := Lib.hid hbW
 have h1 := hl.fits
 have h2 := hl.reach
 unfold Hd.C at hC
 dsimp only at hC hW
 obtain ⟨a0,a1,a2,a3,a4,a5,a6⟩ := hC
 unfold Hd.val
 dsimp only
 clear hl hbW
 go_enter Tryz.func20,Tryz.ntmps20
 go_wp2_with fail
 go_ret
 exact ⟨rfl,HB.out⟩
set_option maxHeartbeats 4000000 in
theorem rf_no1 (r : Hd.T) (l : List Et.T) (w : World) (hl : Et.Ls w r.log.ao r.log.n r.log.cap l) (hz : r.snap.size ≤ 140737488355328) (c0 : ¬ r.term < 0) (c1 : r.term > 1099511627776) :
  Calls Tryz.prog 20 #[Hd.val r] w fun e w' => e = .returned (.bool false) ∧ Below w.heap.size w w' := by
 obtain ⟨term,vote,base,bt,mem,snap,ao,n,cap⟩ := r
 dsimp only at *
 obtain ⟨W,hW,hbW,hC⟩ := Hd.boxed1 w ⟨term,vote,base,bt,mem,snap,⟨ao,n,cap⟩⟩
 have HB := Lib.hid hbW
 have h1 := hl.fits
 have h2 := hl.reach
 unfold Hd.C at hC
 dsimp only at hC hW
 obtain ⟨a0,a1,a2,a3,a4,a5,a6⟩ := hC
 unfold Hd.val
 dsimp only
 clear hl hbW
 go_enter Tryz.func20,Tryz.ntmps20
 go_wp2_with fail
 go_ret
 exact ⟨rfl,HB.out⟩
set_option maxHeartbeats 4000000 in
theorem rf_no2 (r : Hd.T) (l : List Et.T) (w : World) (hl : Et.Ls w r.log.ao r.log.n r.log.cap l) (hz : r.snap.size ≤ 140737488355328) (c0 : ¬ r.term < 0) (c1 : ¬ r.term > 1099511627776) (c2 : r.vote < -1) :
  Calls Tryz.prog 20 #[Hd.val r] w fun e w' => e = .returned (.bool false) ∧ Below w.heap.size w w' := by
 obtain ⟨term,vote,base,bt,mem,snap,ao,n,cap⟩ := r
 dsimp only at *
 obtain ⟨W,hW,hbW,hC⟩ := Hd.boxed1 w ⟨term,vote,base,bt,mem,snap,⟨ao,n,cap⟩⟩
 have HB := Lib.hid hbW
 have h1 := hl.fits
 have h2 := hl.reach
 unfold Hd.C at hC
 dsimp only at hC hW
 obtain ⟨a0,a1,a2,a3,a4,a5,a6⟩ := hC
 unfold Hd.val
 dsimp only
 clear hl hbW
 go_enter Tryz.func20,Tryz.ntmps20
 go_wp2_with fail
 go_ret
 exact ⟨rfl,HB.out⟩
set_option maxHeartbeats 4000000 in
theorem rf_no3 (r : Hd.T) (l : List Et.T) (w : World) (hl : Et.Ls w r.log.ao r.log.n r.log.cap l) (hz : r.snap.size ≤ 140737488355328) (c0 : ¬ r.term < 0) (c1 : ¬ r.term > 1099511627776) (c2 : ¬ r.vote < -1) (c3 : r.vote ≥ 7) :
  Calls Tryz.prog 20 #[Hd.val r] w fun e w' => e = .returned (.bool false) ∧ Below w.heap.size w w' := by
 obtain ⟨term,vote,base,bt,mem,snap,ao,n,cap⟩ := r
 dsimp only at *
 obtain ⟨W,hW,hbW,hC⟩ := Hd.boxed1 w ⟨term,vote,base,bt,mem,snap,⟨ao,n,cap⟩⟩
 have HB := Lib.hid hbW
 have h1 := hl.fits
 have h2 := hl.reach
 unfold Hd.C at hC
 dsimp only at hC hW
 obtain ⟨a0,a1,a2,a3,a4,a5,a6⟩ := hC
 unfold Hd.val
 dsimp only
 clear hl hbW
 go_enter Tryz.func20,Tryz.ntmps20
 go_wp2_with fail
 go_ret
 exact ⟨rfl,HB.out⟩
end Go.Proofs.YtlmjeackfepllaaGreatDoor.Wl
namespace Go.Proofs.YtlmjeackfepllaaGreatDoor.Wl
open Go.RowKit
open Mem
open Go.Sort (grow)
set_option maxHeartbeats 4000000 in
theorem rf_no8 (r : Hd.T) (l : List Et.T) (w : World) (hl : Et.Ls w r.log.ao r.log.n r.log.cap l) (hz : r.snap.size ≤ 140737488355328) (c0 : ¬ r.term < 0) (c1 : ¬ r.term > 1099511627776) (c2 : ¬ r.vote < -1) (c3 : ¬ r.vote ≥ 7) (c4 : ¬ r.base < 0) (c5 : ¬ r.base > 1099511627776) (c6 : ¬ r.bt < 0) (c7 : ¬ r.bt > r.term) (c8 : (r.base == 0) ≠ (r.bt == 0)) :
  Calls Tryz.prog 20 #[Hd.val r] w fun e w' => e = .returned (.bool false) ∧ Below w.heap.size w w' := by
 obtain ⟨term,vote,base,bt,mem,snap,ao,n,cap⟩ := r
 dsimp only at *
 obtain ⟨W,hW,hbW,hC⟩ := Hd.boxed1 w ⟨term,vote,base,bt,mem,snap,⟨ao,n,cap⟩⟩
 have HB := Lib.hid hbW
 have h1 := hl.fits
 have h2 := hl.reach
 unfold Hd.C at hC
 dsimp only at hC hW
 obtain ⟨a0,a1,a2,a3,a4,a5,a6⟩ := hC
 unfold Hd.val
 dsimp only
 clear hl hbW
 cases u8 : (base == 0)
 ·
  have v8 : (bt == 0) = true := by
   revert c8
   rw [u8]
   cases (bt == 0) <;> decide
  clear c8
  go_enter Tryz.func20,Tryz.ntmps20
  go_wp2_with fail
  go_ret
  exact ⟨rfl,HB.out⟩
 ·
  have v8 : (bt == 0) = false := by
   revert c8
   rw [u8]
   cases (bt == 0) <;> decide
  clear c8
  go_enter Tryz.func20,Tryz.ntmps20
  go_wp2_with fail
  go_ret
  exact ⟨rfl,HB.out⟩
set_option maxHeartbeats 4000000 in
theorem rf_no9 (r : Hd.T) (l : List Et.T) (w : World) (hl : Et.Ls w r.log.ao r.log.n r.log.cap l) (hz : r.snap.size ≤ 140737488355328) (c0 : ¬ r.term < 0) (c1 : ¬ r.term > 1099511627776) (c2 : ¬ r.vote < -1) (c3 : ¬ r.vote ≥ 7) (c4 : ¬ r.base < 0) (c5 : ¬ r.base > 1099511627776) (c6 : ¬ r.bt < 0) (c7 : ¬ r.bt > r.term) (c8 : (r.base == 0) = (r.bt == 0)) (c9 : r.mem < 1) :
  Calls Tryz.prog 20 #[Hd.val r] w fun e w' => e = .returned (.bool false) ∧ Below w.heap.size w w' := by
 obtain ⟨term,vote,base,bt,mem,snap,ao,n,cap⟩ := r
 dsimp only at *
 obtain ⟨W,hW,hbW,hC⟩ := Hd.boxed1 w ⟨term,vote,base,bt,mem,snap,⟨ao,n,cap⟩⟩
 have HB := Lib.hid hbW
 have h1 := hl.fits
 have h2 := hl.reach
 unfold Hd.C at hC
 dsimp only at hC hW
 obtain ⟨a0,a1,a2,a3,a4,a5,a6⟩ := hC
 unfold Hd.val
 dsimp only
 clear hl hbW
 cases u8 : (base == 0)
 ·
  have v8 := c8.symm.trans u8
  clear c8
  go_enter Tryz.func20,Tryz.ntmps20
  go_wp2_with fail
  go_ret
  exact ⟨rfl,HB.out⟩
 ·
  have v8 := c8.symm.trans u8
  clear c8
  go_enter Tryz.func20,Tryz.ntmps20
  go_wp2_with fail
  go_ret
  exact ⟨rfl,HB.out⟩
set_option maxHeartbeats 4000000 in
theorem rf_no10 (r : Hd.T) (l : List Et.T) (w : World) (hl : Et.Ls w r.log.ao r.log.n r.log.cap l) (hz : r.snap.size ≤ 140737488355328) (c0 : ¬ r.term < 0) (c1 : ¬ r.term > 1099511627776) (c2 : ¬ r.vote < -1) (c3 : ¬ r.vote ≥ 7) (c4 : ¬ r.base < 0) (c5 : ¬ r.base > 1099511627776) (c6 : ¬ r.bt < 0) (c7 : ¬ r.bt > r.term) (c8 : (r.base == 0) = (r.bt == 0)) (c9 : ¬ r.mem < 1) (c10 : r.mem ≥ 128) :
  Calls Tryz.prog 20 #[Hd.val r] w fun e w' => e = .returned (.bool false) ∧ Below w.heap.size w w' := by
 obtain ⟨term,vote,base,bt,mem,snap,ao,n,cap⟩ := r
 dsimp only at *
 obtain ⟨W,hW,hbW,hC⟩ := Hd.boxed1 w ⟨term,vote,base,bt,mem,snap,⟨ao,n,cap⟩⟩
 have HB := Lib.hid hbW
 have h1 := hl.fits
 have h2 := hl.reach
 unfold Hd.C at hC
 dsimp only at hC hW
 obtain ⟨a0,a1,a2,a3,a4,a5,a6⟩ := hC
 unfold Hd.val
 dsimp only
 clear hl hbW
 cases u8 : (base == 0)
 ·
  have v8 := c8.symm.trans u8
  clear c8
  go_enter Tryz.func20,Tryz.ntmps20
  go_wp2_with fail
  go_ret
  exact ⟨rfl,HB.out⟩
 ·
  have v8 := c8.symm.trans u8
  clear c8
  go_enter Tryz.func20,Tryz.ntmps20
  go_wp2_with fail
  go_ret
  exact ⟨rfl,HB.out⟩
set_option maxHeartbeats 4000000 in
theorem rf_no11 (r : Hd.T) (l : List Et.T) (w : World) (hl : Et.Ls w r.log.ao r.log.n r.log.cap l) (hz : r.snap.size ≤ 140737488355328) (c0 : ¬ r.term < 0) (c1 : ¬ r.term > 1099511627776) (c2 : ¬ r.vote < -1) (c3 : ¬ r.vote ≥ 7) (c4 : ¬ r.base < 0) (c5 : ¬ r.base > 1099511627776) (c6 : ¬ r.bt < 0) (c7 : ¬ r.bt > r.term) (c8 : (r.base == 0) = (r.bt == 0)) (c9 : ¬ r.mem < 1) (c10 : ¬ r.mem ≥ 128) (c11 : (r.base == 0) ≠ (r.snap.toList == [])) :
  Calls Tryz.prog 20 #[Hd.val r] w fun e w' => e = .returned (.bool false) ∧ Below w.heap.size w w' := by
 obtain ⟨term,vote,base,bt,mem,snap,ao,n,cap⟩ := r
 dsimp only at *
 obtain ⟨W,hW,hbW,hC⟩ := Hd.boxed1 w ⟨term,vote,base,bt,mem,snap,⟨ao,n,cap⟩⟩
 have HB := Lib.hid hbW
 have h1 := hl.fits
 have h2 := hl.reach
 unfold Hd.C at hC
 dsimp only at hC hW
 obtain ⟨a0,a1,a2,a3,a4,a5,a6⟩ := hC
 unfold Hd.val
 dsimp only
 clear hl hbW
 cases u8 : (base == 0)
 ·
  have v11 : (snap.toList == []) = true := by
   revert c11
   rw [u8]
   cases (snap.toList == []) <;> decide
  clear c11
  have v8 := c8.symm.trans u8
  clear c8
  go_enter Tryz.func20,Tryz.ntmps20
  go_wp2_with fail
  go_ret
  exact ⟨rfl,HB.out⟩
 ·
  have v11 : (snap.toList == []) = false := by
   revert c11
   rw [u8]
   cases (snap.toList == []) <;> decide
  clear c11
  have v8 := c8.symm.trans u8
  clear c8
  go_enter Tryz.func20,Tryz.ntmps20
  go_wp2_with fail
  go_ret
  exact ⟨rfl,HB.out⟩
end Go.Proofs.YtlmjeackfepllaaGreatDoor.Wl
namespace Go.Proofs.YtlmjeackfepllaaGreatDoor.Wl
open Go.RowKit
open Mem
open Go.Sort (grow)
set_option maxHeartbeats 4000000 in
theorem rf_no4 (r : Hd.T) (l : List Et.T) (w : World) (hl : Et.Ls w r.log.ao r.log.n r.log.cap l) (hz : r.snap.size ≤ 140737488355328) (c0 : ¬ r.term < 0) (c1 : ¬ r.term > 1099511627776) (c2 : ¬ r.vote < -1) (c3 : ¬ r.vote ≥ 7) (c4 : r.base < 0) :
  Calls Tryz.prog 20 #[Hd.val r] w fun e w' => e = .returned (.bool false) ∧ Below w.heap.size w w' := by
 obtain ⟨term,vote,base,bt,mem,snap,ao,n,cap⟩ := r
 dsimp only at *
 obtain ⟨W,hW,hbW,hC⟩ := Hd.boxed1 w ⟨term,vote,base,bt,mem,snap,⟨ao,n,cap⟩⟩
 have HB := Lib.hid hbW
 have h1 := hl.fits
 have h2 := hl.reach
 unfold Hd.C at hC
 dsimp only at hC hW
 obtain ⟨a0,a1,a2,a3,a4,a5,a6⟩ := hC
 unfold Hd.val
 dsimp only
 clear hl hbW
 go_enter Tryz.func20,Tryz.ntmps20
 go_wp2_with fail
 go_ret
 exact ⟨rfl,HB.out⟩
set_option maxHeartbeats 4000000 in
theorem rf_no5 (r : Hd.T) (l : List Et.T) (w : World) (hl : Et.Ls w r.log.ao r.log.n r.log.cap l) (hz : r.snap.size ≤ 140737488355328) (c0 : ¬ r.term < 0) (c1 : ¬ r.term > 1099511627776) (c2 : ¬ r.vote < -1) (c3 : ¬ r.vote ≥ 7) (c4 : ¬ r.base < 0) (c5 : r.base > 1099511627776) :
  Calls Tryz.prog 20 #[Hd.val r] w fun e w' => e = .returned (.bool false) ∧ Below w.heap.size w w' := by
 obtain ⟨term,vote,base,bt,mem,snap,ao,n,cap⟩ := r
 dsimp only at *
 obtain ⟨W,hW,hbW,hC⟩ := Hd.boxed1 w ⟨term,vote,base,bt,mem,snap,⟨ao,n,cap⟩⟩
 have HB := Lib.hid hbW
 have h1 := hl.fits
 have h2 := hl.reach
 unfold Hd.C at hC
 dsimp only at hC hW
 obtain ⟨a0,a1,a2,a3,a4,a5,a6⟩ := hC
 unfold Hd.val
 dsimp only
 clear hl hbW
 go_enter Tryz.func20,Tryz.ntmps20
 go_wp2_with fail
 go_ret
 exact ⟨rfl,HB.out⟩
set_option maxHeartbeats 4000000 in
theorem rf_no6 (r : Hd.T) (l : List Et.T) (w : World) (hl : Et.Ls w r.log.ao r.log.n r.log.cap l) (hz : r.snap.size ≤ 140737488355328) (c0 : ¬ r.term < 0) (c1 : ¬ r.term > 1099511627776) (c2 : ¬ r.vote < -1) (c3 : ¬ r.vote ≥ 7) (c4 : ¬ r.base < 0) (c5 : ¬ r.base > 1099511627776) (c6 : r.bt < 0) :
  Calls Tryz.prog 20 #[Hd.val r] w fun e w' => e = .returned (.bool false) ∧ Below w.heap.size w w' := by
 obtain ⟨term,vote,base,bt,mem,snap,ao,n,cap⟩ := r
 dsimp only at *
 obtain ⟨W,hW,hbW,hC⟩ := Hd.boxed1 w ⟨term,vote,base,bt,mem,snap,⟨ao,n,cap⟩⟩
 have HB := Lib.hid hbW
 have h1 := hl.fits
 have h2 := hl.reach
 unfold Hd.C at hC
 dsimp only at hC hW
 obtain ⟨a0,a1,a2,a3,a4,a5,a6⟩ := hC
 unfold Hd.val
 dsimp only
 clear hl hbW
 go_enter Tryz.func20,Tryz.ntmps20
 go_wp2_with fail
 go_ret
 exact ⟨rfl,HB.out⟩
set_option maxHeartbeats 4000000 in
theorem rf_no7 (r : Hd.T) (l : List Et.T) (w : World) (hl : Et.Ls w r.log.ao r.log.n r.log.cap l) (hz : r.snap.size ≤ 140737488355328) (c0 : ¬ r.term < 0) (c1 : ¬ r.term > 1099511627776) (c2 : ¬ r.vote < -1) (c3 : ¬ r.vote ≥ 7) (c4 : ¬ r.base < 0) (c5 : ¬ r.base > 1099511627776) (c6 : ¬ r.bt < 0) (c7 : r.bt > r.term) :
  Calls Tryz.prog 20 #[Hd.val r] w fun e w' => e = .returned (.bool false) ∧ Below w.heap.size w w' := by
 obtain ⟨term,vote,base,bt,mem,snap,ao,n,cap⟩ := r
 dsimp only at *
 obtain ⟨W,hW,hbW,hC⟩ := Hd.boxed1 w ⟨term,vote,base,bt,mem,snap,⟨ao,n,cap⟩⟩
 have HB := Lib.hid hbW
 have h1 := hl.fits
 have h2 := hl.reach
 unfold Hd.C at hC
 dsimp only at hC hW
 obtain ⟨a0,a1,a2,a3,a4,a5,a6⟩ := hC
 unfold Hd.val
 dsimp only
 clear hl hbW
 go_enter Tryz.func20,Tryz.ntmps20
 go_wp2_with fail
 go_ret
 exact ⟨rfl,HB.out⟩
end Go.Proofs.YtlmjeackfepllaaGreatDoor.Wl
namespace Go.Proofs.YtlmjeackfepllaaGreatDoor.Wl
open Go.RowKit
open Mem
open Go.Sort (grow)
set_option maxHeartbeats 4000000 in
theorem rf_no12 (r : Hd.T) (l : List Et.T) (w : World) (hl : Et.Ls w r.log.ao r.log.n r.log.cap l) (hz : r.snap.size ≤ 140737488355328) (c0 : ¬ r.term < 0) (c1 : ¬ r.term > 1099511627776) (c2 : ¬ r.vote < -1) (c3 : ¬ r.vote ≥ 7) (c4 : ¬ r.base < 0) (c5 : ¬ r.base > 1099511627776) (c6 : ¬ r.bt < 0) (c7 : ¬ r.bt > r.term) (c8 : (r.base == 0) = (r.bt == 0)) (c9 : ¬ r.mem < 1) (c10 : ¬ r.mem ≥ 128) (c11 : (r.base == 0) = (r.snap.toList == [])) (c12 : (r.snap.size : Int) > 65536) :
  Calls Tryz.prog 20 #[Hd.val r] w fun e w' => e = .returned (.bool false) ∧ Below w.heap.size w w' := by
 obtain ⟨term,vote,base,bt,mem,snap,ao,n,cap⟩ := r
 dsimp only at *
 obtain ⟨W,hW,hbW,hC⟩ := Hd.boxed1 w ⟨term,vote,base,bt,mem,snap,⟨ao,n,cap⟩⟩
 have HB := Lib.hid hbW
 have h1 := hl.fits
 have h2 := hl.reach
 unfold Hd.C at hC
 dsimp only at hC hW
 obtain ⟨a0,a1,a2,a3,a4,a5,a6⟩ := hC
 unfold Hd.val
 dsimp only
 clear hl hbW
 cases u8 : (base == 0)
 ·
  have v8 := c8.symm.trans u8
  have v11 := c11.symm.trans u8
  clear c8 c11
  go_enter Tryz.func20,Tryz.ntmps20
  go_wp2_with fail
  go_ret
  exact ⟨rfl,HB.out⟩
 ·
  have v8 := c8.symm.trans u8
  have v11 := c11.symm.trans u8
  clear c8 c11
  go_enter Tryz.func20,Tryz.ntmps20
  go_wp2_with fail
  go_ret
  exact ⟨rfl,HB.out⟩
set_option maxHeartbeats 4000000 in
theorem rf_no13 (r : Hd.T) (l : List Et.T) (w : World) (hl : Et.Ls w r.log.ao r.log.n r.log.cap l) (hz : r.snap.size ≤ 140737488355328) (c0 : ¬ r.term < 0) (c1 : ¬ r.term > 1099511627776) (c2 : ¬ r.vote < -1) (c3 : ¬ r.vote ≥ 7) (c4 : ¬ r.base < 0) (c5 : ¬ r.base > 1099511627776) (c6 : ¬ r.bt < 0) (c7 : ¬ r.bt > r.term) (c8 : (r.base == 0) = (r.bt == 0)) (c9 : ¬ r.mem < 1) (c10 : ¬ r.mem ≥ 128) (c11 : (r.base == 0) = (r.snap.toList == [])) (c12 : ¬ (r.snap.size : Int) > 65536) (c13 : (r.log.n : Int) > 200) :
  Calls Tryz.prog 20 #[Hd.val r] w fun e w' => e = .returned (.bool false) ∧ Below w.heap.size w w' := by
 obtain ⟨term,vote,base,bt,mem,snap,ao,n,cap⟩ := r
 dsimp only at *
 obtain ⟨W,hW,hbW,hC⟩ := Hd.boxed1 w ⟨term,vote,base,bt,mem,snap,⟨ao,n,cap⟩⟩
 have HB := Lib.hid hbW
 have h1 := hl.fits
 have h2 := hl.reach
 unfold Hd.C at hC
 dsimp only at hC hW
 obtain ⟨a0,a1,a2,a3,a4,a5,a6⟩ := hC
 unfold Hd.val
 dsimp only
 clear hl hbW
 cases u8 : (base == 0)
 ·
  have v8 := c8.symm.trans u8
  have v11 := c11.symm.trans u8
  clear c8 c11
  go_enter Tryz.func20,Tryz.ntmps20
  go_wp2_with fail
  go_ret
  exact ⟨rfl,HB.out⟩
 ·
  have v8 := c8.symm.trans u8
  have v11 := c11.symm.trans u8
  clear c8 c11
  go_enter Tryz.func20,Tryz.ntmps20
  go_wp2_with fail
  go_ret
  exact ⟨rfl,HB.out⟩
set_option maxHeartbeats 4000000 in
theorem rf_no14 (r : Hd.T) (l : List Et.T) (w : World) (hl : Et.Ls w r.log.ao r.log.n r.log.cap l) (hz : r.snap.size ≤ 140737488355328) (c0 : ¬ r.term < 0) (c1 : ¬ r.term > 1099511627776) (c2 : ¬ r.vote < -1) (c3 : ¬ r.vote ≥ 7) (c4 : ¬ r.base < 0) (c5 : ¬ r.base > 1099511627776) (c6 : ¬ r.bt < 0) (c7 : ¬ r.bt > r.term) (c8 : (r.base == 0) = (r.bt == 0)) (c9 : ¬ r.mem < 1) (c10 : ¬ r.mem ≥ 128) (c11 : (r.base == 0) = (r.snap.toList == [])) (c12 : ¬ (r.snap.size : Int) > 65536) (c13 : ¬ (r.log.n : Int) > 200) (c14 : r.base > 1099511627776 - (r.log.n : Int)) :
  Calls Tryz.prog 20 #[Hd.val r] w fun e w' => e = .returned (.bool false) ∧ Below w.heap.size w w' := by
 obtain ⟨term,vote,base,bt,mem,snap,ao,n,cap⟩ := r
 dsimp only at *
 obtain ⟨W,hW,hbW,hC⟩ := Hd.boxed1 w ⟨term,vote,base,bt,mem,snap,⟨ao,n,cap⟩⟩
 have HB := Lib.hid hbW
 have h1 := hl.fits
 have h2 := hl.reach
 unfold Hd.C at hC
 dsimp only at hC hW
 obtain ⟨a0,a1,a2,a3,a4,a5,a6⟩ := hC
 unfold Hd.val
 dsimp only
 clear hl hbW
 cases u8 : (base == 0)
 ·
  have v8 := c8.symm.trans u8
  have v11 := c11.symm.trans u8
  clear c8 c11
  go_enter Tryz.func20,Tryz.ntmps20
  go_wp2_with fail
  go_ret
  exact ⟨rfl,HB.out⟩
 ·
  have v8 := c8.symm.trans u8
  have v11 := c11.symm.trans u8
  clear c8 c11
  go_enter Tryz.func20,Tryz.ntmps20
  go_wp2_with fail
  go_ret
  exact ⟨rfl,HB.out⟩
end Go.Proofs.YtlmjeackfepllaaGreatDoor.Wl
