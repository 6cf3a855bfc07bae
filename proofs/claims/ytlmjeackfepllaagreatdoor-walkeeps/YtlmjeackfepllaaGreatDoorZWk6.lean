import Derived.Deep.RegionHeld3
import Derived.Test.YtlmjeackfepllaaGreatDoorZWk1
import Derived.Test.YtlmjeackfepllaaGreatDoorZWk4
import Derived.Test.YtlmjeackfepllaaGreatDoorZWk5
set_option maxRecDepth 100000
set_option linter.unusedVariables false
namespace Go.Proofs.YtlmjeackfepllaaGreatDoor.Wl
open Go.RowKit
open Mem Pk
structure Vl (P : Nat → Prop) (w : World) (v : Sl) (s : Sg) : Prop where
 own : Et.Own w 0 (sv v) s.h.log
 pv : ∀ b,(sv v).ownBlock = some b → P b
 short : ∀ e ∈ s.h.log,Et.Short e
 few : s.h.log.length ≤ 200
 base : 0 ≤ s.h.base ∧ s.h.base ≤ 1099511627776
 fit : Fit s.h.term ∧ Fit s.h.vote ∧ Fit s.h.bt ∧ Fit s.h.mem
 snap : s.h.snap = .empty
theorem Seg.vl {P : Nat → Prop} {w : World} {g o : Nat} {ty : TypeId} {pre post : List Value} {v : Sl} {s : Sg} (h : Seg P w g o ty pre post v s) : Vl P w v s := ⟨h.own,fun b e => (h.pv b e).1,h.short,h.few,h.base,h.fit,h.snap⟩
theorem Vl.mono {P Q : Nat → Prop} {w : World} {v : Sl} {s : Sg} (h : Vl P w v s) (k : ∀ b,P b → Q b) : Vl Q w v s := ⟨h.own,fun b e => k b (h.pv b e),h.short,h.few,h.base,h.fit,h.snap⟩
theorem Vl.keep {P Q : Nat → Prop} {w u : World} {v : Sl} {s : Sg} (h : Vl P w v s) (k : UpdQ Q w u) (hQ : ∀ b,P b → ¬ Q b) : Vl P u v s := ⟨k.rows h.own fun b e => hQ b (h.pv b e),h.pv,h.short,h.few,h.base,h.fit,h.snap⟩
theorem Vl.below {P : Nat → Prop} {w u : World} {v : Sl} {s : Sg} (h : Vl P w v s) (k : Below w.heap.size w u) : Vl P u v s := h.keep (UpdQ.of (Q := fun _ => False) k) fun _ _ z => z
theorem Vl.seg {P : Nat → Prop} {w : World} {g o : Nat} {ty : TypeId} {pre post : List Value} {v : Sl} {s : Sg} (h : Vl P w v s) (hb : Blk w g o ty pre post (row s.h v) s.begun s.ready) (hg : P g) (hne : ∀ b,(sv v).ownBlock = some b → b ≠ g) : Seg P w g o ty pre post v s :=
 ⟨hb,h.own,hg,fun b e => ⟨h.pv b e,hne b e⟩,h.short,h.few,h.base,h.fit,h.snap⟩
def val (v : Sl) (s : Sg) : Value := .agg #[.int .i64 s.h.term,.int .i64 s.h.vote,.int .i64 s.h.base,.int .i64 s.h.bt,.int .i64 s.h.mem,.string s.h.snap,.slice v.ao v.n v.cap,.bool s.begun,.bool s.ready]
theorem vl_empty (P : Nat → Prop) (w : World) : Vl P w ⟨none,0,0⟩ empty := ⟨Et.own_nil _ _,fun b e => (by cases e),fun e z => (by cases z),Nat.zero_le _,⟨Int.le_refl _,by decide⟩,⟨⟨by decide,by decide⟩,⟨by decide,by decide⟩,⟨by decide,by decide⟩,⟨by decide,by decide⟩⟩,rfl⟩
set_option maxHeartbeats 1000000 in
theorem wl_empty (w : World) : Calls Tryz.prog 40 #[] w fun e w' => e = .returned (.agg #[.int .i64 0,.int .i64 (-1),.int .i64 0,.int .i64 0,.int .i64 0,.string ⟨#[]⟩,.slice none 0 0,.bool false,.bool false]) ∧ Below w.heap.size w w' := by
 go_enter Tryz.func40,Tryz.ntmps40
 go_wp2
 exact bodyPost_ret (v := .agg #[.int .i64 0,.int .i64 (-1),.int .i64 0,.int .i64 0,.int .i64 0,.string ⟨#[]⟩,.slice none 0 0,.bool false,.bool false]) (by simp [results,Tryz.results40,go_sem]) rfl ⟨rfl,(Below.refl _ _).alloc (Nat.le_refl _) _⟩
def ReadE (w : World) (bs : List UInt8) (e : Ending) (w' : World) : Prop := ∃ v,e = .returned (.tuple #[val v (read bs).1,.int .i64 ((read bs).2 : Int)]) ∧ Vl (fun b => w.heap.size ≤ b) w' v (read bs).1 ∧ Below w.heap.size w w'
def RdI (bs : List UInt8) (k : Nat) (s : Sg) : Prop := ∃ f,bs.length < k + f ∧ k ≤ bs.length ∧ (readF f s (bs.drop k)).1 = (read bs).1 ∧ k + (readF f s (bs.drop k)).2 = (read bs).2
theorem rdI_start (bs : List UInt8) : RdI bs 0 empty := ⟨bs.length + 1,by omega,Nat.zero_le _,rfl,Nat.zero_add _⟩
theorem RdI.stop {bs : List UInt8} {k : Nat} {s : Sg} (h : RdI bs k s) (he : (Fm.nextF (bs.drop k)).2.2 ≠ 0 ∨ take s (Fm.nextF (bs.drop k)).1 = none) : (read bs).1 = s ∧ (read bs).2 = k := by
 obtain ⟨f,h1,h2,h3,h4⟩ := h
 obtain ⟨q,rfl⟩ : ∃ q,f = q + 1 := ⟨f - 1,by omega⟩
 have e : readF (q + 1) s (bs.drop k) = (s,0) := by
  rw [readF]
  by_cases z : (Fm.nextF (bs.drop k)).2.2 ≠ 0
  · rw [if_pos z]
  · rw [if_neg z,he.resolve_left z]
 rw [e] at h3 h4
 exact ⟨h3.symm,h4.symm⟩
theorem RdI.more {bs : List UInt8} {k : Nat} {s s' : Sg} (h : RdI bs k s) (he : (Fm.nextF (bs.drop k)).2.2 = 0) (ht : take s (Fm.nextF (bs.drop k)).1 = some s') : RdI bs (k + (Fm.nextF (bs.drop k)).2.1) s' := by
 obtain ⟨f,h1,h2,h3,h4⟩ := h
 obtain ⟨q,rfl⟩ : ∃ q,f = q + 1 := ⟨f - 1,by omega⟩
 obtain ⟨a,b,_⟩ := Fm.next_ok he
 rw [List.length_drop] at b
 rw [readF,if_neg (by rw [he]; exact fun z => z rfl),ht] at h3 h4
 simp only [List.drop_drop] at h3 h4
 exact ⟨q,by omega,by omega,h3,by omega⟩
theorem blk_new (w : World) (ty : TypeId) (r : Hd.T) (b c : Bool) : Blk (w.alloc (.cells (cel r b c).toArray ty)) w.heap.size 0 ty [] [] r b c := ⟨rfl,by
 rw [List.nil_append,List.append_nil]
 exact heap_alloc_new w _⟩
theorem Blk.obj {w : World} {g : Nat} {ty : TypeId} {r : Hd.T} {b c : Bool} (h : Blk w g 0 ty [] [] r b c) : w.heap[g]? = some (.cells (cel r b c).toArray ty (0,0)) := by
 have := h.2
 rw [List.nil_append,List.append_nil] at this
 exact this
theorem sgInfo : (Tryz.prog.info? 79).map (·.size) = some 9 := by kernel_rfl
theorem results_sg {fn : Func} {p q : Tmp} (hf : fn.results = #[.cell p 79,.tmp q]) {tmps : Array Value} {w : World} {g : Nat} {r : Hd.T} {b c : Bool} (hp : tmps.getD p undef = .pointer (some ⟨g,0,none⟩))
  (hk : Blk w g 0 79 [] [] r b c) : (results fn tmps).run Tryz.prog w = .ok (.tuple #[.agg (cel r b c).toArray,tmps.getD q undef]) w := by
 have hp' : tmps[p]?.getD undef = .pointer (some ⟨g,0,none⟩) := by simpa using hp
 have e1 := run_loadVar_row (P := Tryz.prog) w g 79 79 (cel r b c).toArray (0,0) _ hk.obj Tryz.underlying79 rfl (by rw [sgInfo]; rfl)
 simp [results,hf,hp',asAddr,e1]
def lay9 (w : World) (g o : Nat) (r : Hd.T) (b c : Bool) : World := ((lay w g o r).setCell ⟨g,o + 7,none⟩ (.bool b)).setCell ⟨g,o + 8,none⟩ (.bool c)
theorem Blk.lay9 {w : World} {g o : Nat} {ty : TypeId} {pre post : List Value} {r : Hd.T} {b c : Bool} (h : Blk w g o ty pre post r b c) (x : Hd.T) (b' c' : Bool) : Blk (lay9 w g o x b' c') g o ty pre post x b' c' :=
 ((h.lay x).set (b' := b') (c' := c) (r' := x) 7 (by omega) (.bool b') rfl).set (r' := x) 8 (by omega) (.bool c') rfl
theorem lay9_upd (w : World) (g o : Nat) (x : Hd.T) (b c : Bool) : UpdQ (fun q => q = g) w (lay9 w g o x b c) := ((lay_upd w g o x).trans (upd_set _ g _ _)).trans (upd_set _ g _ _)
theorem nextF_big {f : List UInt8} (h : (Fm.nextF f).2.2 = 0) : (Fm.nextF f).1.length ≤ 1000000000 ∧ 0 < (Fm.nextF f).1.length := by
 unfold Fm.nextF at h ⊢
 by_cases h1 : f.length < 4
 ·
  rw [if_pos h1] at h
  cases h
 rw [if_neg h1] at h ⊢
 by_cases h2 : Crc.le (f.take 4) = 0 ∨ 131072 < Crc.le (f.take 4)
 ·
  rw [if_pos h2] at h
  cases h
 rw [if_neg h2] at h ⊢
 by_cases h3 : f.length < Crc.le (f.take 4) + 8
 ·
  rw [if_pos h3] at h
  cases h
 rw [if_neg h3] at h ⊢
 by_cases h4 : Crc.on 0 (f.take (4 + Crc.le (f.take 4))) ≠ Crc.le ((f.drop (4 + Crc.le (f.take 4))).take 4)
 ·
  rw [if_pos h4] at h
  cases h
 rw [if_neg h4]
 show ((f.drop 4).take (Crc.le (f.take 4))).length ≤ _ ∧ 0 < ((f.drop 4).take (Crc.le (f.take 4))).length
 rw [List.length_take,List.length_drop]
 omega
set_option maxHeartbeats 4000000 in
theorem wl_read (ao : Option Addr) (n cap : Nat) (bs : List UInt8) (w : World) (hB : By.Ls w ao n cap bs) (hn : n ≤ 140737488355328) :
  Calls Tryz.prog 88 #[.slice ao n cap] w (ReadE w bs) := by
 have HB := Lib.hid hB
 have hbl : bs.length ≤ 140737488355328 := by
  have := hB.len
  omega
 have HN := Lib.hid hB.len
 obtain ⟨W1,hW1⟩ : ∃ W1,w.alloc (.cells #[.int .i64 0,.int .i64 0,.int .i64 0,.int .i64 0,.int .i64 0,.string ⟨#[]⟩,.slice none 0 0,.bool false,.bool false] 79) = W1 := ⟨_,rfl⟩
 have hb1 : Below w.heap.size w W1 := hW1 ▸ (Below.refl _ _).alloc (Nat.le_refl _) _
 have hs1 : W1.heap.size = w.heap.size + 1 := by rw [← hW1]; simp
 have hk1 : Blk W1 w.heap.size 0 79 [] [] ⟨0,0,0,0,0,⟨#[]⟩,⟨none,0,0⟩⟩ false false := hW1 ▸ blk_new w 79 ⟨0,0,0,0,0,⟨#[]⟩,⟨none,0,0⟩⟩ false false
 have HB1 := Lib.hid hb1
 have HK1 := Lib.hid hk1
 clear hB hb1 hk1
 go_enter Tryz.func88,Tryz.ntmps88
 go_wp2_with (go_at_call 40; refine (wl_empty _).mono ?_; rintro e w2 ⟨rfl,b2⟩; have HB2 := Lib.hid b2; clear b2)
 have HS0 : Hid (In (fun b => W1.heap.size ≤ b) (w2.alloc (.cells (cel (row empty.h ⟨none,0,0⟩) false false).toArray 79)) w2.heap.size 0 79 [] [] empty) := Lib.hid ⟨_,(vl_empty _ _).seg (blk_new w2 _ _ _ _) HB2.out.size fun b e => (by cases e)⟩
 have HB3 : Hid (∀ q,Below W1.heap.size W1 (w2.alloc q)) := Lib.hid fun q => bchain HB2.out ((Below.refl _ _).alloc (Nat.le_refl _) q)
 obtain ⟨g,hg⟩ : ∃ g,w2.heap.size = g := ⟨_,rfl⟩
 have HG : Hid (W1.heap.size ≤ g) := Lib.hid (hg ▸ HB2.out.size)
 rw [hg] at HS0 ⊢
 have HM1 := Lib.hid hs1
 clear hs1 hW1 hg
 go_loopw [5] (fun i wr => ∃ (k : Nat) (s : Sg),i = .int .i64 k ∧ Hid (RdI bs k s) ∧ Hid (In (fun b => W1.heap.size ≤ b) wr g 0 79 [] [] s) ∧ Hid (Below W1.heap.size W1 wr)) (fun i _ => n - (intOf i).toNat)
 case atStart => exact ⟨0,empty,rfl,Lib.hid (rdI_start bs),HS0,Lib.hid (HB3.out _)⟩
 case round =>
  clear HS0 HB3 HB2
  rename World => wz
  obtain ⟨k,s,rfl,HI,HS,HW⟩ := hrel
  have hkn : k ≤ n := by
   obtain ⟨f,_,h2,_⟩ := HI.out
   have := HN.out
   omega
  have CN := Lib.hid (fm_next ao n cap bs (k : Int) wz (HB.out.below (bchain HB1.out HW.out)) (by omega) ⟨by omega,by omega⟩)
  have HFin : Hid (∀ u,Below W1.heap.size W1 u → In (fun b => W1.heap.size ≤ b) u g 0 79 [] [] s → ((Fm.nextF (bs.drop k)).2.2 ≠ 0 ∨ take s (Fm.nextF (bs.drop k)).1 = none) → ∃ v,(Seg (fun b => W1.heap.size ≤ b) u g 0 79 [] [] v s ∧ Blk u w.heap.size 0 79 [] [] ⟨0,0,0,0,0,⟨#[]⟩,⟨none,0,0⟩⟩ false false) ∧ Blk (lay9 u w.heap.size 0 (row s.h v) s.begun s.ready) w.heap.size 0 79 [] [] (row s.h v) s.begun s.ready ∧ ReadE w bs (.returned (.tuple #[val v s,.int .i64 (k : Int)])) (lay9 u w.heap.size 0 (row s.h v) s.begun s.ready)) := Lib.hid fun u hu ⟨v,hv⟩ he => by
   obtain ⟨e1,e2⟩ := HI.out.stop he
   have hkb := HK1.out.below hu
   have hup := lay9_upd u w.heap.size 0 (row s.h v) s.begun s.ready
   have hm := HM1.out
   refine ⟨v,⟨hv,hkb⟩,hkb.lay9 _ _ _,v,by rw [e1,e2],?_,hup.below w (bchain HB1.out hu) fun b z => by omega⟩
   rw [e1]
   exact (hv.vl.keep hup fun b z1 z2 => by omega).mono fun b z => by omega
  go_wp2_with fail
  refine CN.out.mono ?_
  rintro e w3 ⟨b3,⟨z,_⟩ | ⟨k',hk',hk2,⟨he,rfl⟩ | ⟨he,gp,hgp,hblk,rfl⟩⟩⟩
  ·
   have := HN.out
   omega
  ·
   obtain rfl : k = k' := by omega
   obtain ⟨er,her⟩ : ∃ er,(Fm.nextF (bs.drop k)).2.2 = er := ⟨_,rfl⟩
   obtain ⟨v,⟨hv,hkb⟩,hl9,hfin⟩ := HFin.out w3 (bchain HW.out b3) (HS.out.below b3) (.inl he)
   rw [her] at he ⊢
   have qe : ((er : Int) != 0) = true := bne_iff_ne.2 (by omega)
   have HL9 := Lib.hid hl9
   have HFn := Lib.hid hfin
   obtain ⟨c0,c1,c2,c3,c4,c5,c6,c7,c8⟩ := hv.blk.cells
   obtain ⟨d0,d1,d2,d3,d4,d5,d6,d7,d8⟩ := hkb.cells
   have hlt := hkb.lt
   have fz := hkb.frozen
   unfold sv at c6 d6
   unfold row at c0 c1 c2 c3 c4 c5 c6
   dsimp only at c0 c1 c2 c3 c4 c5 c6 d0 d1 d2 d3 d4 d5 d6
   clear hfin hl9 hv hkb CN HS HFin her
   go_wp2_with fail
   exact bodyPost_ret (results_sg Tryz.results88 rfl HL9.out) rfl HFn.out
  ·
   obtain rfl : k = k' := by omega
   have HE := Lib.hid he
   have hbig := nextF_big he
   have HT : Hid (∀ s',take s (Fm.nextF (bs.drop k)).1 = some s' → RdI bs (k + (Fm.nextF (bs.drop k)).2.1) s' ∧ k < k + (Fm.nextF (bs.drop k)).2.1 ∧ k + (Fm.nextF (bs.drop k)).2.1 ≤ n) := Lib.hid fun s' ht => by
    have h1 := HI.out.more he ht
    obtain ⟨a,b,_⟩ := Fm.next_ok he
    obtain ⟨f,_,h2,_⟩ := h1
    have := HN.out
    exact ⟨HI.out.more he ht,by omega,by omega⟩
   have HW3 := Lib.hid (bchain HW.out b3)
   have HS3 := Lib.hid (HS.out.below b3)
   obtain ⟨pl,hpl⟩ : ∃ pl,(Fm.nextF (bs.drop k)).1 = pl := ⟨_,rfl⟩
   obtain ⟨ad,had⟩ : ∃ ad,(Fm.nextF (bs.drop k)).2.1 = ad := ⟨_,rfl⟩
   rw [hpl] at hblk hbig HFin HT ⊢
   rw [had] at HT ⊢
   obtain ⟨pn,hpn⟩ : ∃ pn,pl.length = pn := ⟨_,rfl⟩
   have hls := hblk.ls (by omega)
   rw [hpn] at hls hbig ⊢
   have CT := Lib.hid (sg_take HS3.out (some ⟨gp,0,none⟩) pn pn pl hls (by omega))
   clear hblk hls hpl had hpn HS CN HE he
   cases ht : take s pl
   ·
    rw [ht] at CT
    have HFin2 := Lib.hid fun u hu hi => HFin.out u hu hi (.inr ht)
    clear HFin ht HT
    go_wp2_with fail
    refine CT.out.mono ?_
    rintro e w4 ⟨rfl,h4,u4⟩
    obtain ⟨v,⟨hv,hkb⟩,hl9,hfin⟩ := HFin2.out w4 (u4.below W1 HW3.out fun b z => z) (h4.mono fun b z => z.elim id fun z => Nat.le_trans HW3.out.size z)
    have HL9 := Lib.hid hl9
    have HFn := Lib.hid hfin
    obtain ⟨c0,c1,c2,c3,c4,c5,c6,c7,c8⟩ := hv.blk.cells
    obtain ⟨d0,d1,d2,d3,d4,d5,d6,d7,d8⟩ := hkb.cells
    have hlt := hkb.lt
    have fz := hkb.frozen
    unfold sv at c6 d6
    unfold row at c0 c1 c2 c3 c4 c5 c6
    dsimp only at c0 c1 c2 c3 c4 c5 c6 d0 d1 d2 d3 d4 d5 d6
    clear hfin hl9 hv hkb CT HFin2 h4 u4 HS3
    go_wp2_with fail
    exact bodyPost_ret (results_sg Tryz.results88 rfl HL9.out) rfl HFn.out
   ·
    rename_i s'
    rw [ht] at CT
    have HT2 := Lib.hid (HT.out s' ht)
    clear HFin ht HT
    have hkad : k + ad ≤ n := HT2.out.2.2
    have hkad2 : k < k + ad := HT2.out.2.1
    go_wp2_with fail
    refine CT.out.mono ?_
    rintro e w4 ⟨rfl,h4,u4⟩
    have HB4 := Lib.hid (u4.below W1 HW3.out fun b z => z)
    have HS4 : Hid (In (fun b => W1.heap.size ≤ b) w4 g 0 79 [] [] s') := Lib.hid (h4.mono fun b z => z.elim id fun z => Nat.le_trans HW3.out.size z)
    clear CT h4 u4 HS3
    go_wp2_with fail
    go_roundw
    case rel => exact ⟨k + ad,s',rfl,Lib.hid HT2.out.1,HS4,HB4⟩
    case measure => simp [intOf]; omega
end Go.Proofs.YtlmjeackfepllaaGreatDoor.Wl
namespace Go.Proofs.YtlmjeackfepllaaGreatDoor.Wl
open Pk
theorem frame_size (p : List UInt8) : (Fm.frame p).length = p.length + 8 := by
 unfold Fm.frame
 rw [List.length_append,List.length_append,Fm.four_len,Fm.four_len]
 omega
def PayOk (p : List UInt8) : Prop := 1 ≤ p.length ∧ p.length ≤ 131072
theorem take4 {p tl : List UInt8} : (Fm.frame p ++ tl).take 4 = Crc.four p.length := by
 unfold Fm.frame
 rw [List.append_assoc,List.append_assoc]
 exact List.take_left' rfl
theorem le4 {p : List UInt8} (h : PayOk p) : Crc.le (Crc.four p.length) = p.length := Crc.le_four _ (by have := h.2; omega)
theorem takeN {p tl : List UInt8} : (Fm.frame p ++ tl).take (4 + p.length) = Crc.four p.length ++ p := by
 unfold Fm.frame
 rw [List.append_assoc]
 exact List.take_left' (by rw [List.length_append,Fm.four_len])
theorem dropN {p tl : List UInt8} : (Fm.frame p ++ tl).drop (4 + p.length) = Crc.four (Crc.on 0 (Crc.four p.length ++ p)) ++ tl := by
 unfold Fm.frame
 rw [List.append_assoc]
 exact List.drop_left' (by rw [List.length_append,Fm.four_len])
theorem drop4 {p tl : List UInt8} : ((Fm.frame p ++ tl).drop 4).take p.length = p := by
 unfold Fm.frame
 rw [List.append_assoc,List.append_assoc,List.drop_left' (Fm.four_len _)]
 exact List.take_left' rfl
theorem on0_lt (l : List UInt8) : Crc.on 0 l < 4294967296 := Crc.on_lt 0 l (by omega)
theorem next_frame {p : List UInt8} (h : PayOk p) (tl : List UInt8) : Fm.nextF (Fm.frame p ++ tl) = (p,p.length + 8,0) := by
 have hl : (Fm.frame p ++ tl).length = p.length + 8 + tl.length := by rw [List.length_append,frame_size]
 obtain ⟨h1,h2⟩ := h
 unfold Fm.nextF
 rw [take4,le4 ⟨h1,h2⟩,takeN,dropN,if_neg (by omega),if_neg (by omega),if_neg (by omega),List.take_left' (Fm.four_len _),Crc.le_four _ (on0_lt _),if_neg (fun z => z rfl),drop4]
theorem next_back {f : List UInt8} (h : (Fm.nextF f).2.2 = 0) : PayOk (Fm.nextF f).1 ∧ f = Fm.frame (Fm.nextF f).1 ++ f.drop (Fm.nextF f).2.1 ∧ (Fm.nextF f).2.1 = (Fm.frame (Fm.nextF f).1).length := by
 unfold Fm.nextF at h ⊢
 by_cases h1 : f.length < 4
 ·
  rw [if_pos h1] at h
  cases h
 rw [if_neg h1] at h ⊢
 by_cases h2 : Crc.le (f.take 4) = 0 ∨ 131072 < Crc.le (f.take 4)
 ·
  rw [if_pos h2] at h
  cases h
 rw [if_neg h2] at h ⊢
 by_cases h3 : f.length < Crc.le (f.take 4) + 8
 ·
  rw [if_pos h3] at h
  cases h
 rw [if_neg h3] at h ⊢
 by_cases h4 : Crc.on 0 (f.take (4 + Crc.le (f.take 4))) ≠ Crc.le ((f.drop (4 + Crc.le (f.take 4))).take 4)
 ·
  rw [if_pos h4] at h
  cases h
 rw [if_neg h4]
 obtain ⟨n,hn⟩ : ∃ n,Crc.le (f.take 4) = n := ⟨_,rfl⟩
 rw [hn] at h2 h3 h4 ⊢
 dsimp only
 have hp : ((f.drop 4).take n).length = n := by rw [List.length_take,List.length_drop]; omega
 have e4 : Crc.four n = f.take 4 := by rw [← hn]; exact Crc.four_le _ (by rw [List.length_take]; omega)
 have e5 : f.take (4 + n) = f.take 4 ++ (f.drop 4).take n := List.take_add
 have h5 : Crc.on 0 (f.take (4 + n)) = Crc.le ((f.drop (4 + n)).take 4) := Decidable.not_not.1 h4
 have e6 : Crc.four (Crc.on 0 (f.take (4 + n))) = (f.drop (4 + n)).take 4 := by
  rw [h5]
  exact Crc.four_le _ (by rw [List.length_take,List.length_drop]; omega)
 refine ⟨⟨by omega,by omega⟩,?_,by rw [frame_size,hp]⟩
 unfold Fm.frame
 rw [hp,e4,← e5,e6]
 conv => lhs; rw [← List.take_append_drop (4 + n) f,← List.take_append_drop 4 (f.drop (4 + n))]
 rw [List.drop_drop,List.append_assoc,show 4 + n + 4 = n + 8 by omega]
theorem readF_fuel : ∀ (k j : Nat) (s : Sg) (bs : List UInt8),bs.length < k → bs.length < j → readF k s bs = readF j s bs
 | 0,_,_,_,h,_ => absurd h (Nat.not_lt_zero _)
 | _ + 1,0,_,_,_,h => absurd h (Nat.not_lt_zero _)
 | k + 1,j + 1,s,bs,h,g => by
  rw [readF,readF]
  by_cases z : (Fm.nextF bs).2.2 ≠ 0
  · rw [if_pos z,if_pos z]
  ·
   rw [if_neg z,if_neg z]
   cases take s (Fm.nextF bs).1 with
   | none => rfl
   | some s' =>
    obtain ⟨a,b,_⟩ := Fm.next_ok (Decidable.not_not.1 z)
    have hl : (bs.drop (Fm.nextF bs).2.1).length < bs.length := by rw [List.length_drop]; omega
    dsimp only
    rw [readF_fuel k j s' (bs.drop (Fm.nextF bs).2.1) (by omega) (by omega)]
def rd (s : Sg) (bs : List UInt8) : Sg × Nat := readF (bs.length + 1) s bs
theorem read_rd (bs : List UInt8) : read bs = rd empty bs := rfl
theorem rd_stop {s : Sg} {bs : List UInt8} (h : (Fm.nextF bs).2.2 ≠ 0) : rd s bs = (s,0) := by
 unfold rd
 rw [readF,if_pos h]
theorem rd_no {s : Sg} {bs : List UInt8} (h : (Fm.nextF bs).2.2 = 0) (k : take s (Fm.nextF bs).1 = none) : rd s bs = (s,0) := by
 unfold rd
 rw [readF,if_neg (fun z => z h),k]
theorem rd_go {s s' : Sg} {bs : List UInt8} (h : (Fm.nextF bs).2.2 = 0) (k : take s (Fm.nextF bs).1 = some s') :
  rd s bs = ((rd s' (bs.drop (Fm.nextF bs).2.1)).1,(Fm.nextF bs).2.1 + (rd s' (bs.drop (Fm.nextF bs).2.1)).2) := by
 obtain ⟨a,b,_⟩ := Fm.next_ok h
 unfold rd
 rw [readF,if_neg (fun z => z h),k]
 dsimp only
 rw [readF_fuel bs.length ((bs.drop (Fm.nextF bs).2.1).length + 1) s' _ (by rw [List.length_drop]; omega) (by omega)]
def takes (s : Sg) : List (List UInt8) → Option Sg
 | [] => some s
 | p :: l => (take s p).bind fun s' => takes s' l
theorem takes_cons {s s' : Sg} {p : List UInt8} {l : List (List UInt8)} (h : takes s (p :: l) = some s') : ∃ m,take s p = some m ∧ takes m l = some s' := by
 unfold takes at h
 cases e : take s p with
 | none => rw [e] at h; cases h
 | some m => rw [e] at h; exact ⟨m,rfl,h⟩
theorem takes_app : ∀ (l m : List (List UInt8)) (s : Sg),takes s (l ++ m) = (takes s l).bind fun s' => takes s' m
 | [],m,s => rfl
 | p :: l,m,s => by
  rw [List.cons_append,takes,takes]
  cases take s p with
  | none => rfl
  | some s' => exact takes_app l m s'
theorem frames_cat : ∀ l m : List (List UInt8),frames (l ++ m) = frames l ++ frames m
 | [],m => rfl
 | p :: l,m => by rw [List.cons_append,frames,frames,frames_cat l m,List.append_assoc]
theorem rd_frame {s s' : Sg} {p : List UInt8} (hp : PayOk p) (h : take s p = some s') (tl : List UInt8) : rd s (Fm.frame p ++ tl) = ((rd s' tl).1,(Fm.frame p).length + (rd s' tl).2) := by
 have hn := next_frame hp tl
 rw [rd_go (s' := s') (by rw [hn]) (by rw [hn]; exact h),hn]
 dsimp only
 rw [← frame_size,List.drop_left' rfl]
theorem rd_frames : ∀ (ps : List (List UInt8)) (s s' : Sg),(∀ p ∈ ps,PayOk p) → takes s ps = some s' → ∀ tl,rd s (frames ps ++ tl) = ((rd s' tl).1,(frames ps).length + (rd s' tl).2)
 | [],s,s',_,h,tl => by
  cases h
  show rd s tl = ((rd s tl).1,0 + (rd s tl).2)
  rw [Nat.zero_add]
 | p :: l,s,s',hp,h,tl => by
  obtain ⟨m,h1,h2⟩ := takes_cons h
  rw [frames,List.append_assoc,rd_frame (hp p (List.mem_cons_self ..)) h1,rd_frames l m s' (fun q hq => hp q (List.mem_cons_of_mem _ hq)) h2 tl,List.length_append]
  dsimp only
  rw [Nat.add_assoc]
theorem rd_nil (s : Sg) : rd s [] = (s,0) := rd_stop (by decide)
theorem rd_all {ps : List (List UInt8)} {s s' : Sg} (hp : ∀ p ∈ ps,PayOk p) (h : takes s ps = some s') : rd s (frames ps) = (s',(frames ps).length) := by
 have := rd_frames ps s s' hp h []
 rw [List.append_nil,rd_nil] at this
 exact this
theorem rd_split (n : Nat) : ∀ (bs : List UInt8) (s : Sg),bs.length ≤ n → ∃ ps,(∀ p ∈ ps,PayOk p) ∧ takes s ps = some (rd s bs).1 ∧ (frames ps).length = (rd s bs).2 ∧ bs = frames ps ++ bs.drop (rd s bs).2 ∧ rd (rd s bs).1 (bs.drop (rd s bs).2) = ((rd s bs).1,0) := by
 induction n with
 | zero =>
  intro bs s h
  have : bs = [] := List.length_eq_zero_iff.1 (by omega)
  subst this
  rw [rd_nil]
  exact ⟨[],fun p hp => (by cases hp),rfl,rfl,rfl,rd_nil s⟩
 | succ n ih =>
  intro bs s h
  by_cases z : (Fm.nextF bs).2.2 = 0
  ·
   cases k : take s (Fm.nextF bs).1 with
   | none =>
    have e := rd_no z k
    rw [e]
    exact ⟨[],fun p hp => (by cases hp),rfl,rfl,rfl,e⟩
   | some s' =>
    obtain ⟨a,b,_⟩ := Fm.next_ok z
    obtain ⟨h1,h2,h3⟩ := next_back z
    obtain ⟨ps,i1,i2,i3,i4,i5⟩ := ih (bs.drop (Fm.nextF bs).2.1) s' (by rw [List.length_drop]; omega)
    have e := rd_go z k
    rw [e]
    dsimp only
    rw [← List.drop_drop]
    refine ⟨(Fm.nextF bs).1 :: ps,?_,?_,?_,?_,i5⟩
    ·
     intro p hp
     rcases List.mem_cons.1 hp with rfl | hp
     · exact h1
     · exact i1 p hp
    ·
     rw [takes,k]
     exact i2
    · rw [frames,List.length_append,i3,h3]
    ·
     rw [frames,List.append_assoc,← i4]
     exact h2
  ·
   have e := rd_stop (s := s) z
   rw [e]
   exact ⟨[],fun p hp => (by cases hp),rfl,rfl,rfl,e⟩
theorem xor255 (x : UInt8) : (x ^^^ 255).toNat + x.toNat = 255 := by
 have h : ∀ n : Fin 256,((n.val ^^^ 255) % 256) + n.val = 255 := by decide +kernel
 have := h ⟨x.toNat,x.toNat_lt⟩
 have e : (x ^^^ 255).toNat = x.toNat ^^^ 255 := rfl
 have hb : x.toNat ^^^ 255 < 256 := Nat.xor_lt_two_pow (n := 8) x.toNat_lt (by decide)
 rw [Nat.mod_eq_of_lt hb] at this
 rw [e]
 exact this
theorem flip_len (b : List UInt8) : (Dk.flip b).length = b.length := by unfold Dk.flip; rw [List.length_set]
theorem flip_app (a b : List UInt8) (h : b ≠ []) : Dk.flip (a ++ b) = a ++ Dk.flip b := by
 unfold Dk.flip
 have hb : 0 < b.length := List.length_pos_iff.2 h
 rw [List.length_append,show a.length + b.length - 1 = a.length + (b.length - 1) by omega,List.set_append_right _ _ (by omega),Nat.add_sub_cancel_left,List.getLast?_append,List.getLast?_eq_some_getLast h]
 rfl
theorem flip_take (b : List UInt8) (k : Nat) (h : k < b.length) : (Dk.flip b).take k = b.take k := by
 unfold Dk.flip
 rw [List.take_set_of_le (by omega)]
def torn (k : Nat) (fl : Bool) (F : List UInt8) : List UInt8 := if fl = true then Dk.flip (F.take k) else F.take k
theorem torn_len (k : Nat) (fl : Bool) (F : List UInt8) : (torn k fl F).length = min k F.length := by
 unfold torn
 split
 · rw [flip_len,List.length_take]
 · rw [List.length_take]
theorem next_torn {p : List UInt8} (hp : PayOk p) (k : Nat) (fl : Bool) (tl : List UInt8) (h : k < p.length + 8 ∨ k = p.length + 8 ∧ fl = true) : (Fm.nextF (torn k fl (Fm.frame p ++ tl))).2.2 ≠ 0 := by
 obtain ⟨p1,p2⟩ := hp
 have hF : (Fm.frame p ++ tl).length = p.length + 8 + tl.length := by rw [List.length_append,frame_size]
 have hl : (torn k fl (Fm.frame p ++ tl)).length = k := by
  rw [torn_len,hF]
  omega
 obtain ⟨f,hf⟩ : ∃ f,torn k fl (Fm.frame p ++ tl) = f := ⟨_,rfl⟩
 rw [hf] at hl ⊢
 by_cases h4 : k < 4
 ·
  unfold Fm.nextF
  rw [if_pos (by omega)]
  exact fun z => by cases z
 have t4 : ∀ j,j < k → f.take j = (Fm.frame p ++ tl).take j := fun j hj => by
  rw [← hf]
  unfold torn
  split
  · rw [flip_take _ _ (by rw [List.length_take,hF]; omega),List.take_take,Nat.min_eq_left (by omega)]
  · rw [List.take_take,Nat.min_eq_left (by omega)]
 by_cases h5 : 4 < k
 ·
  have e4 : f.take 4 = Crc.four p.length := (t4 4 h5).trans take4
  unfold Fm.nextF
  rw [e4,le4 ⟨p1,p2⟩,if_neg (by omega),if_neg (by omega)]
  by_cases h6 : k < p.length + 8
  ·
   rw [if_pos (by omega)]
   exact fun z => by cases z
  ·
   obtain ⟨hk,hfl⟩ := h.resolve_left h6
   rw [if_neg (by omega),if_pos ?_]
   · exact fun z => by cases z
   ·
    rw [(t4 (4 + p.length) (by omega)).trans takeN]
    obtain ⟨c,hc⟩ : ∃ c,Crc.on 0 (Crc.four p.length ++ p) = c := ⟨_,rfl⟩
    have hcl := on0_lt (Crc.four p.length ++ p)
    rw [hc] at hcl ⊢
    have e5 : f = (Crc.four p.length ++ p) ++ Dk.flip (Crc.four c) := by
     rw [← hf]
     unfold torn
     rw [if_pos hfl,List.take_left' (by rw [frame_size,hk])]
     unfold Fm.frame
     rw [flip_app _ _ (by unfold Crc.four; simp),hc]
    have e6 : f.drop (4 + p.length) = Dk.flip (Crc.four c) := by
     rw [e5]
     exact List.drop_left' (by rw [List.length_append,Fm.four_len])
    rw [e6,List.take_of_length_le (by rw [flip_len,Fm.four_len]; omega)]
    have e7 := Crc.le_four c hcl
    unfold Crc.four at e7 ⊢
    unfold Dk.flip
    simp only [List.length_cons,List.length_nil,List.getLast?_cons_cons,List.getLast?_singleton,Option.getD_some,Nat.reduceAdd,Nat.reduceSub,List.set_cons_succ,List.set_cons_zero]
    have hx := xor255 (UInt8.ofNat (c / 16777216))
    simp only [Crc.le] at e7 ⊢
    omega
 ·
  obtain rfl : k = 4 := by omega
  unfold Fm.nextF
  rw [List.take_of_length_le (by omega),if_neg (by omega)]
  by_cases hfl : fl = true
  ·
   have e5 : f = Dk.flip (Crc.four p.length) := by
    rw [← hf]
    unfold torn
    rw [if_pos hfl,take4]
   have hbig : 131072 < Crc.le f := by
    rw [e5]
    have hx := xor255 (UInt8.ofNat (p.length / 16777216))
    have hz : (UInt8.ofNat (p.length / 16777216)).toNat = 0 := by
     rw [UInt8.toNat_ofNat',Nat.div_eq_of_lt (by omega)]
    unfold Crc.four Dk.flip
    simp only [List.length_cons,List.length_nil,List.getLast?_cons_cons,List.getLast?_singleton,Option.getD_some,Nat.reduceAdd,Nat.reduceSub,List.set_cons_succ,List.set_cons_zero]
    simp only [Crc.le]
    omega
   rw [if_pos (.inr hbig)]
   exact fun z => by cases z
  ·
   have e5 : f = Crc.four p.length := by
    rw [← hf]
    unfold torn
    rw [if_neg hfl,take4]
   rw [e5,le4 ⟨p1,p2⟩,if_neg (by omega),if_pos (by rw [Fm.four_len]; omega)]
   exact fun z => by cases z
theorem torn_nil (k : Nat) (fl : Bool) : torn k fl [] = [] := by
 unfold torn Dk.flip
 simp
theorem torn_app (a b : List UInt8) (k : Nat) (fl : Bool) (h : a.length < k ∨ a.length = k ∧ fl = false) (hk : k ≤ a.length + b.length) : torn k fl (a ++ b) = a ++ torn (k - a.length) fl b := by
 unfold torn
 rcases h with h | ⟨h,hf⟩
 ·
  rw [List.take_append,List.take_of_length_le (by omega)]
  split
  ·
   refine flip_app _ _ fun e => ?_
   have := congrArg List.length e
   rw [List.length_take,List.length_nil] at this
   omega
  · rfl
 · rw [if_neg (by rw [hf]; simp),if_neg (by rw [hf]; simp),List.take_append,List.take_of_length_le (by omega)]
theorem rd_torn : ∀ (ps : List (List UInt8)) (s s' : Sg),(∀ p ∈ ps,PayOk p) → takes s ps = some s' → ∀ (k : Nat) (fl : Bool),k ≤ (frames ps).length → ∃ j sj,j ≤ ps.length ∧ takes s (ps.take j) = some sj ∧ rd s (torn k fl (frames ps)) = (sj,(frames (ps.take j)).length)
 | [],s,s',_,h,k,fl,_ => by
  refine ⟨0,s,Nat.le_refl _,rfl,?_⟩
  show rd s (torn k fl []) = (s,0)
  rw [torn_nil,rd_nil]
 | p :: l,s,s',hp,h,k,fl,hk => by
  have hp1 := hp p (List.mem_cons_self ..)
  obtain ⟨m,h1,h2⟩ := takes_cons h
  rw [frames,List.length_append,frame_size] at hk
  by_cases hc : k < p.length + 8 ∨ k = p.length + 8 ∧ fl = true
  · exact ⟨0,s,Nat.zero_le _,rfl,rd_stop (next_torn hp1 k fl _ hc)⟩
  ·
   have hc' : (Fm.frame p).length < k ∨ (Fm.frame p).length = k ∧ fl = false := by
    rw [frame_size]
    rcases Nat.lt_trichotomy k (p.length + 8) with z | z | z
    · exact absurd (.inl z) hc
    ·
     refine .inr ⟨z.symm,?_⟩
     cases fl
     · rfl
     · exact absurd (.inr ⟨z,rfl⟩) hc
    · exact .inl z
   obtain ⟨j,sj,i1,i2,i3⟩ := rd_torn l m s' (fun q hq => hp q (List.mem_cons_of_mem _ hq)) h2 (k - (Fm.frame p).length) fl (by rw [frame_size]; omega)
   refine ⟨j + 1,sj,by rw [List.length_cons]; omega,?_,?_⟩
   ·
    rw [List.take_succ_cons,takes,h1]
    exact i2
   · rw [frames,torn_app _ _ _ _ hc' (by rw [frame_size]; omega),rd_frame hp1 h1,i3,List.take_succ_cons,frames,List.length_append]
end Go.Proofs.YtlmjeackfepllaaGreatDoor.Wl
namespace Go.Proofs.YtlmjeackfepllaaGreatDoor
open Go.ChangeShapes Go.WideShapes Go.ChangeAt Go.RowKit
theorem cellsOfI : Tryz.prog.cellsOf 3 = 1 := by kernel_rfl
theorem bytesOfI : Tryz.prog.bytesOf 3 = 8 := by kernel_rfl
structure Ints (w : World) (ao : Option Addr) (n cap : Nat) (zs : List Int) : Prop where
 len : n = zs.length
 fits : n ≤ cap
 reach : cap ≤ 140737488351232
 seg : zs = [] ∨ ∃ b off,ao = some ⟨b,off,none⟩ ∧ ∀ k (hk : k < zs.length),w.cell? ⟨b,off + k,none⟩ = some (.int .i64 zs[k])
 wf : ∀ z ∈ zs,Fit z
theorem Ints.at {w : World} {ao : Option Addr} {n cap : Nat} {zs : List Int} (h : Ints w ao n cap zs) (k : Nat) (hk : k < n) : ∃ b off z,ao = some ⟨b,off,none⟩ ∧ w.cell? ⟨b,off + k,none⟩ = some (.int .i64 z) ∧ Fit z := by
 have hk' : k < zs.length := h.len ▸ hk
 rcases h.seg with e | ⟨b,off,e,hc⟩
 ·
  rw [e] at hk'
  simp at hk'
 · exact ⟨b,off,zs[k],e,hc k hk',h.wf _ (List.getElem_mem hk')⟩
theorem ints_in {H : Type} {enc : TypeId × Value → H} {W : World} {ao : Option Addr} {n cap : Nat} {d : DataW H} {p : List MemPlace} {ts : List TypeId} {ds : List (DataW H)} (j : Nat)
  (hj : DataW.Trod enc Tryz.prog W 0 (fun _ => true) true 46 (.slice ao n cap) d p)
  (hsz : (DataW.weightsEach Tryz.prog ts ds).all (· ≤ reachBytes) = true) (ht : ts[j]? = some 46) (hd : ds[j]? = some d) : ∃ zs,Ints W ao n cap zs := by
 obtain ⟨fuel,hf⟩ := hj
 rcases open_ints Tryz.underlying46 Tryz.underlying3 cellsOfI hf with ⟨hcs,_⟩ | ⟨x,l,c,zs,hcs,_,hl,hm,hz,hx,hcell,hwz⟩
 ·
  simp [Value.cells] at hcs
  obtain ⟨rfl,rfl,rfl⟩ := hcs
  exact ⟨[],rfl,by omega,by omega,.inl rfl,by simp⟩
 ·
  simp [Value.cells] at hcs
  obtain ⟨rfl,rfl,rfl⟩ := hcs
  simp only [if_true] at hz
  have hd' := congrArg Prod.fst hx
  simp only at hd'
  rw [hd'] at hd
  have hr := sized_slice hsz ht hd Tryz.underlying46
  rw [bytesOfI] at hr
  simp only [lits,List.length_map,List.length_take,List.length_drop,reachBytes] at hr
  refine ⟨zs.take n,by simp; omega,hl,by omega,?_,?_⟩
  ·
   by_cases h0 : 0 < zs.length
   ·
    obtain ⟨b,off,rfl,hc⟩ := ints_at hcell h0
    refine .inr ⟨b,off,rfl,fun k hk => ?_⟩
    simp only [List.length_take] at hk
    rw [hc k (by omega),List.getElem_take]
    rw [List.getD_eq_getElem?_getD,List.getElem?_eq_getElem (by omega)]
    rfl
   ·
    refine .inl ?_
    have : zs = [] := List.length_eq_zero_iff.1 (by omega)
    simp [this]
  ·
   intro z hz
   have hw := hwz z (List.mem_of_mem_take hz)
   exact fit_in hw
end Go.Proofs.YtlmjeackfepllaaGreatDoor
namespace Go.Proofs.YtlmjeackfepllaaGreatDoor.Wl
open Go.RowKit
open Mem Pk
def nums : List Int → List UInt8
 | [] => []
 | n :: l => nm n ++ nums l
theorem nums_app : ∀ a b : List Int,nums (a ++ b) = nums a ++ nums b
 | [],_ => rfl
 | x :: l,b => by rw [List.cons_append,nums,nums,nums_app l b,List.append_assoc]
theorem nums_len : ∀ l : List Int,(nums l).length ≤ 10 * l.length
 | [] => Nat.le_refl _
 | x :: l => by
  rw [nums,List.length_append,List.length_cons]
  have := nums_len l
  have := nm_len x
  omega
theorem nums_take {l : List Int} {k : Nat} (h : k < l.length) : nums (l.take (k + 1)) = nums (l.take k) ++ nm l[k] := by
 rw [List.take_succ_eq_append_getElem h,nums_app]
 simp [nums]
def Ob (w0 w : World) (v : Value) (bs : List UInt8) : Prop := (v = .slice none 0 0 ∧ bs = []) ∨ ∃ g,v = .slice (some ⟨g,0,none⟩) bs.length bs.length ∧ By.Block w g bs ∧ w0.heap.size ≤ g
theorem Ob.ls {w0 w : World} {v : Value} {bs : List UInt8} (h : Ob w0 w v bs) (hm : bs.length ≤ 1000000000000) : ∃ ao n cap,v = .slice ao n cap ∧ By.Ls w ao n cap bs ∧ n ≤ 1000000000000 := by
 rcases h with ⟨rfl,rfl⟩ | ⟨g,rfl,hb,_⟩
 · exact ⟨none,0,0,rfl,By.ls_nil w,by omega⟩
 · exact ⟨_,_,_,rfl,hb.ls (by omega),hm⟩
def RecE (w : World) (l : List Int) (e : Ending) (w' : World) : Prop := ∃ v,e = .returned v ∧ Ob w w' v (nums l) ∧ Below w.heap.size w w'
set_option maxHeartbeats 2000000 in
theorem wl_record (ao : Option Addr) (n cap : Nat) (l : List Int) (w : World) (hI : Ints w ao n cap l) (hl : l.length ≤ 1000) :
  Calls Tryz.prog 130 #[.slice ao n cap] w (RecE w l) := by
 have HI := Lib.hid hI
 have hf := hI.fits
 have hr := hI.reach
 have HN := Lib.hid hI.len
 have hn : n ≤ 1000 := by
  have := hI.len
  omega
 clear hI
 go_enter Tryz.func130,Tryz.ntmps130
 go_wp2
 go_loopw [3,8] (fun t i wr => ∃ k : Nat,k ≤ n ∧ i = .int .i64 k ∧ Hid (Ob w wr t (nums (l.take k))) ∧ Hid (Below w.heap.size w wr)) (fun _ i _ => n - (intOf i).toNat)
 case atStart => exact ⟨0,by omega,rfl,Lib.hid (.inl ⟨rfl,rfl⟩),Lib.hid (Below.refl _ _)⟩
 case round =>
  rename World => wz
  obtain ⟨k,hk,rfl,HO,HB⟩ := hrel
  obtain ⟨to,tn,tc,rfl,hT,htn⟩ := HO.out.ls (by have := nums_len (l.take k); rw [List.length_take] at this; omega)
  by_cases hlt : k < n
  ·
   have hkl : k < l.length := HN.out ▸ hlt
   obtain ⟨b,off,z,rfl,hc,hz⟩ := HI.out.at k hlt
   have hc' := ((bcell HB.out).1 _ _ (cell_lt hc)).trans hc
   have HZ : Hid (l[k] = z) := Lib.hid (by
    rcases HI.out.seg with q | ⟨b',off',q,hcs⟩
    ·
     rw [q] at hkl
     simp at hkl
    ·
     cases q
     have := hcs k hkl
     rw [hc] at this
     cases this
     rfl)
   have C := Lib.hid (pack_num (nums (l.take k)) z hz to tn tc wz hT htn)
   have HTn := Lib.hid hT.len
   clear hc hT
   go_wp2_with fail
   refine C.out.mono ?_
   rintro e w2 ⟨⟨g,rfl,hg,hb⟩,b2⟩
   have e2 : nums (l.take (k + 1)) = nums (l.take k) ++ vb (zz z) := by rw [nums_take hkl,HZ.out]; rfl
   have HO2 : Hid (Ob w w2 (.slice (some ⟨g,0,none⟩) (tn + wd (zz z)) (tn + wd (zz z))) (nums (l.take (k + 1)))) := Lib.hid (.inr ⟨g,by rw [e2,List.length_append,← HTn.out]; rfl,by rw [e2]; exact hb,Nat.le_trans HB.out.size hg⟩)
   have HB2 := Lib.hid (bchain HB.out b2)
   clear hg hb b2 e2 C
   go_wp2_with fail
   go_roundw
   case rel => exact ⟨k + 1,by omega,by go_num,HO2,HB2⟩
   case measure => simp [intOf]; omega
  ·
   obtain rfl : k = n := by omega
   have HE : Hid (Ob w wz (.slice to tn tc) (nums l)) := Lib.hid (by
    have := HO.out
    rw [List.take_of_length_le (by have := HN.out; omega)] at this
    exact this)
   clear hT HO
   go_wp2_with fail
   go_ret
   exact ⟨_,rfl,HE.out,HB.out⟩
theorem sq_row {w : World} {B : Nat} {v : Value} {xs : List (Nat × List UInt8)} (h : Sq.Own w B v xs) : ∃ ao cap,v = .slice ao xs.length cap ∧ xs.length ≤ cap ∧ cap ≤ 9223372036854775807 ∧ ∀ k (hk : k < xs.length),∃ g,ao = some ⟨g,0,none⟩ ∧ w.cell? ⟨g,k,none⟩ = some (Sq.val xs[k]) := by
 rcases h.2 with ⟨h',h2⟩ | ⟨g,cap,cur,h',hb,hg,hnc,hcm,hcs,htake⟩
 ·
  have e : xs = [] := List.length_eq_zero_iff.1 h2
  subst e
  exact ⟨none,0,h',Nat.le_refl _,by omega,fun k hk => by simp at hk⟩
 ·
  refine ⟨some ⟨g,0,none⟩,cap,h',hnc,hcm,fun k hk => ⟨g,rfl,?_⟩⟩
  rw [cell_of_row w g _ _ _ _ hg]
  have h1 : (cur.toList.take (xs.length * 1))[k]? = (xs.map Sq.val)[k]? := by rw [htake]
  rw [List.getElem?_take_of_lt (by omega),List.getElem?_map,List.getElem?_eq_getElem hk] at h1
  rw [← Array.getElem?_toList]
  exact h1
def Recs (w0 w : World) (v : Value) (ps : List (List UInt8)) : Prop := ∃ gs,Sq.Own w w0.heap.size v gs ∧ gs.map Prod.snd = ps ∧ ∀ q ∈ gs,By.Block w q.1 q.2 ∧ w0.heap.size ≤ q.1 ∧ v.ownBlock ≠ some q.1
theorem Recs.below {w0 w u : World} {v : Value} {ps : List (List UInt8)} (h : Recs w0 w v ps) (k : Below w.heap.size w u) : Recs w0 u v ps := by
 obtain ⟨gs,a,b,c⟩ := h
 exact ⟨gs,rows_keep a fun g hg => k.block g (World.ownsRow.lt a g hg).2,b,fun q hq => ⟨(c q hq).1.below k,(c q hq).2⟩⟩
theorem Recs.row {w0 w : World} {v : Value} {ps : List (List UInt8)} (h : Recs w0 w v ps) : ∃ ao cap,v = .slice ao ps.length cap ∧ ps.length ≤ cap ∧ cap ≤ 9223372036854775807 ∧ ∀ k (hk : k < ps.length),∃ g q,ao = some ⟨g,0,none⟩ ∧ w.cell? ⟨g,k,none⟩ = some (.slice (some ⟨q,0,none⟩) ps[k].length ps[k].length) ∧ By.Block w q ps[k] := by
 obtain ⟨gs,a,rfl,c⟩ := h
 obtain ⟨ao,cap,e,h1,h2,h3⟩ := sq_row a
 have hlm : (gs.map Prod.snd).length = gs.length := List.length_map _
 refine ⟨ao,cap,by rw [hlm]; exact e,by rw [hlm]; exact h1,h2,fun k hk => ?_⟩
 obtain ⟨g,e1,e2⟩ := h3 k (hlm ▸ hk)
 rw [List.getElem_map]
 exact ⟨g,gs[k].1,e1,e2,(c _ (List.getElem_mem (hlm ▸ hk : k < gs.length))).1⟩
theorem frames_app : ∀ a b : List (List UInt8),frames (a ++ b) = frames a ++ frames b
 | [],_ => rfl
 | x :: l,b => by rw [List.cons_append,frames,frames,frames_app l b,List.append_assoc]
theorem frame_len (p : List UInt8) : (Fm.frame p).length = p.length + 8 := by
 unfold Fm.frame
 rw [List.length_append,List.length_append,Fm.four_len,Fm.four_len]
 omega
theorem frames_len : ∀ ps : List (List UInt8),(∀ p ∈ ps,p.length ≤ 2000) → (frames ps).length ≤ 2008 * ps.length
 | [],_ => Nat.le_refl _
 | x :: l,h => by
  rw [frames,List.length_append,frame_len,List.length_cons]
  have := frames_len l fun p hp => h p (List.mem_cons_of_mem _ hp)
  have := h x List.mem_cons_self
  omega
theorem frames_take {l : List (List UInt8)} {k : Nat} (h : k < l.length) : frames (l.take (k + 1)) = frames (l.take k) ++ Fm.frame l[k] := by
 rw [List.take_succ_eq_append_getElem h,frames_app]
 simp [frames]
def Fine (ps : List (List UInt8)) : Prop := ps.length ≤ 1000 ∧ ∀ p ∈ ps,1 ≤ p.length ∧ p.length ≤ 2000
def FrmE (w : World) (ps : List (List UInt8)) (e : Ending) (w' : World) : Prop := ∃ v,e = .returned v ∧ By.Own w' w.heap.size v (frames ps) ∧ Below w.heap.size w w'
set_option maxHeartbeats 2000000 in
theorem wl_framed (v : Value) (ps : List (List UInt8)) (w0 w : World) (hR : Recs w0 w v ps) (hF : Fine ps) :
  Calls Tryz.prog 133 #[v] w (FrmE w ps) := by
 have HR := Lib.hid hR
 have HF := Lib.hid hF
 obtain ⟨ao,cap,rfl,h1,h2,_⟩ := hR.row
 obtain ⟨n,hn⟩ : ∃ n,ps.length = n := ⟨_,rfl⟩
 have hn1 : n ≤ 1000 := hn ▸ hF.1
 have HN := Lib.hid hn
 rw [hn] at h1 HR ⊢
 clear hR hF hn
 go_enter Tryz.func133,Tryz.ntmps133
 go_wp2
 go_loopw [3,8] (fun t i wr => ∃ k : Nat,k ≤ n ∧ i = .int .i64 k ∧ Hid (By.Own wr w.heap.size t (frames (ps.take k))) ∧ Hid (Below w.heap.size w wr)) (fun _ i _ => n - (intOf i).toNat)
 case atStart => exact ⟨0,by omega,rfl,Lib.hid (By.own_nil _ _),Lib.hid (Below.refl _ _)⟩
 case round =>
  rename World => wz
  obtain ⟨k,hk,rfl,HO,HB⟩ := hrel
  by_cases hlt : k < n
  ·
   have hkl : k < ps.length := HN.out ▸ hlt
   obtain ⟨ao',cap',e1,_,_,hrow⟩ := (HR.out.below HB.out).row
   simp only [Value.slice.injEq] at e1
   obtain ⟨g,q,e2,hc,hq⟩ := hrow k hkl
   obtain rfl : ao = some ⟨g,0,none⟩ := e1.1.trans e2
   have HFk := Lib.hid (HF.out.2 _ (List.getElem_mem hkl))
   have HSt := Lib.hid (frames_take hkl)
   obtain ⟨p,hp⟩ : ∃ p,ps[k] = p := ⟨_,rfl⟩
   rw [hp] at hc hq HFk HSt
   obtain ⟨m,hm⟩ : ∃ m,p.length = m := ⟨_,rfl⟩
   rw [hm] at hc
   have hm1 : 1 ≤ m ∧ m ≤ 2000 := hm ▸ HFk.out
   have hls : By.Ls wz (some ⟨q,0,none⟩) m m p := by
    have := hq.ls (by omega)
    rw [hm] at this
    exact this
   have C := Lib.hid (fm_put none 0 0 [] (some ⟨q,0,none⟩) m m p wz (By.ls_nil wz) hls (by omega))
   have HPut : Hid (Fm.put [] p = Fm.frame p) := Lib.hid (by
    unfold Fm.put
    rw [if_neg (by omega),List.nil_append])
   have HFl : Hid ((Fm.frame p).length = m + 8) := Lib.hid (by rw [frame_len,hm])
   have HLn : Hid ((frames (ps.take k)).length ≤ 2008000) := Lib.hid (by
    have := frames_len (ps.take k) fun x hx => (HF.out.2 x (List.mem_of_mem_take hx)).2
    rw [List.length_take] at this
    omega)
   clear e1 e2 hrow hq hls hp hm
   go_wp2_with fail
   refine C.out.mono ?_
   rintro e w2 ⟨gf,rfl,hb,hg,b2⟩
   rw [HPut.out] at hb ⊢
   have hsg := (hb.ls (by rw [HFl.out]; omega)).seg
   have HOb := Lib.hid (By.own_below HO.out b2)
   have HB2 := Lib.hid (bchain HB.out b2)
   obtain ⟨fl,hfl⟩ : ∃ fl,(Fm.frame p).length = fl := ⟨_,rfl⟩
   rw [hfl]
   have HSg := Lib.hid hsg
   have HFl2 := Lib.hid hfl
   have hflb : fl ≤ 3000 := by
    have := HFl.out
    omega
   clear hb hg b2 C hsg hfl hc
   go_wp2_with (at_builtin; go_must (refine By.wpList_append w2 rfl (.tmp 12) (.tmp 14) rfl w.heap.size _ (frames (ps.take k)) rfl HOb.out (some ⟨gf,0,none⟩) fl fl (Fm.frame p) rfl HFl2.out.symm (fun z => by cases z) HSg.out (by have := HLn.out; omega) HB2.out.size ?_))
   intro v' w3 ho gr hat
   have HO3 : Hid (By.Own w3 w.heap.size v' (frames (ps.take (k + 1)))) := Lib.hid (by rw [HSt.out]; exact ho)
   have HB3 : Hid (Below w.heap.size w w3) := Lib.hid (HB2.out.grown gr HB2.out.size (By.own_ge HOb.out))
   clear ho gr hat
   go_wp2_with fail
   go_roundw
   case rel => exact ⟨k + 1,by omega,by go_num,HO3,HB3⟩
   case measure => simp [intOf]; omega
  ·
   obtain rfl : k = n := by omega
   have HE : Hid (By.Own wz w.heap.size _ (frames ps)) := Lib.hid (by
    have := HO.out
    rw [List.take_of_length_le (by have := HN.out; omega)] at this
    exact this)
   clear HO
   go_wp2_with fail
   go_ret
   exact ⟨_,rfl,HE.out,HB.out⟩
end Go.Proofs.YtlmjeackfepllaaGreatDoor.Wl
namespace Go.Proofs.YtlmjeackfepllaaGreatDoor.Wl
open Go.RowKit
open Mem Pk
open Go.Sort (grow)
theorem upd_nw {P : Nat → Prop} {w u : World} (h : UpdQ (nw P w) w u) : UpdQ P w u :=
 ⟨h.size,fun b hb hp => h.block b hb fun z => z.elim hp fun z => by omega,fun w0 a c => h.below w0 a fun b z => z.elim (c b) fun z => Nat.le_trans a.size z⟩
theorem runAll_take (s : Sg) : ∀ (ps : List (List UInt8)) (k : Nat) (h : k < ps.length),runAll s (ps.take (k + 1)) = (take (runAll s (ps.take k)) ps[k]).getD (runAll s (ps.take k)) := by
 intro ps
 induction ps generalizing s with
 | nil => intro k h; simp at h
 | cons p l ih =>
  intro k h
  cases k with
  | zero => rfl
  | succ k => exact ih _ k (by simpa using h)
set_option maxHeartbeats 2000000 in
theorem wl_takeAll {P : Nat → Prop} {w0 w : World} {g o : Nat} {ty : TypeId} {pre post : List Value} {s : Sg} (h : In P w g o ty pre post s) (v : Value) (ps : List (List UInt8)) (hR : Recs w0 w v ps) (hP : ∀ b,P b → b < w0.heap.size) (hF : Fine ps) :
  Calls Tryz.prog 97 #[.pointer (some ⟨g,o,none⟩),v] w fun e w' => e = .returned (.tuple #[]) ∧ In (nw P w) w' g o ty pre post (runAll s ps) ∧ UpdQ P w w' := by
 have HR := Lib.hid hR
 have HF := Lib.hid hF
 have HP := Lib.hid hP
 have H0 := Lib.hid h
 obtain ⟨ao,cap,rfl,h1,h2,_⟩ := hR.row
 obtain ⟨n,hn⟩ : ∃ n,ps.length = n := ⟨_,rfl⟩
 have hn1 : n ≤ 1000 := hn ▸ hF.1
 have HN := Lib.hid hn
 rw [hn] at h1 HR ⊢
 clear hR hF hn hP h
 go_enter Tryz.func97,Tryz.ntmps97
 go_wp2
 go_loopw [5,8] (fun _ i wr => ∃ k : Nat,k ≤ n ∧ i = .int .i64 k ∧ Hid (In (nw P w) wr g o ty pre post (runAll s (ps.take k))) ∧ Hid (UpdQ (nw P w) w wr)) (fun _ i _ => n - (intOf i).toNat)
 case atStart => exact ⟨0,by omega,rfl,Lib.hid (H0.out.mono fun b z => .inl z),Lib.hid (UpdQ.refl _ _)⟩
 case round =>
  rename World => wz
  obtain ⟨k,hk,rfl,HS,HU⟩ := hrel
  by_cases hlt : k < n
  ·
   have hkl : k < ps.length := HN.out ▸ hlt
   have hkeep : ∃ q,wz.cell? ⟨(match ao with | some a => a.block | none => 0),k,none⟩ = some (.slice (some ⟨q,0,none⟩) ps[k].length ps[k].length) ∧ By.Block wz q ps[k] ∧ ∃ g,ao = some ⟨g,0,none⟩ := by
    obtain ⟨gs,a,b,c⟩ := HR.out
    obtain ⟨ao',cap',e1,_,_,hrow⟩ := HR.out.row
    simp only [Value.slice.injEq] at e1
    obtain ⟨g1,q,e2,hc,hq⟩ := hrow k hkl
    obtain rfl : ao = some ⟨g1,0,none⟩ := e1.1.trans e2
    have hg1 : w0.heap.size ≤ g1 := (World.ownsRow.lt a g1 rfl).1
    have hnp : ∀ b,w0.heap.size ≤ b → b < w.heap.size → ¬ nw P w b := fun b z1 z2 z => z.elim (fun z => by have := HP.out b z; omega) fun z => by omega
    have hq0 : w0.heap.size ≤ q := by
     have hk' : k < gs.length := by rw [← b,List.length_map] at hkl; exact hkl
     have hz := (c _ (List.getElem_mem hk')).2.1
     obtain ⟨ao3,cap3,e3,_,_,h3⟩ := sq_row a
     simp only [Value.slice.injEq] at e3
     obtain ⟨g3,e4,e5⟩ := h3 k hk'
     rw [← e3.1] at e4
     simp only [Option.some.injEq,Addr.mk.injEq] at e4
     rw [← e4.1,hc] at e5
     unfold Sq.val at e5
     simp only [Option.some.injEq,Value.slice.injEq,Addr.mk.injEq] at e5
     rw [e5.1.1]
     exact hz
    have hlq := hq.lt
    refine ⟨q,?_,(HU.out.block q hlq (hnp q hq0 hlq)).trans hq,g1,rfl⟩
    exact (Hd.cell_same (HU.out.block g1 (cell_lt hc) (hnp g1 hg1 (cell_lt hc))) k).trans hc
   obtain ⟨q,hc,hq,g1,rfl⟩ := hkeep
   have HSt := Lib.hid (runAll_take s ps k hkl)
   have hpl := HF.out.2 _ (List.getElem_mem hkl)
   obtain ⟨p,hp⟩ : ∃ p,ps[k] = p := ⟨_,rfl⟩
   rw [hp] at hc hq HSt hpl
   obtain ⟨m,hm⟩ : ∃ m,p.length = m := ⟨_,rfl⟩
   rw [hm] at hc
   have hls : By.Ls wz (some ⟨q,0,none⟩) m m p := by
    have := hq.ls (by omega)
    rw [hm] at this
    exact this
   have C := Lib.hid (sg_take HS.out (some ⟨q,0,none⟩) m m p hls (by omega))
   clear hls hq hp hm hpl
   dsimp only at hc
   go_wp2_with fail
   refine C.out.mono ?_
   rintro e w2 ⟨rfl,h2,u2⟩
   have HS2 : Hid (In (nw P w) w2 g o ty pre post (runAll s (ps.take (k + 1)))) := Lib.hid (by
    rw [HSt.out]
    exact h2.mono fun b z => z.elim id fun z => .inr (Nat.le_trans HU.out.size z))
   have HU2 := Lib.hid (HU.out.trans u2)
   clear h2 u2 C hc
   go_wp2_with fail
   go_roundw
   case rel => exact ⟨k + 1,by omega,by go_num,HS2,HU2⟩
   case measure => simp [intOf]; omega
  ·
   obtain rfl : k = n := by omega
   have HE : Hid (In (nw P w) wz g o ty pre post (runAll s ps)) := Lib.hid (by
    have := HS.out
    rw [List.take_of_length_le (by have := HN.out; omega)] at this
    exact this)
   clear HS
   go_wp2_with fail
   go_end0
   exact ⟨rfl,HE.out,upd_nw HU.out⟩
end Go.Proofs.YtlmjeackfepllaaGreatDoor.Wl
namespace Go.Proofs.YtlmjeackfepllaaGreatDoor.Wl
open Go.RowKit
open Mem Pk
open Go.Sort (grow)
theorem begun_step {a b : List Et.T} {k : Nat} (h : k < a.length) (j : k < b.length) : begun (a.drop k) (b.drop k) = if a[k].term = b[k].term ∧ a[k].mem = b[k].mem ∧ a[k].data = b[k].data then begun (a.drop (k + 1)) (b.drop (k + 1)) + 1 else 0 := by
 rw [List.drop_eq_getElem_cons h,List.drop_eq_getElem_cons j,begun]
theorem begun_end {a b : List Et.T} {k : Nat} (h : a.length ≤ k ∨ b.length ≤ k) : begun (a.drop k) (b.drop k) = 0 := by
 rcases h with h | h
 ·
  rw [List.drop_eq_nil_of_le h]
  rfl
 ·
  rw [List.drop_eq_nil_of_le h]
  cases a.drop k <;> rfl
theorem begun_le : ∀ a b : List Et.T,begun a b ≤ a.length ∧ begun a b ≤ b.length
 | [],b => ⟨Nat.le_refl _,Nat.zero_le _⟩
 | x :: a,[] => ⟨Nat.zero_le _,Nat.le_refl _⟩
 | x :: a,y :: b => by
  rw [begun]
  have := begun_le a b
  split
  ·
   simp only [List.length_cons]
   omega
  · exact ⟨Nat.zero_le _,Nat.zero_le _⟩
set_option maxHeartbeats 4000000 in
theorem wl_begun (ao bo : Option Addr) (n m ca cb : Nat) (a b : List Et.T) (w : World) (hA : Et.Ls w ao n ca a) (hB : Et.Ls w bo m cb b) :
  Calls Tryz.prog 131 #[.slice ao n ca,.slice bo m cb] w fun e w' => e = .returned (.int .i64 (begun a b : Nat)) ∧ Below w.heap.size w w' := by
 have HA := Lib.hid hA
 have HBb := Lib.hid hB
 have hca := hA.reach
 have hfa := hA.fits
 have hcb := hB.reach
 have hfb := hB.fits
 have HN := Lib.hid hA.len
 have HM := Lib.hid hB.len
 clear hA hB
 go_enter Tryz.func131,Tryz.ntmps131
 go_wp2
 go_loopw [5] (fun i wr => ∃ k : Nat,k ≤ n ∧ i = .int .i64 k ∧ Hid (k + begun (a.drop k) (b.drop k) = begun a b) ∧ Hid (Below w.heap.size w wr)) (fun i _ => n - (intOf i).toNat)
 case atStart => exact ⟨0,Nat.zero_le _,rfl,Lib.hid (Nat.zero_add _),Lib.hid (Below.refl _ _)⟩
 case round =>
  rename World => wz
  obtain ⟨k,hk,rfl,HK,HB⟩ := hrel
  by_cases h1 : k < n
  ·
   have d1 : decide ((k : Int) < (n : Int)) = true := decide_eq_true (by omega)
   by_cases h2 : k < m
   ·
    have d2 : decide ((k : Int) < (m : Int)) = true := decide_eq_true (by omega)
    obtain ⟨g,og,rfl⟩ := HA.out.at (by omega)
    obtain ⟨f,of,rfl⟩ := HBb.out.at (by omega)
    have hka : k < a.length := HN.out ▸ h1
    have hkb : k < b.length := HM.out ▸ h2
    have hra := (HA.out.row k hka).below HB.out
    have hrb := (HBb.out.row k hkb).below HB.out
    have HS := Lib.hid (begun_step hka hkb)
    obtain ⟨x,hx⟩ : ∃ x,a[k] = x := ⟨_,rfl⟩
    obtain ⟨y,hy⟩ : ∃ y,b[k] = y := ⟨_,rfl⟩
    rw [hx] at hra HS
    rw [hy] at hrb HS
    clear hx hy
    obtain ⟨a0,a1,a2⟩ := hra
    obtain ⟨b0,b1,b2⟩ := hrb
    have a0' := cell_regrown a0
    have a1' := cell_regrown a1
    have a2' := cell_regrown a2
    have b0' := cell_regrown b0
    have b1' := cell_regrown b1
    have b2' := cell_regrown b2
    clear a0 a1 a2 b0 b1 b2
    by_cases e0 : x.term = y.term
    ·
     have q0 : (x.term == y.term) = true := beq_iff_eq.2 e0
     by_cases e1 : x.mem = y.mem
     ·
      have q1 : (x.mem == y.mem) = true := beq_iff_eq.2 e1
      by_cases e2 : x.data = y.data
      ·
       have q2 : (x.data.toList == y.data.toList) = true := beq_iff_eq.2 (by rw [e2])
       have HR : Hid (begun (a.drop k) (b.drop k) = begun (a.drop (k + 1)) (b.drop (k + 1)) + 1) := Lib.hid (by rw [HS.out,if_pos ⟨e0,e1,e2⟩])
       clear e0 e1 e2 HS
       go_wp2_with fail
       refine wp_region_quiet_below (by kernel_rfl) (by kernel_rfl) ?_
       repeat (first | go_big_quiet_step (fail) | quiet_step (fail))
       refine wpQuiet_nil ?_
       intro _ hw'
       obtain ⟨⟨dq,osq⟩,hw''⟩ := hw'
       subst hw''
       have HBv := Lib.hid (bchain HB.out (below_regrown wz dq osq))
       go_wp2_with fail
       go_roundw
       case rel => exact ⟨k + 1,by omega,by go_num,Lib.hid (by rw [← HK.out,HR.out]; omega),HBv⟩
       case measure => simp [intOf]; omega
      ·
       have q2 : (x.data.toList == y.data.toList) = false := beq_eq_false_iff_ne.2 fun h => e2 (txt_ext (by rw [← tl,← tl]; exact h))
       have HR : Hid (begun a b = k) := Lib.hid (by rw [← HK.out,HS.out,if_neg fun z => e2 z.2.2]; rfl)
       clear e0 e1 e2 HS HK
       go_wp2_with fail
       refine wp_region_quiet_below (by kernel_rfl) (by kernel_rfl) ?_
       repeat (first | go_big_quiet_step (fail) | quiet_step (fail))
       refine wpQuiet_nil ?_
       intro _ hw'
       obtain ⟨⟨dq,osq⟩,hw''⟩ := hw'
       subst hw''
       have HBv := Lib.hid (bchain HB.out (below_regrown wz dq osq))
       go_wp2_with fail
       go_ret
       exact ⟨ret_int (by rw [HR.out]),HBv.out⟩
     ·
      have q1 : (x.mem == y.mem) = false := beq_eq_false_iff_ne.2 e1
      have HR : Hid (begun a b = k) := Lib.hid (by rw [← HK.out,HS.out,if_neg fun z => e1 z.2.1]; rfl)
      clear e0 e1 HS HK
      go_wp2_with fail
      refine wp_region_quiet_below (by kernel_rfl) (by kernel_rfl) ?_
      repeat (first | go_big_quiet_step (fail) | quiet_step (fail))
      refine wpQuiet_nil ?_
      intro _ hw'
      obtain ⟨⟨dq,osq⟩,hw''⟩ := hw'
      subst hw''
      have HBv := Lib.hid (bchain HB.out (below_regrown wz dq osq))
      go_wp2_with fail
      go_ret
      exact ⟨ret_int (by rw [HR.out]),HBv.out⟩
    ·
     have q0 : (x.term == y.term) = false := beq_eq_false_iff_ne.2 e0
     have HR : Hid (begun a b = k) := Lib.hid (by rw [← HK.out,HS.out,if_neg fun z => e0 z.1]; rfl)
     clear e0 HS HK
     go_wp2_with fail
     refine wp_region_quiet_below (by kernel_rfl) (by kernel_rfl) ?_
     repeat (first | go_big_quiet_step (fail) | quiet_step (fail))
     refine wpQuiet_nil ?_
     intro _ hw'
     obtain ⟨⟨dq,osq⟩,hw''⟩ := hw'
     subst hw''
     have HBv := Lib.hid (bchain HB.out (below_regrown wz dq osq))
     go_wp2_with fail
     go_ret
     exact ⟨ret_int (by rw [HR.out]),HBv.out⟩
   ·
    have d2 : decide ((k : Int) < (m : Int)) = false := decide_eq_false (by omega)
    have HS : Hid (begun (a.drop k) (b.drop k) = 0) := Lib.hid (begun_end (.inr (by have := HM.out; omega)))
    have HR : Hid (begun a b = k) := Lib.hid (by rw [← HK.out,HS.out]; rfl)
    clear HK HS
    go_wp2_with fail
    refine wp_region_quiet_below (by kernel_rfl) (by kernel_rfl) ?_
    repeat (first | go_big_quiet_step (fail) | quiet_step (fail))
    refine wpQuiet_nil ?_
    intro _ hw'
    obtain ⟨⟨dq,osq⟩,hw''⟩ := hw'
    subst hw''
    have HBv := Lib.hid (bchain HB.out (below_regrown wz dq osq))
    go_wp2_with fail
    go_ret
    exact ⟨ret_int (by rw [HR.out]),HBv.out⟩
  ·
   have d1 : decide ((k : Int) < (n : Int)) = false := decide_eq_false (by omega)
   have HS : Hid (begun (a.drop k) (b.drop k) = 0) := Lib.hid (begun_end (.inl (by have := HN.out; omega)))
   have HR : Hid (begun a b = k) := Lib.hid (by rw [← HK.out,HS.out]; rfl)
   clear HK HS
   go_wp2_with fail
   refine wp_region_quiet_below (by kernel_rfl) (by kernel_rfl) ?_
   repeat (first | go_big_quiet_step (fail) | quiet_step (fail))
   refine wpQuiet_nil ?_
   intro _ hw'
   obtain ⟨⟨dq,osq⟩,hw''⟩ := hw'
   subst hw''
   have HBv := Lib.hid (bchain HB.out (below_regrown wz dq osq))
   go_wp2_with fail
   go_ret
   exact ⟨ret_int (by rw [HR.out]),HBv.out⟩
end Go.Proofs.YtlmjeackfepllaaGreatDoor.Wl
namespace Go.Proofs.YtlmjeackfepllaaGreatDoor.Wl
open Go.RowKit
open Mem Pk
theorem sq_len {xs : List (Nat × List UInt8)} : (xs.map Sq.val).length = xs.length := List.length_map _
theorem recs_wp {o : Oper} {a : Act} {K : Act → World → Prop} {Q : Exit → Act → World → Prop} {w0 : World} (X : World) (s t : Operand)
  (ho : o.op = .call { callee := .builtin .append,args := #[s,t],argTypes := #[126,126] })
  (v : Value) (ps : List (List UInt8)) (hs : a.eval s = v) (hR : Recs w0 X v ps) (hX : Below w0.heap.size w0 X)
  (ao : Option Addr) (n cap : Nat) (zs : List (Nat × List UInt8)) (ht : a.eval t = .slice ao n cap) (hn : n = zs.length) (hnil : ao = none → cap = 0) (hsrc : zs = [] ∨ ∃ b,ao = some ⟨b,0,none⟩ ∧ ∀ k (hk : k < zs.length),X.cell? ⟨b,k,none⟩ = some (Sq.val zs[k]))
  (hz : ∀ q ∈ zs,By.Block X q.1 q.2 ∧ w0.heap.size ≤ q.1 ∧ v.ownBlock ≠ some q.1) (few : ps.length + n ≤ 100000)
  (h : ∀ v' w1,Recs w0 w1 v' (ps ++ zs.map Prod.snd) → Below w0.heap.size w0 w1 → X.grownBy w1 v.ownBlock → K (a.put o.dst v') w1) : o.wp Tryz.prog a X K Q := by
 obtain ⟨gs,hO,rfl,hE⟩ := hR
 rw [List.length_map] at few
 obtain ⟨i0,hi,hz0,hz1,hz2⟩ := info_parts Sq.info
 have hmx : maxLen = 9223372036854775807 := rfl
 have empty : zs = [] → K (a.put o.dst v) X := fun e => h v X ⟨gs,hO,by rw [e]; simp,hE⟩ hX ⟨rfl,rfl,rfl,Nat.le_refl _,fun _ _ _ => rfl⟩
 cases ao with
 | none =>
  obtain rfl : cap = 0 := hnil rfl
  rcases hsrc with e | ⟨b,e,_⟩
  ·
   obtain rfl : n = 0 := by rw [hn,e]; rfl
   have hrun := run_append_owned_none (P := Tryz.prog) (w := X) w0.heap.size 126 o.type 59 i0 1 Tryz.underlying126 hi v _ _ hO
   unfold Oper.wp
   simp [execOp,ho,resolve,invoke,builtin,hs,ht,hrun,Result.andThen]
   exact empty e
  · cases e
 | some ad =>
  obtain ⟨v',w',hr,h2,h3,_,h5⟩ := run_append_own_at (P := Tryz.prog) X w0.heap.size 126 o.type 59 i0 (.slice none 0 0) 1 24 Tryz.underlying126 hi hz0 hz1 hz2 rfl (by omega) v gs.length (gs.map Sq.val) hO ad n cap (zs.map Sq.val) (by rw [sq_len,hn,Nat.mul_one]) (by
   intro j z hj
   rcases hsrc with e | ⟨b,e,hc⟩
   ·
    rw [e] at hj
    simp at hj
   ·
    cases e
    obtain ⟨hj1,e2⟩ := List.getElem?_eq_some_iff.1 hj
    rw [sq_len] at hj1
    rw [List.getElem_map] at e2
    have := hc j hj1
    rw [e2] at this
    rw [Go.WideShapes.add_plain,Nat.zero_add]
    exact this) (fun z hz => by obtain ⟨q,_,rfl⟩ := List.mem_map.1 hz; rfl) (by omega) (by omega) hX.size
  unfold Oper.wp execOp
  simp only [ho,resolve,invoke,builtin,Sem.run_bind,Sem.run_pure,Result.andThen_ok,List.map_toArray,List.map_cons,List.map_nil,hs,ht,hr]
  have hkeep : ∀ q : Nat × List UInt8,By.Block X q.1 q.2 ∧ w0.heap.size ≤ q.1 ∧ v.ownBlock ≠ some q.1 → By.Block w' q.1 q.2 ∧ w0.heap.size ≤ q.1 ∧ v'.ownBlock ≠ some q.1 := fun (q : Nat × List UInt8) ⟨b1,b2,b3⟩ => by
   refine ⟨(h3.block q.1 b1.lt fun z => b3 z.symm).trans b1,b2,fun z => ?_⟩
   rcases h5 with z2 | z2
   · exact b3 (z2 ▸ z)
   ·
    rw [z2] at z
    have : X.heap.size = q.1 := Option.some.inj z
    have := b1.lt
    omega
  refine h v' w' ⟨gs ++ zs,?_,by rw [List.map_append],fun q hq => (List.mem_append.1 hq).elim (fun z => hkeep q (hE q z)) fun z => hkeep q (hz q z)⟩ (hX.grown h3 hX.size fun k e => (World.ownsRow.lt hO k e).1) h3
  unfold Sq.Own
  rw [List.map_append,List.length_append,← hn]
  exact h2
theorem recs_step {ops : Array Oper} {o : Oper} {a : Act} {K : Act → World → Prop} {Q : Exit → Act → World → Prop} {E : Prop} {w0 : World} (X : World) (hgd : o.guard = none) (s t : Operand)
  (ho : o.op = .call { callee := .builtin .append,args := #[s,t],argTypes := #[126,126] })
  (v : Value) (ps : List (List UInt8)) (hs : a.eval s = v) (hR : Recs w0 X v ps) (hX : Below w0.heap.size w0 X)
  (ao : Option Addr) (n cap : Nat) (zs : List (Nat × List UInt8)) (ht : a.eval t = .slice ao n cap) (hn : n = zs.length) (hnil : ao = none → cap = 0) (hsrc : zs = [] ∨ ∃ b,ao = some ⟨b,0,none⟩ ∧ ∀ k (hk : k < zs.length),X.cell? ⟨b,k,none⟩ = some (Sq.val zs[k]))
  (hz : ∀ q ∈ zs,By.Block X q.1 q.2 ∧ w0.heap.size ≤ q.1 ∧ v.ownBlock ≠ some q.1) (few : ps.length + n ≤ 100000)
  (h : ∀ v' w1,Recs w0 w1 v' (ps ++ zs.map Prod.snd) → Below w0.heap.size w0 w1 → X.grownBy w1 v.ownBlock → K (a.put o.dst v') w1) :
  if Region.wanted o (yielded ops a.tmps) = true then Oper.wp Tryz.prog o a X K Q else E := by
 have hw : Region.wanted o (yielded ops a.tmps) = true := by simp [Region.wanted,hgd]
 rw [if_pos hw]
 exact recs_wp X s t ho v ps hs hR hX ao n cap zs ht hn hnil hsrc hz few h
theorem recs_list {ops : Array Oper} {rest : List Oper} {o : Oper} {a : Act} {Q : Exit → Act → World → Prop} {w0 : World} (X : World) (hgd : o.guard = none) (s t : Operand)
  (ho : o.op = .call { callee := .builtin .append,args := #[s,t],argTypes := #[126,126] })
  (v : Value) (ps : List (List UInt8)) (hs : a.eval s = v) (hR : Recs w0 X v ps) (hX : Below w0.heap.size w0 X)
  (ao : Option Addr) (n cap : Nat) (zs : List (Nat × List UInt8)) (ht : a.eval t = .slice ao n cap) (hn : n = zs.length) (hnil : ao = none → cap = 0) (hsrc : zs = [] ∨ ∃ b,ao = some ⟨b,0,none⟩ ∧ ∀ k (hk : k < zs.length),X.cell? ⟨b,k,none⟩ = some (Sq.val zs[k]))
  (hz : ∀ q ∈ zs,By.Block X q.1 q.2 ∧ w0.heap.size ≤ q.1 ∧ v.ownBlock ≠ some q.1) (few : ps.length + n ≤ 100000)
  (h : ∀ v' w1,Recs w0 w1 v' (ps ++ zs.map Prod.snd) → Below w0.heap.size w0 w1 → X.grownBy w1 v.ownBlock → wpList Tryz.prog ops Q rest (a.put o.dst v') w1) : wpList Tryz.prog ops Q (o :: rest) a X :=
 wpList_plain hgd fun _ hK => recs_wp X s t ho v ps hs hR hX ao n cap zs ht hn hnil hsrc hz few fun v' w1 h1 h2 h3 => hK _ _ (h v' w1 h1 h2 h3)
theorem ints_block {W : World} {b : Nat} {zs : List Int} (h : W.heap[b]? = some (.cells (zs.map (Value.int .i64)).toArray 3 (0,0))) (hf : ∀ z ∈ zs,Fit z) (hl : zs.length ≤ 1000) : Ints W (some ⟨b,0,none⟩) zs.length zs.length zs :=
 ⟨rfl,Nat.le_refl _,by omega,.inr ⟨b,0,rfl,fun k hk => by
  rw [cell_of_row W b _ _ _ _ h,Nat.zero_add]
  simp [hk]⟩,hf⟩
theorem wl_record1 (ao : Option Addr) (n cap : Nat) (l : List Int) (w : World) (hI : Ints w ao n cap l) (hl : l.length ≤ 1000) (h0 : l ≠ []) :
  Calls Tryz.prog 130 #[.slice ao n cap] w fun e w' => ∃ g L,e = .returned (.slice (some ⟨g,0,none⟩) L L) ∧ L = (nums l).length ∧ By.Block w' g (nums l) ∧ w.heap.size ≤ g ∧ Below w.heap.size w w' := by
 refine (wl_record ao n cap l w hI hl).mono ?_
 rintro e w' ⟨v,rfl,⟨rfl,h⟩ | ⟨g,rfl,hb,hg⟩,b⟩
 ·
  exfalso
  cases l with
  | nil => exact h0 rfl
  | cons x l =>
   have := congrArg List.length h
   rw [nums,List.length_append,List.length_nil] at this
   have := nm_pos x
   omega
 · exact ⟨g,_,rfl,rfl,hb,hg,b⟩
theorem pay_ent (x : Et.T) : nums [2,x.term,x.mem] ++ vb (zz (x.data.size : Int)) ++ txt x.data = pay (.ent x) := by
 unfold pay tx nm
 simp [nums,nm]
theorem ents_take {l : List Et.T} {k : Nat} (h : k < l.length) : pays (ents (l.take (k + 1))) = pays (ents (l.take k)) ++ [pay (.ent l[k])] := by
 unfold pays ents
 rw [List.take_succ_eq_append_getElem h,List.map_append,List.map_append]
 rfl
theorem Recs.own_lt {w0 w : World} {v : Value} {ps : List (List UInt8)} (h : Recs w0 w v ps) (b : Nat) (e : v.ownBlock = some b) : b < w.heap.size := by
 obtain ⟨gs,a,_⟩ := h
 exact (World.ownsRow.lt a b e).2
theorem nums3_len (a b c : Int) : (nums [a,b,c]).length ≤ 30 := nums_len _
def EntsE (w : World) (l : List Et.T) (e : Ending) (w' : World) : Prop := ∃ v,e = .returned v ∧ Recs w w' v (pays (ents l)) ∧ Below w.heap.size w w'
set_option maxHeartbeats 8000000 in
theorem wl_entries (ao : Option Addr) (n cap : Nat) (l : List Et.T) (w : World) (hL : Et.Ls w ao n cap l) (hd : ∀ e ∈ l,e.data.size ≤ 1100) (hn : n ≤ 1000) :
  Calls Tryz.prog 132 #[.slice ao n cap] w (EntsE w l) := by
 have HL := Lib.hid hL
 have HD := Lib.hid hd
 have hf := hL.fits
 have hr := hL.reach
 have HN := Lib.hid hL.len
 clear hL hd
 go_enter Tryz.func132,Tryz.ntmps132
 go_wp2
 go_loopw [3,5,8] (fun t _ i wr => ∃ k : Nat,k ≤ n ∧ i = .int .i64 k ∧ Hid (Recs w wr t (pays (ents (l.take k)))) ∧ Hid (Below w.heap.size w wr)) (fun _ _ i _ => n - (intOf i).toNat)
 case atStart => exact ⟨0,by omega,rfl,Lib.hid ⟨[],Sq.own_nil _ _,rfl,fun q hq => (by cases hq)⟩,Lib.hid (Below.refl _ _)⟩
 case round =>
  rename World => wz
  obtain ⟨k,hk,rfl,HR,HB⟩ := hrel
  by_cases hlt : k < n
  ·
   have hkl : k < l.length := HN.out ▸ hlt
   obtain ⟨b,off,rfl⟩ := HL.out.at (by omega)
   have hrow := (HL.out.row k hkl).below HB.out
   have HSh := Lib.hid (HL.out.short _ (List.getElem_mem hkl))
   have HDk := Lib.hid (HD.out _ (List.getElem_mem hkl))
   have HSt := Lib.hid (ents_take hkl)
   obtain ⟨x,hx⟩ : ∃ x,l[k] = x := ⟨_,rfl⟩
   rw [hx] at hrow HSh HDk HSt
   clear hx
   obtain ⟨g0,g1,g2⟩ := hrow
   obtain ⟨W,hW,hbW,hC⟩ := Et.boxed1 wz x
   have HBW := Lib.hid (bchain HB.out hbW)
   have HRW := Lib.hid (HR.out.below hbW)
   have HC := Lib.hid hC
   have HFew : Hid ((pays (ents (l.take k))).length + 1 ≤ 100000) := Lib.hid (by
    unfold pays ents
    rw [List.length_map,List.length_map,List.length_take]
    omega)
   unfold Et.C at hC
   obtain ⟨a0,a1,a2⟩ := hC
   have lx : Hid (∀ u,Below W.heap.size W u → u.cell? ⟨wz.heap.size,0,none⟩ = some (.int .i64 x.term) ∧ u.cell? ⟨wz.heap.size,1,none⟩ = some (.int .i64 x.mem) ∧ u.cell? ⟨wz.heap.size,2,none⟩ = some (.string x.data)) := Lib.hid fun u k => HC.out.below k
   obtain ⟨to,tn,tc,rfl⟩ : ∃ to tn tc,u3 = .slice to tn tc := by
    obtain ⟨ao',cap',e,_⟩ := HR.out.row
    exact ⟨_,_,_,e⟩
   have HRz := Lib.hid HR.out
   clear hbW HR
   go_wp2_with fail
   have HFt : Hid (∀ z ∈ [2,x.term,x.mem],Fit z) := Lib.hid (by
    intro z hz
    simp only [List.mem_cons,List.not_mem_nil,or_false] at hz
    rcases hz with rfl | rfl | rfl
    · exact ⟨by decide,by decide⟩
    · exact HSh.out.1
    · exact HSh.out.2.1)
   have lb1 : Hid (∀ q,Below W.heap.size W (W.alloc q).drew) := Lib.hid fun q => ((Below.refl _ _).alloc (Nat.le_refl _) _).drew
   have lb2 : Hid (∀ q,Below W.heap.size W (W.drew.alloc q)) := Lib.hid fun q => (Below.refl _ _).drew.alloc (Nat.le_refl _) _
   have HTx : Hid (∀ (u : World) (g L : Nat),Below W.heap.size W u → L = (nums [2,x.term,x.mem]).length → By.Block u g (nums [2,x.term,x.mem]) → Calls Tryz.prog 149 #[.slice (some ⟨g,0,none⟩) L L,.string x.data] u fun e u' => ∃ g2 N2,e = .returned (.slice (some ⟨g2,0,none⟩) N2 N2) ∧ (Below W.heap.size W u' ∧ ∀ q,q = .slice (some ⟨g2,0,none⟩) N2 N2 → Recs w (u'.alloc (.cells #[q] 59)) (.slice to tn tc) (pays (ents (l.take k))) ∧ Below w.heap.size w (u'.alloc (.cells #[q] 59)) ∧ (∀ k (hk : k < [(g2,pay (.ent x))].length),(u'.alloc (.cells #[q] 59)).cell? ⟨u'.heap.size,k,none⟩ = some (Sq.val [(g2,pay (.ent x))][k])) ∧ ∀ z ∈ [(g2,pay (.ent x))],By.Block (u'.alloc (.cells #[q] 59)) z.1 z.2 ∧ w.heap.size ≤ z.1 ∧ (Value.slice to tn tc).ownBlock ≠ some z.1)) := Lib.hid fun u g L bu hL hb => by
    subst hL
    have hl30 := nums3_len 2 x.term x.mem
    refine (pack_text _ x.data (by have := HDk.out; omega) (some ⟨g,0,none⟩) _ _ u (hb.ls (by omega)) (by omega)).mono ?_
    rintro e u' ⟨⟨g2,N2,rfl,hN2,hg2,hb2⟩,b2⟩
    rw [pay_ent] at hN2 hb2
    have bu' := bchain bu b2
    refine ⟨g2,N2,rfl,bu',fun q hq => ?_⟩
    have ba : Below u'.heap.size u' (u'.alloc (.cells #[q] 59)) := (Below.refl _ _).alloc (Nat.le_refl _) _
    refine ⟨HRW.out.below (bchain bu' ba),bchain HBW.out (bchain bu' ba),fun k hk => ?_,fun z hz => ?_⟩
    ·
     obtain rfl : k = 0 := by simpa using hk
     rw [cell_of_row _ _ _ _ _ _ (heap_alloc_new u' _),hq]
     show some (Value.slice _ _ _) = some (Value.slice (some ⟨g2,0,none⟩) (pay (.ent x)).length (pay (.ent x)).length)
     rw [← hN2]
    ·
     obtain rfl := List.mem_singleton.1 hz
     refine ⟨hb2.below ba,Nat.le_trans (Nat.le_trans HBW.out.size bu.size) hg2,fun e => ?_⟩
     have := HRW.out.own_lt _ e
     have := bu.size
     show False
     omega
   have lz : ∀ u,Below W.heap.size W u → u.cell? ⟨wz.heap.size,0,none⟩ = some (.int .i64 x.term) ∧ u.cell? ⟨wz.heap.size,1,none⟩ = some (.int .i64 x.mem) ∧ u.cell? ⟨wz.heap.size,2,none⟩ = some (.string x.data) := fun u k => lx.out u k
   have HOwn : Hid (∀ b,(Value.slice to tn tc).ownBlock = some b → b ≠ wz.heap.size) := Lib.hid fun b e => by
    have := HRz.out.own_lt b e
    omega
   have HLz : Hid (wz.heap.size < W.heap.size) := Lib.hid (cell_lt a0)
   have HGr : Hid (∀ X y : World,Below W.heap.size W X → X.grownBy y (Value.slice to tn tc).ownBlock → y.cell? ⟨wz.heap.size,0,none⟩ = some (.int .i64 x.term) ∧ y.cell? ⟨wz.heap.size,1,none⟩ = some (.int .i64 x.mem) ∧ y.cell? ⟨wz.heap.size,2,none⟩ = some (.string x.data)) := Lib.hid fun X y bX gr => by
    have hb := gr.block wz.heap.size (Nat.lt_of_lt_of_le HLz.out bX.size) fun z => HOwn.out _ z.symm rfl
    obtain ⟨m0,m1,m2⟩ := lx.out X bX
    exact ⟨(Hd.cell_same hb _).trans m0,(Hd.cell_same hb _).trans m1,(Hd.cell_same hb _).trans m2⟩
   go_region_held3 (fun y => y.cell? ⟨wz.heap.size,0,none⟩ = some (.int .i64 x.term) ∧ y.cell? ⟨wz.heap.size,1,none⟩ = some (.int .i64 x.mem) ∧ y.cell? ⟨wz.heap.size,2,none⟩ = some (.string x.data)) (first | with_reducible assumption | (apply lz; repeat (first | with_reducible assumption | with_reducible apply below_box | with_reducible apply Below.drew | with_reducible exact Below.refl _ _ | omega)) | fail) (first | (go_at_call 130; refine (wl_record1 (some ⟨W.heap.size,0,none⟩) 3 3 [2,x.term,x.mem] _ (ints_block (b := W.heap.size) (by exact heap_alloc_new W _) HFt.out (by simp)) (by simp) (by simp)).mono ?_; rintro e u1 ⟨gr,L,rfl,hL,hb,hg,b1⟩; have s1 := bchain (by first | exact lb1.out _ | exact lb2.out _) b1; have t1 := lz _ s1; have C2 := Lib.hid (fun u (k : Below u1.heap.size u1 u) => HTx.out u gr L (bchain s1 k) hL (hb.below k)); clear hL hb hg b1) | (go_at_call 149; refine (C2.out _ (by first | exact Below.refl _ _ | assumption)).mono ?_; rintro e u2 ⟨g2,N2,rfl,b2,hz⟩; have HZ := Lib.hid (hz _ rfl); have s2 := below_box b2; have t2 := lz _ b2; clear hz C2) | (refine recs_step _ (by rfl) (.tmp 12) (.tmp 22) (by rfl) (.slice to tn tc) _ (by rfl) HZ.out.1 HZ.out.2.1 (some ⟨u2.heap.size,0,none⟩) 1 1 [(g2,pay (.ent x))] (by rfl) rfl (fun z => by cases z) (.inr ⟨_,rfl,HZ.out.2.2.1⟩) HZ.out.2.2.2 HFew.out ?_; intro v' y hR' hB' gr'; have HR' := Lib.hid hR'; have HB' := Lib.hid hB'; have t3 := HGr.out _ y (s2 _) gr'; clear hR' hB' gr') | fail)
   all_goals
    have HR2 : Hid (Recs w y v' (pays (ents (l.take (k + 1))))) := Lib.hid (by rw [HSt.out]; exact HR'.out)
    go_wp2
    go_roundw
    case rel => exact ⟨k + 1,by omega,by go_num,HR2,HB'⟩
    case measure => simp [intOf]; omega
  ·
   obtain rfl : k = n := by omega
   have HE : Hid (Recs w wz u3 (pays (ents l))) := Lib.hid (by
    have := HR.out
    rw [List.take_of_length_le (by have := HN.out; omega)] at this
    exact this)
   clear HR
   go_wp2_with fail
   go_ret
   exact ⟨_,rfl,HE.out,HB.out⟩
end Go.Proofs.YtlmjeackfepllaaGreatDoor.Wl
namespace Go.Proofs.YtlmjeackfepllaaGreatDoor.Wl
open Go.RowKit
open Mem Pk
theorem rec_one {u : World} (zs : List Int) (hf : ∀ z ∈ zs,Fit z) (hl : zs.length ≤ 100) (h0 : zs ≠ []) (p : List UInt8) (hp : nums zs = p) (n : Nat) (hn : n = zs.length) (cs : Array Value) (hcs : cs = (zs.map (Value.int .i64)).toArray) :
  Calls Tryz.prog 130 #[.slice (some ⟨u.heap.size,0,none⟩) n n] (u.alloc (.cells cs 3)) fun e u' => ∃ g L,e = .returned (.slice (some ⟨g,0,none⟩) L L) ∧ Below u.heap.size u u' ∧ ∀ q,q = .slice (some ⟨g,0,none⟩) L L →
   (u'.alloc (.cells #[q] 59)).heap[u'.heap.size]? = some (.cells #[Sq.val (g,p)] 59 (0,0)) ∧ By.Block (u'.alloc (.cells #[q] 59)) g p ∧ u.heap.size ≤ g ∧ g < u'.heap.size ∧ Below u.heap.size u (u'.alloc (.cells #[q] 59)) := by
 subst hp hn hcs
 have b0 : Below u.heap.size u (u.alloc (.cells (zs.map (Value.int .i64)).toArray 3)) := (Below.refl _ _).alloc (Nat.le_refl _) _
 refine (wl_record1 _ _ _ zs _ (ints_block (heap_alloc_new u _) hf (by omega)) (by omega) h0).mono ?_
 rintro e u' ⟨g,L,rfl,hL,hb,hg,b⟩
 have bu := bchain b0 b
 have ba : Below u'.heap.size u' (u'.alloc (.cells #[Sq.val (g,nums zs)] 59)) := (Below.refl _ _).alloc (Nat.le_refl _) _
 refine ⟨g,L,rfl,bu,fun q hq => ?_⟩
 have e : q = Sq.val (g,nums zs) := by
  rw [hq,hL]
  rfl
 rw [e]
 exact ⟨heap_alloc_new u' _,hb.below ba,Nat.le_trans b0.size hg,hb.lt,bchain bu ba⟩
theorem recs_lit {w X : World} {b g : Nat} {p : List UInt8} (hb : X.heap[b]? = some (.cells #[Sq.val (g,p)] 59 (0,0))) (hB : w.heap.size ≤ b) (hg : By.Block X g p) (hwg : w.heap.size ≤ g) (hne : g < b) : Recs w X (.slice (some ⟨b,0,none⟩) 1 1) [p] :=
 ⟨[(g,p)],⟨rfl,.inr ⟨b,1,#[Sq.val (g,p)],rfl,hB,hb,Nat.le_refl _,by have : maxLen = 9223372036854775807 := rfl; omega,rfl,rfl⟩⟩,rfl,fun q hq => by
  obtain rfl := List.mem_singleton.1 hq
  exact ⟨hg,hwg,fun z => by simp only [Value.ownBlock,Option.some.injEq] at z; omega⟩⟩
theorem recs_nil (w X : World) : Recs w X (.slice none 0 0) [] := ⟨[],Sq.own_nil _ _,rfl,fun q hq => (by cases hq)⟩
theorem one_src {X : World} {b g : Nat} {p : List UInt8} (hb : X.heap[b]? = some (.cells #[Sq.val (g,p)] 59 (0,0))) : ∀ k (hk : k < [(g,p)].length),X.cell? ⟨b,k,none⟩ = some (Sq.val [(g,p)][k]) := fun k hk => by
 obtain rfl : k = 0 := by simpa using hk
 rw [cell_of_row X b _ _ _ _ hb]
 rfl
theorem recs_src {w X : World} {v : Value} {qs : List (List UInt8)} (h : Recs w X v qs) : ∃ (ao : Option Addr) (n cap : Nat) (zs : List (Nat × List UInt8)),v = .slice ao n cap ∧ n = zs.length ∧ (ao = none → cap = 0) ∧ (zs = [] ∨ ∃ b,ao = some ⟨b,0,none⟩ ∧ ∀ k (hk : k < zs.length),X.cell? ⟨b,k,none⟩ = some (Sq.val zs[k])) ∧ zs.map Prod.snd = qs ∧ ∀ q ∈ zs,By.Block X q.1 q.2 ∧ w.heap.size ≤ q.1 := by
 obtain ⟨gs,a,b,c⟩ := h
 obtain ⟨ao,cap,e,h1,h2,h3⟩ := sq_row a
 refine ⟨ao,gs.length,cap,gs,e,rfl,fun z => ?_,?_,b,fun q hq => ⟨(c q hq).1,(c q hq).2.1⟩⟩
 ·
  subst z
  rcases a.2 with ⟨h',_⟩ | ⟨g,cap',cur,h',_⟩
  ·
   rw [e] at h'
   simp only [Value.slice.injEq] at h'
   exact h'.2.2
  ·
   rw [e] at h'
   simp at h'
 ·
  by_cases z : gs = []
  · exact .inl z
  ·
   refine .inr ?_
   have h0 : 0 < gs.length := List.length_pos_iff.2 z
   obtain ⟨g,e1,_⟩ := h3 0 h0
   refine ⟨g,e1,fun k hk => ?_⟩
   obtain ⟨g',e2,hc⟩ := h3 k hk
   rw [e1] at e2
   cases e2
   exact hc
theorem pays_app (a b : List Rec) : pays (a ++ b) = pays a ++ pays b := List.map_append
theorem ents_len (l : List Et.T) : (pays (ents l)).length = l.length := by
 unfold pays ents
 rw [List.length_map,List.length_map]
def PaysE (w : World) (l : List Rec) (e : Ending) (w' : World) : Prop := ∃ v,e = .returned v ∧ Recs w w' v (pays l) ∧ Below w.heap.size w w'
theorem pay_beg (t v b c m : Int) : nums [1,t,v,b,c,m] = pay (.beg t v b c m) := by simp [nums,pay]
theorem pay_rdy : nums [3] = pay .rdy := by simp [nums,pay]
theorem pay_vot (t v : Int) : nums [4,t,v] = pay (.vot t v) := by simp [nums,pay]
theorem pay_cut (n : Int) : nums [5,n] = pay (.cut n) := by simp [nums,pay]
def HFit (r : Hd.T) : Prop := Fit r.term ∧ Fit r.vote ∧ Fit r.base ∧ Fit r.bt ∧ Fit r.mem
set_option maxHeartbeats 4000000 in
theorem wl_whole (r : Hd.T) (l : List Et.T) (w : World) (hl : Et.Ls w r.log.ao r.log.n r.log.cap l) (hd : ∀ e ∈ l,e.data.size ≤ 1100) (hn : l.length ≤ 1000) (hf : HFit r) :
  Calls Tryz.prog 98 #[Hd.val r] w (PaysE w (whole (Hd.h r l))) := by
 obtain ⟨⟨ao,n,cap⟩,hlog⟩ : ∃ s,r.log = s := ⟨_,rfl⟩
 rw [hlog] at hl
 dsimp only at hl
 have HL := Lib.hid hl
 have HD := Lib.hid hd
 have HN : Hid (n = l.length ∧ l.length ≤ 1000) := Lib.hid ⟨hl.len,hn⟩
 have hnn : n ≤ 1000 := by have := hl.len; omega
 have HW : Hid (whole (Hd.h r l) = [.beg r.term r.vote r.base r.bt r.mem] ++ ents l ++ [.rdy]) := Lib.hid (by unfold whole Hd.h; simp)
 have HZ : Hid (∀ z ∈ [1,r.term,r.vote,r.base,r.bt,r.mem],Fit z) := Lib.hid (by
  intro z hz
  obtain ⟨f1,f2,f3,f4,f5⟩ := hf
  simp only [List.mem_cons,List.not_mem_nil,or_false] at hz
  rcases hz with rfl | rfl | rfl | rfl | rfl | rfl
  · exact ⟨by decide,by decide⟩
  all_goals assumption)
 have HZ3 : Hid (∀ z ∈ [(3 : Int)],Fit z) := Lib.hid (by
  intro z hz
  rw [List.mem_singleton.1 hz]
  exact ⟨by decide,by decide⟩)
 obtain ⟨W,hW,hbW,hC⟩ := Hd.boxed1 w r
 have HBW := Lib.hid hbW
 have HC := Lib.hid hC
 have HLg := Lib.hid hlog
 unfold Hd.C at hC
 rw [hlog] at hC hW
 dsimp only at hC hW
 obtain ⟨a0,a1,a2,a3,a4,a5,a6⟩ := hC
 unfold Hd.val
 rw [hlog]
 dsimp only
 clear hl hd hn hf hlog hbW
 go_enter Tryz.func98,Tryz.ntmps98
 go_wp2_with fail
 refine (rec_one (u := W) [1,r.term,r.vote,r.base,r.bt,r.mem] HZ.out (by simp) (by simp) _ (pay_beg _ _ _ _ _) 6 rfl _ rfl).mono ?_
 rintro e u1 ⟨g1,L1,rfl,b1,h1⟩
 obtain ⟨k1,k2,k3,k4,k5⟩ := h1 _ rfl
 have HR1 := Lib.hid (recs_lit (w := w) k1 (Nat.le_trans HBW.out.size b1.size) k2 (Nat.le_trans HBW.out.size k3) k4)
 have HX1 := Lib.hid (bchain HBW.out k5)
 have hC1 := HC.out.below k5
 unfold Hd.C at hC1
 rw [HLg.out] at hC1
 dsimp only at hC1
 obtain ⟨d0,d1,d2,d3,d4,d5,d6⟩ := hC1
 have CE := Lib.hid (wl_entries ao n cap l _ (HL.out.below HX1.out) HD.out hnn)
 clear k1 k2 k3 k4 k5 h1 b1 a0 a1 a2 a3 a4 a5 a6 hW
 go_wp2_with fail
 refine CE.out.mono ?_
 rintro e u2 ⟨v2,rfl,r2,b2⟩
 obtain ⟨ao2,n2,cap2,zs,rfl,e2,e3,e4,e5,e6⟩ := recs_src r2
 have HR2 := Lib.hid (HR1.out.below b2)
 have HX2 := Lib.hid (bchain HX1.out b2)
 have HS2 := Lib.hid (And.intro e2 (And.intro e3 e4))
 have HE5 := Lib.hid e5
 have HE6 : Hid (∀ q ∈ zs,By.Block u2 q.1 q.2 ∧ w.heap.size ≤ q.1 ∧ (Value.slice (some ⟨u1.heap.size,0,none⟩) 1 1).ownBlock ≠ some q.1) := Lib.hid fun q hq => by
  obtain ⟨x1,x2⟩ := e6 q hq
  refine ⟨x1,Nat.le_trans HX1.out.size x2,fun z => ?_⟩
  have := HR1.out.own_lt _ z
  omega
 have HFw : Hid (([pay (.beg r.term r.vote r.base r.bt r.mem)] : List (List UInt8)).length + n2 ≤ 100000) := Lib.hid (by
  have h1 := congrArg List.length HE5.out
  rw [List.length_map,ents_len] at h1
  have := HN.out.2
  rw [HS2.out.1,h1]
  simp only [List.length_singleton]
  omega)
 clear r2 b2 e2 e3 e4 e5 e6 CE d0 d1 d2 d3 d4 d5 d6
 go_wp2_with (at_builtin; go_must (refine recs_list u2 rfl (.tmp 17) (.tmp 20) rfl (.slice (some ⟨u1.heap.size,0,none⟩) 1 1) _ rfl HR2.out HX2.out ao2 n2 cap2 zs rfl HS2.out.1 HS2.out.2.1 HS2.out.2.2 HE6.out HFw.out ?_))
 intro v3 u3 r3 b3 _
 rw [HE5.out] at r3
 have HR3 := Lib.hid r3
 have HX3 := Lib.hid b3
 clear r3 b3
 go_wp2_with fail
 refine (rec_one (u := u3) [3] HZ3.out (by simp) (by simp) _ pay_rdy 1 rfl _ rfl).mono ?_
 rintro e u4 ⟨g4,L4,rfl,b4,h4⟩
 obtain ⟨k1,k2,k3,k4,k5⟩ := h4 _ rfl
 have HR4 := Lib.hid (HR3.out.below k5)
 have HX4 := Lib.hid (bchain HX3.out k5)
 have HS4 := Lib.hid (one_src k1)
 have HE4 : Hid (∀ q ∈ [(g4,pay .rdy)],By.Block (u4.alloc (.cells #[.slice (some ⟨g4,0,none⟩) L4 L4] 59)) q.1 q.2 ∧ w.heap.size ≤ q.1 ∧ v3.ownBlock ≠ some q.1) := Lib.hid fun q hq => by
  obtain rfl := List.mem_singleton.1 hq
  refine ⟨k2,Nat.le_trans HX3.out.size k3,fun z => ?_⟩
  have := HR3.out.own_lt _ z
  omega
 have HF4 : Hid (([pay (.beg r.term r.vote r.base r.bt r.mem)] ++ pays (ents l)).length + 1 ≤ 100000) := Lib.hid (by
  rw [List.length_append,ents_len]
  have := HN.out.2
  simp only [List.length_singleton]
  omega)
 clear k1 k2 k3 k4 k5 h4 b4
 go_wp2_with (at_builtin; go_must (refine recs_list _ rfl (.tmp 22) (.tmp 25) rfl v3 _ rfl HR4.out HX4.out (some ⟨u4.heap.size,0,none⟩) 1 1 [(g4,pay .rdy)] rfl rfl (fun z => by cases z) (.inr ⟨_,rfl,HS4.out⟩) HE4.out HF4.out ?_))
 intro v5 u5 r5 b5 _
 have HR5 : Hid (PaysE w (whole (Hd.h r l)) (.returned v5) u5) := Lib.hid ⟨v5,rfl,by rw [HW.out,pays_app,pays_app]; exact r5,b5⟩
 clear r5 b5
 go_wp2_with fail
 go_ret
 exact HR5.out
end Go.Proofs.YtlmjeackfepllaaGreatDoor.Wl
namespace Go.Proofs.YtlmjeackfepllaaGreatDoor.Wl
open Go.RowKit
open Mem Pk
theorem Recs.since {w W u : World} {v : Value} {ps : List (List UInt8)} (h : Recs W u v ps) (k : w.heap.size ≤ W.heap.size) : Recs w u v ps := by
 obtain ⟨gs,a,b,c⟩ := h
 refine ⟨gs,?_,b,fun q hq => ⟨(c q hq).1,Nat.le_trans k (c q hq).2.1,(c q hq).2.2⟩⟩
 obtain ⟨h1,h2⟩ := a
 refine ⟨h1,?_⟩
 rcases h2 with h2 | ⟨g,cap,cur,h',hb,h3⟩
 · exact .inl h2
 · exact .inr ⟨g,cap,cur,h',by omega,h3⟩
set_option maxHeartbeats 8000000 in
theorem wl_change (r r' : Hd.T) (l l' : List Et.T) (w : World) (hl : Et.Ls w r.log.ao r.log.n r.log.cap l) (hl' : Et.Ls w r'.log.ao r'.log.n r'.log.cap l') (hd : ∀ e ∈ l',e.data.size ≤ 1100) (hn : l.length ≤ 1000) (hn' : l'.length ≤ 1000) (hf : HFit r') (hb : 0 ≤ r'.base ∧ r'.base ≤ 1099511627776) :
  Calls Tryz.prog 95 #[Hd.val r,Hd.val r'] w (PaysE w (change (Hd.h r l) (Hd.h r' l'))) := by
 obtain ⟨⟨ao,n,cap⟩,hlog⟩ : ∃ s,r.log = s := ⟨_,rfl⟩
 obtain ⟨⟨ao',n',cap'⟩,hlog'⟩ : ∃ s,r'.log = s := ⟨_,rfl⟩
 rw [hlog] at hl
 rw [hlog'] at hl'
 dsimp only at hl hl'
 have HL := Lib.hid hl
 have HL' := Lib.hid hl'
 have HD := Lib.hid hd
 have HN : Hid ((n = l.length ∧ l.length ≤ 1000) ∧ n' = l'.length ∧ l'.length ≤ 1000) := Lib.hid ⟨⟨hl.len,hn⟩,hl'.len,hn'⟩
 have hnn : n ≤ 1000 := by have := hl.len; omega
 have hnn' : n' ≤ 1000 := by have := hl'.len; omega
 have hcap' := hl'.reach
 have hfit' := hl'.fits
 obtain ⟨al,hal⟩ : ∃ al,begun l l' = al := ⟨_,rfl⟩
 have hle := begun_le l l'
 rw [hal] at hle
 have hal1 : al ≤ n := by have := hl.len; omega
 have hal2 : al ≤ n' := by have := hl'.len; omega
 have HW : Hid (change (Hd.h r l) (Hd.h r' l') = (if r'.term ≠ r.term ∨ r'.vote ≠ r.vote then [.vot r'.term r'.vote] else []) ++ ((if al < n then [.cut (r'.base + (al : Int))] else []) ++ ents (l'.drop al))) := Lib.hid (by
  unfold change Hd.h
  simp only [hal]
  rw [hl.len])
 have HZv : Hid (∀ z ∈ [4,r'.term,r'.vote],Fit z) := Lib.hid (by
  intro z hz
  obtain ⟨f1,f2,_⟩ := hf
  simp only [List.mem_cons,List.not_mem_nil,or_false] at hz
  rcases hz with rfl | rfl | rfl
  · exact ⟨by decide,by decide⟩
  all_goals assumption)
 have hsum : IntKind.i64.wrap (r'.base + (al : Int)) = r'.base + (al : Int) := by rw [IntKind.wrap_i64]; omega
 have HZc : Hid (∀ z ∈ [5,r'.base + (al : Int)],Fit z) := Lib.hid (by
  intro z hz
  simp only [List.mem_cons,List.not_mem_nil,or_false] at hz
  rcases hz with rfl | rfl
  · exact ⟨by decide,by decide⟩
  · exact ⟨by omega,by omega⟩)
 obtain ⟨ao2,cap2,hsl,hL2⟩ := hl'.from al hal2
 have hcap2 := hL2.reach
 have hfit2 := hL2.fits
 obtain ⟨j,hj⟩ : ∃ j,n' - al = j := ⟨_,rfl⟩
 rw [hj] at hsl hL2 hfit2
 have hj1 : j ≤ 1000 := by omega
 have HL2 := Lib.hid hL2
 have HD2 : Hid (∀ e ∈ l'.drop al,e.data.size ≤ 1100) := Lib.hid fun e he => HD.out e (List.mem_of_mem_drop he)
 obtain ⟨W0,hW0,hbW0,hC0⟩ := Hd.boxed1 w r
 obtain ⟨W,hW,hbW,hC'⟩ := Hd.boxed1 W0 r'
 have hC := hC0.below hbW
 have HBW := Lib.hid (bchain hbW0 hbW)
 have HC := Lib.hid hC
 have HC' := Lib.hid hC'
 have HLg := Lib.hid hlog
 have HLg' := Lib.hid hlog'
 have CB := Lib.hid (fun u (k : Below w.heap.size w u) => wl_begun ao ao' n n' cap cap' l l' u (hl.below k) (hl'.below k))
 rw [hal] at CB
 unfold Hd.C at hC hC'
 rw [hlog] at hC hW0
 rw [hlog'] at hC' hW
 dsimp only at hC hC' hW hW0
 obtain ⟨a0,a1,a2,a3,a4,a5,a6⟩ := hC
 obtain ⟨b0,b1,b2,b3,b4,b5,b6⟩ := hC'
 unfold Hd.val
 rw [hlog,hlog']
 dsimp only
 have HAl : Hid (al ≤ l.length ∧ al ≤ l'.length) := Lib.hid hle
 clear hl hl' hd hn hn' hf hlog hlog' hbW hbW0 hC0 hL2 hle hal hb
 by_cases ht : r'.term = r.term
 ·
  have q1 : (r'.term != r.term) = false := by rw [ht]; exact bne_self_eq_false _
  by_cases hv : r'.vote = r.vote
  ·
   have q2 : (r'.vote != r.vote) = false := by rw [hv]; exact bne_self_eq_false _
   have HCd : Hid (¬ (r'.term ≠ r.term ∨ r'.vote ≠ r.vote)) := Lib.hid fun z => z.elim (fun z => z ht) fun z => z hv
   clear ht hv
   go_enter Tryz.func95,Tryz.ntmps95
   go_wp2_with fail
   refine (CB.out W (bchain HBW.out (Below.refl W.heap.size W))).mono ?_
   rintro e uB ⟨rfl,bq⟩
   have HXB := Lib.hid (bchain (Below.refl W.heap.size W) bq)
   have hB := HC.out.below HXB.out
   have kB := HC'.out.below HXB.out
   unfold Hd.C at hB kB
   rw [HLg.out] at hB
   rw [HLg'.out] at kB
   dsimp only at hB kB
   obtain ⟨mB0,mB1,mB2,mB3,mB4,mB5,mB6⟩ := hB
   obtain ⟨nB0,nB1,nB2,nB3,nB4,nB5,nB6⟩ := kB
   have HRB := Lib.hid (Recs.below (recs_nil W W) bq)
   clear bq
   by_cases hc : al < n
   ·
    go_wp2_with fail
    refine (rec_one (u := uB) [5,r'.base + (al : Int)] HZc.out (by simp) (by simp) _ (pay_cut _) 2 rfl _ rfl).mono ?_
    rintro e yC ⟨gC,LC,rfl,bbC,hC⟩
    obtain ⟨k1,k2,k3,k4,k5⟩ := hC _ rfl
    have HRaC := Lib.hid (Recs.below HRB.out k5)
    have HXaC := Lib.hid (bchain HXB.out k5)
    have HSaC := Lib.hid (one_src k1)
    have HEaC : Hid (∀ q ∈ [(gC,pay (Rec.cut (r'.base + (al : Int))))],By.Block (yC.alloc (.cells #[.slice (some ⟨gC,0,none⟩) LC LC] 59)) q.1 q.2 ∧ W.heap.size ≤ q.1 ∧ (.slice none 0 0 : Value).ownBlock ≠ some q.1) := Lib.hid fun q hq => by
     obtain rfl := List.mem_singleton.1 hq
     have hs2 := Below.size HXB.out
     refine ⟨k2,by omega,fun z => ?_⟩
     have := Recs.own_lt HRB.out _ z
     omega
    clear k1 k2 k3 k4 k5 hC bbC
    go_wp2_with (at_builtin; go_must (refine recs_list _ rfl (.tmp 38) (.tmp 45) rfl (.slice none 0 0) _ rfl HRaC.out HXaC.out (some ⟨yC.heap.size,0,none⟩) 1 1 [(gC,pay (Rec.cut (r'.base + (al : Int))))] rfl rfl (fun z => by cases z) (.inr ⟨_,rfl,HSaC.out⟩) HEaC.out (by simp) ?_))
    intro vC uC rC bC _
    have HRC := Lib.hid rC
    have HXC := Lib.hid bC
    clear rC bC
    have hC := HC.out.below HXC.out
    have kC := HC'.out.below HXC.out
    unfold Hd.C at hC kC
    rw [HLg.out] at hC
    rw [HLg'.out] at kC
    dsimp only at hC kC
    obtain ⟨mC0,mC1,mC2,mC3,mC4,mC5,mC6⟩ := hC
    obtain ⟨nC0,nC1,nC2,nC3,nC4,nC5,nC6⟩ := kC
    clear mB0 mB1 mB2 mB3 mB4 mB5 mB6 nB0 nB1 nB2 nB3 nB4 nB5 nB6
    have CE := Lib.hid (wl_entries ao2 j cap2 (l'.drop al) uC (HL2.out.below (bchain HBW.out HXC.out)) HD2.out hj1)
    go_wp2_with fail
    refine CE.out.mono ?_
    rintro e uE ⟨vE,rfl,rE,bE⟩
    obtain ⟨ao3,n3,cap3,zs,rfl,e2,e3,e4,e5,e6⟩ := recs_src rE
    have HRE := Lib.hid (Recs.below HRC.out bE)
    have HXE := Lib.hid (bchain HXC.out bE)
    have HSE := Lib.hid (And.intro e2 (And.intro e3 e4))
    have HE5 := Lib.hid e5
    have HE6 : Hid (∀ q ∈ zs,By.Block uE q.1 q.2 ∧ W.heap.size ≤ q.1 ∧ (vC : Value).ownBlock ≠ some q.1) := Lib.hid fun q hq => by
     obtain ⟨x1,x2⟩ := e6 q hq
     refine ⟨x1,Nat.le_trans (Below.size HXC.out) x2,fun z => ?_⟩
     have := Recs.own_lt HRC.out _ z
     omega
    have HFw : Hid ((([] : List (List UInt8)) ++ List.map Prod.snd [(gC,pay (Rec.cut (r'.base + (al : Int))))] : List (List UInt8)).length + n3 ≤ 100000) := Lib.hid (by
     have h1 := congrArg List.length HE5.out
     rw [List.length_map,ents_len,List.length_drop] at h1
     have := HN.out.2
     rw [HSE.out.1,h1]
     simp
     omega)
    clear rE bE e2 e3 e4 e5 e6 CE
    go_wp2_with (at_builtin; go_must (refine recs_list uE rfl (.tmp 47) (.tmp 52) rfl (vC) _ rfl HRE.out HXE.out ao3 n3 cap3 zs rfl HSE.out.1 HSE.out.2.1 HSE.out.2.2 HE6.out HFw.out ?_))
    intro vF uF rF bF _
    rw [HE5.out] at rF
    have HRF : Hid (PaysE w (change (Hd.h r l) (Hd.h r' l')) (.returned vF) uF) := Lib.hid ⟨vF,rfl,Recs.since (by rw [HW.out,if_neg HCd.out,if_pos hc]; simpa [pays] using rF) HBW.out.size,bchain HBW.out bF⟩
    clear rF bF
    go_wp2_with fail
    go_ret
    exact HRF.out
   ·
    have CE := Lib.hid (wl_entries ao2 j cap2 (l'.drop al) uB (HL2.out.below (bchain HBW.out HXB.out)) HD2.out hj1)
    go_wp2_with fail
    refine CE.out.mono ?_
    rintro e uE ⟨vE,rfl,rE,bE⟩
    obtain ⟨ao3,n3,cap3,zs,rfl,e2,e3,e4,e5,e6⟩ := recs_src rE
    have HRE := Lib.hid (Recs.below HRB.out bE)
    have HXE := Lib.hid (bchain HXB.out bE)
    have HSE := Lib.hid (And.intro e2 (And.intro e3 e4))
    have HE5 := Lib.hid e5
    have HE6 : Hid (∀ q ∈ zs,By.Block uE q.1 q.2 ∧ W.heap.size ≤ q.1 ∧ (.slice none 0 0 : Value).ownBlock ≠ some q.1) := Lib.hid fun q hq => by
     obtain ⟨x1,x2⟩ := e6 q hq
     refine ⟨x1,Nat.le_trans (Below.size HXB.out) x2,fun z => ?_⟩
     have := Recs.own_lt HRB.out _ z
     omega
    have HFw : Hid ((([] : List (List UInt8)) : List (List UInt8)).length + n3 ≤ 100000) := Lib.hid (by
     have h1 := congrArg List.length HE5.out
     rw [List.length_map,ents_len,List.length_drop] at h1
     have := HN.out.2
     rw [HSE.out.1,h1]
     simp
     omega)
    clear rE bE e2 e3 e4 e5 e6 CE
    go_wp2_with (at_builtin; go_must (refine recs_list uE rfl (.tmp 47) (.tmp 52) rfl (.slice none 0 0) _ rfl HRE.out HXE.out ao3 n3 cap3 zs rfl HSE.out.1 HSE.out.2.1 HSE.out.2.2 HE6.out HFw.out ?_))
    intro vF uF rF bF _
    rw [HE5.out] at rF
    have HRF : Hid (PaysE w (change (Hd.h r l) (Hd.h r' l')) (.returned vF) uF) := Lib.hid ⟨vF,rfl,Recs.since (by rw [HW.out,if_neg HCd.out,if_neg hc]; simpa [pays] using rF) HBW.out.size,bchain HBW.out bF⟩
    clear rF bF
    go_wp2_with fail
    go_ret
    exact HRF.out
  ·
   have q2 : (r'.vote != r.vote) = true := bne_iff_ne.2 hv
   have HCd : Hid (r'.term ≠ r.term ∨ r'.vote ≠ r.vote) := Lib.hid (.inr hv)
   clear ht hv
   go_enter Tryz.func95,Tryz.ntmps95
   go_wp2_with fail
   refine (rec_one (u := W) [4,r'.term,r'.vote] HZv.out (by simp) (by simp) _ (pay_vot _ _) 3 rfl _ rfl).mono ?_
   rintro e yV ⟨gV,LV,rfl,bbV,hV⟩
   obtain ⟨k1,k2,k3,k4,k5⟩ := hV _ rfl
   have HRaV := Lib.hid (Recs.below (recs_nil W W) k5)
   have HXaV := Lib.hid (bchain (Below.refl W.heap.size W) k5)
   have HSaV := Lib.hid (one_src k1)
   have HEaV : Hid (∀ q ∈ [(gV,pay (Rec.vot r'.term r'.vote))],By.Block (yV.alloc (.cells #[.slice (some ⟨gV,0,none⟩) LV LV] 59)) q.1 q.2 ∧ W.heap.size ≤ q.1 ∧ (.slice none 0 0 : Value).ownBlock ≠ some q.1) := Lib.hid fun q hq => by
    obtain rfl := List.mem_singleton.1 hq
    have hs2 := Below.size (Below.refl W.heap.size W)
    refine ⟨k2,by omega,fun z => ?_⟩
    have := Recs.own_lt (recs_nil W W) _ z
    omega
   clear k1 k2 k3 k4 k5 hV bbV
   go_wp2_with (at_builtin; go_must (refine recs_list _ rfl (.tmp 19) (.tmp 26) rfl (.slice none 0 0) [] rfl HRaV.out HXaV.out (some ⟨yV.heap.size,0,none⟩) 1 1 [(gV,pay (Rec.vot r'.term r'.vote))] rfl rfl (fun z => by cases z) (.inr ⟨_,rfl,HSaV.out⟩) HEaV.out (by simp) ?_))
   intro vV uV rV bV _
   have HRV := Lib.hid rV
   have HXV := Lib.hid bV
   clear rV bV
   have hV := HC.out.below HXV.out
   have kV := HC'.out.below HXV.out
   unfold Hd.C at hV kV
   rw [HLg.out] at hV
   rw [HLg'.out] at kV
   dsimp only at hV kV
   obtain ⟨mV0,mV1,mV2,mV3,mV4,mV5,mV6⟩ := hV
   obtain ⟨nV0,nV1,nV2,nV3,nV4,nV5,nV6⟩ := kV
   clear a0 a1 a2 a3 a4 a5 a6 b0 b1 b2 b3 b4 b5 b6 hW hW0
   go_wp2_with fail
   refine (CB.out uV (bchain HBW.out HXV.out)).mono ?_
   rintro e uB ⟨rfl,bq⟩
   have HXB := Lib.hid (bchain HXV.out bq)
   have hB := HC.out.below HXB.out
   have kB := HC'.out.below HXB.out
   unfold Hd.C at hB kB
   rw [HLg.out] at hB
   rw [HLg'.out] at kB
   dsimp only at hB kB
   obtain ⟨mB0,mB1,mB2,mB3,mB4,mB5,mB6⟩ := hB
   obtain ⟨nB0,nB1,nB2,nB3,nB4,nB5,nB6⟩ := kB
   have HRB := Lib.hid (Recs.below HRV.out bq)
   clear bq
   by_cases hc : al < n
   ·
    go_wp2_with fail
    refine (rec_one (u := uB) [5,r'.base + (al : Int)] HZc.out (by simp) (by simp) _ (pay_cut _) 2 rfl _ rfl).mono ?_
    rintro e yC ⟨gC,LC,rfl,bbC,hC⟩
    obtain ⟨k1,k2,k3,k4,k5⟩ := hC _ rfl
    have HRaC := Lib.hid (Recs.below HRB.out k5)
    have HXaC := Lib.hid (bchain HXB.out k5)
    have HSaC := Lib.hid (one_src k1)
    have HEaC : Hid (∀ q ∈ [(gC,pay (Rec.cut (r'.base + (al : Int))))],By.Block (yC.alloc (.cells #[.slice (some ⟨gC,0,none⟩) LC LC] 59)) q.1 q.2 ∧ W.heap.size ≤ q.1 ∧ (vV : Value).ownBlock ≠ some q.1) := Lib.hid fun q hq => by
     obtain rfl := List.mem_singleton.1 hq
     have hs2 := Below.size HXB.out
     refine ⟨k2,by omega,fun z => ?_⟩
     have := Recs.own_lt HRB.out _ z
     omega
    clear k1 k2 k3 k4 k5 hC bbC
    go_wp2_with (at_builtin; go_must (refine recs_list _ rfl (.tmp 38) (.tmp 45) rfl (vV) _ rfl HRaC.out HXaC.out (some ⟨yC.heap.size,0,none⟩) 1 1 [(gC,pay (Rec.cut (r'.base + (al : Int))))] rfl rfl (fun z => by cases z) (.inr ⟨_,rfl,HSaC.out⟩) HEaC.out (by simp) ?_))
    intro vC uC rC bC _
    have HRC := Lib.hid rC
    have HXC := Lib.hid bC
    clear rC bC
    have hC := HC.out.below HXC.out
    have kC := HC'.out.below HXC.out
    unfold Hd.C at hC kC
    rw [HLg.out] at hC
    rw [HLg'.out] at kC
    dsimp only at hC kC
    obtain ⟨mC0,mC1,mC2,mC3,mC4,mC5,mC6⟩ := hC
    obtain ⟨nC0,nC1,nC2,nC3,nC4,nC5,nC6⟩ := kC
    clear mB0 mB1 mB2 mB3 mB4 mB5 mB6 nB0 nB1 nB2 nB3 nB4 nB5 nB6
    have CE := Lib.hid (wl_entries ao2 j cap2 (l'.drop al) uC (HL2.out.below (bchain HBW.out HXC.out)) HD2.out hj1)
    go_wp2_with fail
    refine CE.out.mono ?_
    rintro e uE ⟨vE,rfl,rE,bE⟩
    obtain ⟨ao3,n3,cap3,zs,rfl,e2,e3,e4,e5,e6⟩ := recs_src rE
    have HRE := Lib.hid (Recs.below HRC.out bE)
    have HXE := Lib.hid (bchain HXC.out bE)
    have HSE := Lib.hid (And.intro e2 (And.intro e3 e4))
    have HE5 := Lib.hid e5
    have HE6 : Hid (∀ q ∈ zs,By.Block uE q.1 q.2 ∧ W.heap.size ≤ q.1 ∧ (vC : Value).ownBlock ≠ some q.1) := Lib.hid fun q hq => by
     obtain ⟨x1,x2⟩ := e6 q hq
     refine ⟨x1,Nat.le_trans (Below.size HXC.out) x2,fun z => ?_⟩
     have := Recs.own_lt HRC.out _ z
     omega
    have HFw : Hid ((([] ++ List.map Prod.snd [(gV,pay (Rec.vot r'.term r'.vote))]) ++ List.map Prod.snd [(gC,pay (Rec.cut (r'.base + (al : Int))))] : List (List UInt8)).length + n3 ≤ 100000) := Lib.hid (by
     have h1 := congrArg List.length HE5.out
     rw [List.length_map,ents_len,List.length_drop] at h1
     have := HN.out.2
     rw [HSE.out.1,h1]
     simp
     omega)
    clear rE bE e2 e3 e4 e5 e6 CE
    go_wp2_with (at_builtin; go_must (refine recs_list uE rfl (.tmp 47) (.tmp 52) rfl (vC) _ rfl HRE.out HXE.out ao3 n3 cap3 zs rfl HSE.out.1 HSE.out.2.1 HSE.out.2.2 HE6.out HFw.out ?_))
    intro vF uF rF bF _
    rw [HE5.out] at rF
    have HRF : Hid (PaysE w (change (Hd.h r l) (Hd.h r' l')) (.returned vF) uF) := Lib.hid ⟨vF,rfl,Recs.since (by rw [HW.out,if_pos HCd.out,if_pos hc]; simpa [pays] using rF) HBW.out.size,bchain HBW.out bF⟩
    clear rF bF
    go_wp2_with fail
    go_ret
    exact HRF.out
   ·
    have CE := Lib.hid (wl_entries ao2 j cap2 (l'.drop al) uB (HL2.out.below (bchain HBW.out HXB.out)) HD2.out hj1)
    go_wp2_with fail
    refine CE.out.mono ?_
    rintro e uE ⟨vE,rfl,rE,bE⟩
    obtain ⟨ao3,n3,cap3,zs,rfl,e2,e3,e4,e5,e6⟩ := recs_src rE
    have HRE := Lib.hid (Recs.below HRB.out bE)
    have HXE := Lib.hid (bchain HXB.out bE)
    have HSE := Lib.hid (And.intro e2 (And.intro e3 e4))
    have HE5 := Lib.hid e5
    have HE6 : Hid (∀ q ∈ zs,By.Block uE q.1 q.2 ∧ W.heap.size ≤ q.1 ∧ (vV : Value).ownBlock ≠ some q.1) := Lib.hid fun q hq => by
     obtain ⟨x1,x2⟩ := e6 q hq
     refine ⟨x1,Nat.le_trans (Below.size HXB.out) x2,fun z => ?_⟩
     have := Recs.own_lt HRB.out _ z
     omega
    have HFw : Hid ((([] ++ List.map Prod.snd [(gV,pay (Rec.vot r'.term r'.vote))]) : List (List UInt8)).length + n3 ≤ 100000) := Lib.hid (by
     have h1 := congrArg List.length HE5.out
     rw [List.length_map,ents_len,List.length_drop] at h1
     have := HN.out.2
     rw [HSE.out.1,h1]
     simp
     omega)
    clear rE bE e2 e3 e4 e5 e6 CE
    go_wp2_with (at_builtin; go_must (refine recs_list uE rfl (.tmp 47) (.tmp 52) rfl (vV) _ rfl HRE.out HXE.out ao3 n3 cap3 zs rfl HSE.out.1 HSE.out.2.1 HSE.out.2.2 HE6.out HFw.out ?_))
    intro vF uF rF bF _
    rw [HE5.out] at rF
    have HRF : Hid (PaysE w (change (Hd.h r l) (Hd.h r' l')) (.returned vF) uF) := Lib.hid ⟨vF,rfl,Recs.since (by rw [HW.out,if_pos HCd.out,if_neg hc]; simpa [pays] using rF) HBW.out.size,bchain HBW.out bF⟩
    clear rF bF
    go_wp2_with fail
    go_ret
    exact HRF.out
 ·
  have q1 : (r'.term != r.term) = true := bne_iff_ne.2 ht
  have HCd : Hid (r'.term ≠ r.term ∨ r'.vote ≠ r.vote) := Lib.hid (.inl ht)
  clear ht
  go_enter Tryz.func95,Tryz.ntmps95
  go_wp2_with fail
  refine (rec_one (u := W) [4,r'.term,r'.vote] HZv.out (by simp) (by simp) _ (pay_vot _ _) 3 rfl _ rfl).mono ?_
  rintro e yV ⟨gV,LV,rfl,bbV,hV⟩
  obtain ⟨k1,k2,k3,k4,k5⟩ := hV _ rfl
  have HRaV := Lib.hid (Recs.below (recs_nil W W) k5)
  have HXaV := Lib.hid (bchain (Below.refl W.heap.size W) k5)
  have HSaV := Lib.hid (one_src k1)
  have HEaV : Hid (∀ q ∈ [(gV,pay (Rec.vot r'.term r'.vote))],By.Block (yV.alloc (.cells #[.slice (some ⟨gV,0,none⟩) LV LV] 59)) q.1 q.2 ∧ W.heap.size ≤ q.1 ∧ (.slice none 0 0 : Value).ownBlock ≠ some q.1) := Lib.hid fun q hq => by
   obtain rfl := List.mem_singleton.1 hq
   have hs2 := Below.size (Below.refl W.heap.size W)
   refine ⟨k2,by omega,fun z => ?_⟩
   have := Recs.own_lt (recs_nil W W) _ z
   omega
  clear k1 k2 k3 k4 k5 hV bbV
  go_wp2_with (at_builtin; go_must (refine recs_list _ rfl (.tmp 19) (.tmp 26) rfl (.slice none 0 0) [] rfl HRaV.out HXaV.out (some ⟨yV.heap.size,0,none⟩) 1 1 [(gV,pay (Rec.vot r'.term r'.vote))] rfl rfl (fun z => by cases z) (.inr ⟨_,rfl,HSaV.out⟩) HEaV.out (by simp) ?_))
  intro vV uV rV bV _
  have HRV := Lib.hid rV
  have HXV := Lib.hid bV
  clear rV bV
  have hV := HC.out.below HXV.out
  have kV := HC'.out.below HXV.out
  unfold Hd.C at hV kV
  rw [HLg.out] at hV
  rw [HLg'.out] at kV
  dsimp only at hV kV
  obtain ⟨mV0,mV1,mV2,mV3,mV4,mV5,mV6⟩ := hV
  obtain ⟨nV0,nV1,nV2,nV3,nV4,nV5,nV6⟩ := kV
  clear a0 a1 a2 a3 a4 a5 a6 b0 b1 b2 b3 b4 b5 b6 hW hW0
  go_wp2_with fail
  refine (CB.out uV (bchain HBW.out HXV.out)).mono ?_
  rintro e uB ⟨rfl,bq⟩
  have HXB := Lib.hid (bchain HXV.out bq)
  have hB := HC.out.below HXB.out
  have kB := HC'.out.below HXB.out
  unfold Hd.C at hB kB
  rw [HLg.out] at hB
  rw [HLg'.out] at kB
  dsimp only at hB kB
  obtain ⟨mB0,mB1,mB2,mB3,mB4,mB5,mB6⟩ := hB
  obtain ⟨nB0,nB1,nB2,nB3,nB4,nB5,nB6⟩ := kB
  have HRB := Lib.hid (Recs.below HRV.out bq)
  clear bq
  by_cases hc : al < n
  ·
   go_wp2_with fail
   refine (rec_one (u := uB) [5,r'.base + (al : Int)] HZc.out (by simp) (by simp) _ (pay_cut _) 2 rfl _ rfl).mono ?_
   rintro e yC ⟨gC,LC,rfl,bbC,hC⟩
   obtain ⟨k1,k2,k3,k4,k5⟩ := hC _ rfl
   have HRaC := Lib.hid (Recs.below HRB.out k5)
   have HXaC := Lib.hid (bchain HXB.out k5)
   have HSaC := Lib.hid (one_src k1)
   have HEaC : Hid (∀ q ∈ [(gC,pay (Rec.cut (r'.base + (al : Int))))],By.Block (yC.alloc (.cells #[.slice (some ⟨gC,0,none⟩) LC LC] 59)) q.1 q.2 ∧ W.heap.size ≤ q.1 ∧ (vV : Value).ownBlock ≠ some q.1) := Lib.hid fun q hq => by
    obtain rfl := List.mem_singleton.1 hq
    have hs2 := Below.size HXB.out
    refine ⟨k2,by omega,fun z => ?_⟩
    have := Recs.own_lt HRB.out _ z
    omega
   clear k1 k2 k3 k4 k5 hC bbC
   go_wp2_with (at_builtin; go_must (refine recs_list _ rfl (.tmp 38) (.tmp 45) rfl (vV) _ rfl HRaC.out HXaC.out (some ⟨yC.heap.size,0,none⟩) 1 1 [(gC,pay (Rec.cut (r'.base + (al : Int))))] rfl rfl (fun z => by cases z) (.inr ⟨_,rfl,HSaC.out⟩) HEaC.out (by simp) ?_))
   intro vC uC rC bC _
   have HRC := Lib.hid rC
   have HXC := Lib.hid bC
   clear rC bC
   have hC := HC.out.below HXC.out
   have kC := HC'.out.below HXC.out
   unfold Hd.C at hC kC
   rw [HLg.out] at hC
   rw [HLg'.out] at kC
   dsimp only at hC kC
   obtain ⟨mC0,mC1,mC2,mC3,mC4,mC5,mC6⟩ := hC
   obtain ⟨nC0,nC1,nC2,nC3,nC4,nC5,nC6⟩ := kC
   clear mB0 mB1 mB2 mB3 mB4 mB5 mB6 nB0 nB1 nB2 nB3 nB4 nB5 nB6
   have CE := Lib.hid (wl_entries ao2 j cap2 (l'.drop al) uC (HL2.out.below (bchain HBW.out HXC.out)) HD2.out hj1)
   go_wp2_with fail
   refine CE.out.mono ?_
   rintro e uE ⟨vE,rfl,rE,bE⟩
   obtain ⟨ao3,n3,cap3,zs,rfl,e2,e3,e4,e5,e6⟩ := recs_src rE
   have HRE := Lib.hid (Recs.below HRC.out bE)
   have HXE := Lib.hid (bchain HXC.out bE)
   have HSE := Lib.hid (And.intro e2 (And.intro e3 e4))
   have HE5 := Lib.hid e5
   have HE6 : Hid (∀ q ∈ zs,By.Block uE q.1 q.2 ∧ W.heap.size ≤ q.1 ∧ (vC : Value).ownBlock ≠ some q.1) := Lib.hid fun q hq => by
    obtain ⟨x1,x2⟩ := e6 q hq
    refine ⟨x1,Nat.le_trans (Below.size HXC.out) x2,fun z => ?_⟩
    have := Recs.own_lt HRC.out _ z
    omega
   have HFw : Hid ((([] ++ List.map Prod.snd [(gV,pay (Rec.vot r'.term r'.vote))]) ++ List.map Prod.snd [(gC,pay (Rec.cut (r'.base + (al : Int))))] : List (List UInt8)).length + n3 ≤ 100000) := Lib.hid (by
    have h1 := congrArg List.length HE5.out
    rw [List.length_map,ents_len,List.length_drop] at h1
    have := HN.out.2
    rw [HSE.out.1,h1]
    simp
    omega)
   clear rE bE e2 e3 e4 e5 e6 CE
   go_wp2_with (at_builtin; go_must (refine recs_list uE rfl (.tmp 47) (.tmp 52) rfl (vC) _ rfl HRE.out HXE.out ao3 n3 cap3 zs rfl HSE.out.1 HSE.out.2.1 HSE.out.2.2 HE6.out HFw.out ?_))
   intro vF uF rF bF _
   rw [HE5.out] at rF
   have HRF : Hid (PaysE w (change (Hd.h r l) (Hd.h r' l')) (.returned vF) uF) := Lib.hid ⟨vF,rfl,Recs.since (by rw [HW.out,if_pos HCd.out,if_pos hc]; simpa [pays] using rF) HBW.out.size,bchain HBW.out bF⟩
   clear rF bF
   go_wp2_with fail
   go_ret
   exact HRF.out
  ·
   have CE := Lib.hid (wl_entries ao2 j cap2 (l'.drop al) uB (HL2.out.below (bchain HBW.out HXB.out)) HD2.out hj1)
   go_wp2_with fail
   refine CE.out.mono ?_
   rintro e uE ⟨vE,rfl,rE,bE⟩
   obtain ⟨ao3,n3,cap3,zs,rfl,e2,e3,e4,e5,e6⟩ := recs_src rE
   have HRE := Lib.hid (Recs.below HRB.out bE)
   have HXE := Lib.hid (bchain HXB.out bE)
   have HSE := Lib.hid (And.intro e2 (And.intro e3 e4))
   have HE5 := Lib.hid e5
   have HE6 : Hid (∀ q ∈ zs,By.Block uE q.1 q.2 ∧ W.heap.size ≤ q.1 ∧ (vV : Value).ownBlock ≠ some q.1) := Lib.hid fun q hq => by
    obtain ⟨x1,x2⟩ := e6 q hq
    refine ⟨x1,Nat.le_trans (Below.size HXB.out) x2,fun z => ?_⟩
    have := Recs.own_lt HRB.out _ z
    omega
   have HFw : Hid ((([] ++ List.map Prod.snd [(gV,pay (Rec.vot r'.term r'.vote))]) : List (List UInt8)).length + n3 ≤ 100000) := Lib.hid (by
    have h1 := congrArg List.length HE5.out
    rw [List.length_map,ents_len,List.length_drop] at h1
    have := HN.out.2
    rw [HSE.out.1,h1]
    simp
    omega)
   clear rE bE e2 e3 e4 e5 e6 CE
   go_wp2_with (at_builtin; go_must (refine recs_list uE rfl (.tmp 47) (.tmp 52) rfl (vV) _ rfl HRE.out HXE.out ao3 n3 cap3 zs rfl HSE.out.1 HSE.out.2.1 HSE.out.2.2 HE6.out HFw.out ?_))
   intro vF uF rF bF _
   rw [HE5.out] at rF
   have HRF : Hid (PaysE w (change (Hd.h r l) (Hd.h r' l')) (.returned vF) uF) := Lib.hid ⟨vF,rfl,Recs.since (by rw [HW.out,if_pos HCd.out,if_neg hc]; simpa [pays] using rF) HBW.out.size,bchain HBW.out bF⟩
   clear rF bF
   go_wp2_with fail
   go_ret
   exact HRF.out
end Go.Proofs.YtlmjeackfepllaaGreatDoor.Wl
