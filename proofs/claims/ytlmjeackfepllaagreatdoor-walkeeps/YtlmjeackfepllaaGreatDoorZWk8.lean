import Derived.Lib.QuietBelow
import Derived.Test.YtlmjeackfepllaaGreatDoorZWk1
import Derived.Test.YtlmjeackfepllaaGreatDoorZWk2
import Derived.Test.YtlmjeackfepllaaGreatDoorZWk3
import Derived.Test.YtlmjeackfepllaaGreatDoorZWk6
import Derived.Test.YtlmjeackfepllaaGreatDoorZWk7
set_option maxRecDepth 100000
set_option linter.unusedVariables false
namespace Go.Proofs.YtlmjeackfepllaaGreatDoor
open Go.RowKit
open Mem Dk
theorem Dk.tear_name (f : F) (p : Nat) : (tear f p).name = f.name := rfl
theorem Dk.tear_kept (f : F) (p : Nat) : (tear f p).kept = (tear f p).bs.length := rfl
theorem Dk.tear_le (f : F) (p : Nat) : (tear f p).bs.length ≤ f.bs.length := by
 unfold tear
 simp only
 split
 ·
  unfold Dk.flip
  rw [List.length_set,List.length_take]
  exact Nat.min_le_right _ _
 ·
  rw [List.length_take]
  exact Nat.min_le_right _ _
theorem Dk.tear_ok {d : D} (h : Ok d) {k : Nat} (hk : k < d.fs.length) (p : Nat) : Ok ⟨d.fs.set k (tear d.fs[k] p),d.off,d.left⟩ := by
 have hm : ∀ f ∈ d.fs.set k (tear d.fs[k] p),f = tear d.fs[k] p ∨ f ∈ d.fs := fun f hf => (List.mem_or_eq_of_mem_set hf).symm
 have h1 := total_set hk (tear d.fs[k] p)
 have h2 := tear_le d.fs[k] p
 have h3 := h.room
 refine ⟨set_sorted h.sorted hk rfl,fun f hf => ?_,by show total (d.fs.set k (tear d.fs[k] p)) ≤ _; omega,fun f hf => ?_,h.left⟩
 ·
  rcases hm f hf with rfl | hf
  · exact Nat.le_of_eq (tear_kept _ _)
  · exact h.kept f hf
 ·
  rcases hm f hf with rfl | hf
  ·
   show d.fs[k].name.size ≤ 24
   exact h.names _ (List.getElem_mem hk)
  · exact h.names f hf
def Dk.upto (zs : List Int) (k : Nat) (fs : List F) : List F := fs.mapIdx fun i f => if i < k then tear f (pick zs i) else f
theorem Dk.upto_zero (zs : List Int) (fs : List F) : upto zs 0 fs = fs := by
 apply List.ext_getElem?
 intro i
 unfold upto
 rw [List.getElem?_mapIdx]
 cases fs[i]? <;> simp
theorem Dk.upto_all (zs : List Int) (fs : List F) : upto zs fs.length fs = fs.mapIdx fun i f => tear f (pick zs i) := by
 apply List.ext_getElem?
 intro i
 unfold upto
 rw [List.getElem?_mapIdx,List.getElem?_mapIdx]
 by_cases h : i < fs.length
 · simp only [if_pos h]
 ·
  rw [List.getElem?_eq_none (Nat.le_of_not_lt h)]
  rfl
theorem Dk.upto_len (zs : List Int) (k : Nat) (fs : List F) : (upto zs k fs).length = fs.length := by
 unfold upto
 rw [List.length_mapIdx]
theorem Dk.upto_next (zs : List Int) (fs : List F) {k : Nat} (hk : k < (upto zs k fs).length) : (upto zs k fs).set k (tear (upto zs k fs)[k] (pick zs k)) = upto zs (k + 1) fs := by
 have hf : k < fs.length := by rw [← upto_len zs k fs]; exact hk
 have e0 : (upto zs k fs)[k]? = some fs[k] := by
  unfold upto
  rw [List.getElem?_mapIdx,List.getElem?_eq_getElem hf]
  simp
 have e : (upto zs k fs)[k] = fs[k] := (List.getElem?_eq_some_iff.1 e0).2
 rw [e]
 apply List.ext_getElem?
 intro i
 rw [List.getElem?_set,upto_len]
 by_cases h : k = i
 ·
  subst h
  rw [if_pos rfl,if_pos hf]
  unfold upto
  rw [List.getElem?_mapIdx,List.getElem?_eq_getElem hf]
  simp
 ·
  rw [if_neg h]
  unfold upto
  rw [List.getElem?_mapIdx,List.getElem?_mapIdx]
  have : (i < k + 1) = (i < k) := by rw [eq_iff_iff]; omega
  simp only [this]
section
variable {P : Nat → Prop} {w u : World} {p : Nat} {d : D} {v : Sl} {L : Int} {rs : List Fl.T}
theorem Dk.At.stay (h : At P w p d v L rs) {k : Nat} (hk : k < rs.length) {r' : Fl.T} {f' : F} (rows : Fl.Own u 0 (sl v) (rs.set k r')) (one : One u r' f') (hu : UpdQ (fun b => (sl v).ownBlock = some b ∨ (sl rs[k].bytes).ownBlock = some b) w u)
  (hb : (sl r'.bytes).ownBlock = (sl rs[k].bytes).ownBlock) (ok : Ok ⟨d.fs.set k f',d.off,d.left⟩) : At P u p ⟨d.fs.set k f',d.off,d.left⟩ v L (rs.set k r') := by
 have h1 := Dk.At.row h hk rows one hu (.inl hb) ok
 have hpb : ∀ r ∈ rs.set k r',Pb P p (sl v) r := fun r hr => by
  rcases List.mem_or_eq_of_mem_set hr with hr | rfl
  · exact h.pbs r hr
  · exact fun b e => h.pb k hk b (hb ▸ e)
 exact ⟨h1.box,h1.arm,h1.rows,h1.each,h.pp,h.pv,fun i hi b e => hpb _ (List.getElem_mem hi) b e,h1.ap,h1.ok,h1.few⟩
theorem Ints.keep {Q : Nat → Prop} {w u : World} {ao : Option Addr} {n cap : Nat} {zs : List Int} (h : Ints w ao n cap zs) (k : UpdQ Q w u) (hQ : zs ≠ [] → ∀ ad,ao = some ad → ¬ Q ad.block) : Ints u ao n cap zs := by
 refine ⟨h.len,h.fits,h.reach,?_,h.wf⟩
 rcases h.seg with e | ⟨b,off,e,hc⟩
 · exact .inl e
 ·
  refine .inr ⟨b,off,e,fun i hi => ?_⟩
  have h1 := hc i hi
  have h2 := k.block b (cell_lt h1) (hQ (List.ne_nil_of_length_pos (by omega)) _ e)
  rw [← h1]
  unfold World.cell?
  simp only
  rw [h2]
theorem Dk.torn_row (h : At P w p d v L rs) {k : Nat} (hk : k < rs.length) (pk : Nat) (hp : pk ≤ 9223372036854775807) :
  ∃ g,w.cell? ⟨p,0,none⟩ = some (.slice (some ⟨g,0,none⟩) v.n v.cap) ∧ Calls Tryz.prog 63 #[.pointer (some ⟨g,k * 3,none⟩),.int .i64 (pk : Int)] w fun e w' => e = .returned (.tuple #[]) ∧ (∃ rs',At P w' p ⟨d.fs.set k (tear (d.fs[k]'(h.each.len ▸ hk)) pk),d.off,d.left⟩ v L rs') ∧ UpdQ P w w' := by
 have hn := h.n
 have hkf : k < d.fs.length := h.each.len ▸ hk
 obtain ⟨g,hv,hg⟩ := Dk.At.spot h (by omega)
 have hc := h.box.cells.1
 rw [hv] at hc
 have hone : One w rs[k] d.fs[k] := ⟨h.each.name k hk,h.each.kept k hk,h.each.own k hk⟩
 have hb1 := h.ok.kept _ (List.getElem_mem hkf)
 have hb2 := total_mem (List.getElem_mem hkf)
 have hb3 := h.ok.room
 refine ⟨g,hc,(fl_tear w g v.n v.cap rs k (sl_eq hv ▸ h.rows) hk d.fs[k] hone hb1 (by omega) (fun b e z => (h.pb k hk b e).2.2 (by rw [z]; exact hg)) pk hp).mono ?_⟩
 rintro e w' ⟨rfl,r',a1,a2,a3,a4⟩
 refine ⟨rfl,⟨rs.set k r',Dk.At.stay h hk (sl_eq hv ▸ a1) a2 (a4.mono fun b z => z.imp (fun z => by rw [z]; exact hg) id) a3 (tear_ok h.ok hkf pk)⟩,a4.mono fun b z => z.elim (fun z => by rw [z]; exact (h.pv g hg).1) fun z => (h.pb k hk b z).1⟩
def Dk.CrashE (P : Nat → Prop) (w : World) (p : Nat) (d : D) (zs : List Int) (e : Ending) (w' : World) : Prop := e = .returned (.tuple #[]) ∧ Dsk P w' p (crashD d zs) ∧ UpdQ P w w'
set_option maxHeartbeats 4000000 in
theorem dk_crash (h : At P w p d v L rs) (ao : Option Addr) (n cap : Nat) (zs : List Int) (hI : Ints w ao n cap zs) (hap : zs ≠ [] → ∀ ad,ao = some ad → ¬ P ad.block) :
  Calls Tryz.prog 24 #[.pointer (some ⟨p,0,none⟩),.slice ao n cap] w (CrashE P w p d zs) := by
 have hn := h.n
 have few := h.few
 have HI := Lib.hid hI
 have hcap := hI.reach
 have hfit := hI.fits
 have HLen := Lib.hid hI.len
 obtain ⟨c0,c1,c2,c3⟩ := h.box.cells
 have f1 := h.box.frozen 1
 have h1 := h.setOff false
 have k1 : UpdQ P w (w.setCell ⟨p,1,none⟩ (.bool false)) := UpdQ.set (Q := P) w h.pp _ _
 obtain ⟨W1,hW1⟩ : ∃ W1,w.setCell ⟨p,1,none⟩ (.bool false) = W1 := ⟨_,rfl⟩
 rw [hW1] at h1 k1
 have HAr := Lib.hid (dk_arm (-1) ⟨by omega,by omega⟩ h1)
 have HK1 := Lib.hid k1
 have HP := Lib.hid h.pp
 have HN : Hid (v.n = d.fs.length) := Lib.hid hn.1
 obtain ⟨N,hN⟩ : ∃ N,v.n = N := ⟨_,rfl⟩
 have hNm : N ≤ 1000 := by omega
 have HNe := Lib.hid hN
 clear h h1 k1 hI hn
 go_enter Tryz.func24,Tryz.ntmps24
 go_wp2_with (go_at_call 22; refine HAr.out.mono ?_)
 rintro e W2 ⟨rfl,h2,q2⟩
 have h2' : At P W2 p ⟨d.fs,false,-1⟩ v (-1) rs := h2
 have HK2 := Lib.hid (HK1.out.trans (q2.mono (R := P) fun b z => z ▸ HP.out))
 have HS2 := Lib.hid h2'
 obtain ⟨d0,d1,d2,d3⟩ := h2'.box.cells
 rw [hN] at d0
 clear h2 h2' q2 HAr hW1 c0 c1 c2 c3 f1 HK1 hN
 go_wp2_with fail
 go_loopw [4,5,16] (fun _ _ i wr => ∃ k : Nat,k ≤ N ∧ i = .int .i64 k ∧ Hid (∃ rs',At P wr p ⟨upto zs k d.fs,false,-1⟩ v (-1) rs') ∧ Hid (UpdQ P w wr)) (fun _ _ i _ => N - (intOf i).toNat)
 case atStart => exact ⟨0,by omega,rfl,Lib.hid ⟨rs,by rw [upto_zero]; exact HS2.out⟩,HK2⟩
 case round =>
  rename World => wz
  obtain ⟨k,hk,rfl,HS,HK⟩ := hrel
  by_cases hlt : k < N
  ·
   obtain ⟨rs',h3⟩ := HS.out
   have hkr : k < rs'.length := by
    have h4 := h3.n
    have h5 := HNe.out
    omega
   have hku : k < (upto zs k d.fs).length := h3.each.len ▸ hkr
   have HNx := Lib.hid (upto_next zs d.fs hku)
   have hpf : pick zs k ≤ 9223372036854775807 := by
    unfold pick
    by_cases hz : k < zs.length
    ·
     have := HI.out.wf _ (List.getElem_mem hz)
     rw [List.getElem?_eq_getElem hz]
     show zs[k].toNat ≤ _
     unfold Fit at this
     omega
    ·
     rw [List.getElem?_eq_none (Nat.le_of_not_lt hz)]
     decide
   obtain ⟨g,e0,hT⟩ := torn_row h3 hkr (pick zs k) hpf
   rw [HNe.out] at e0
   have HT : Hid (Calls Tryz.prog 63 #[.pointer (some ⟨g,k * 3,none⟩),.int .i64 ((pick zs k : Nat) : Int)] wz fun e w' => e = .returned (.tuple #[]) ∧ Hid (∃ rs',At P w' p ⟨upto zs (k + 1) d.fs,false,-1⟩ v (-1) rs') ∧ Hid (UpdQ P w w')) := Lib.hid (hT.mono fun e w' z => ⟨z.1,Lib.hid (HNx.out ▸ z.2.1),Lib.hid (HK.out.trans z.2.2)⟩)
   by_cases hz : k < n
   ·
    obtain ⟨b,off,z,hao,hc,hfz⟩ := (HI.out.keep HK.out hap).at k hz
    have hpk : max z 0 = ((pick zs k : Nat) : Int) := by
     unfold pick
     have hz' : k < zs.length := HLen.out ▸ hz
     have e1 : zs[k] = z := by
      rcases (HI.out.keep HK.out hap).seg with e | ⟨b',off',e',hc'⟩
      ·
       rw [e] at hz'
       simp at hz'
      ·
       rw [hao] at e'
       cases e'
       have := hc' k hz'
       rw [hc] at this
       cases this
       rfl
     rw [List.getElem?_eq_getElem hz',e1]
     show max z 0 = ((z.toNat : Nat) : Int)
     omega
    subst hao
    generalize pick zs k = pk at hpk HT hpf
    clear h3 hT HNx hkr hku hfz
    go_wp2_with (go_at_call 63; refine HT.out.mono ?_; rintro e W3 ⟨rfl,HS3,HK3⟩)
    go_roundw
    case rel => exact ⟨k + 1,by omega,by go_num,HS3,HK3⟩
    case measure => simp [intOf]; omega
   ·
    have hpk : pick zs k = 0 := by
     unfold pick
     rw [List.getElem?_eq_none (by have := HLen.out; omega)]
     rfl
    rw [hpk] at HT
    clear h3 hT HNx hkr hku hpk hpf
    go_wp2_with (go_at_call 63; refine HT.out.mono ?_; rintro e W3 ⟨rfl,HS3,HK3⟩)
    go_roundw
    case rel => exact ⟨k + 1,by omega,by go_num,HS3,HK3⟩
    case measure => simp [intOf]; omega
  ·
   obtain rfl : k = N := by omega
   have HE : Hid (CrashE P w p d zs (.returned (.tuple #[])) wz) := Lib.hid (by
    obtain ⟨rs',h3⟩ := HS.out
    rw [show k = d.fs.length from HNe.out.symm.trans HN.out,upto_all] at h3
    exact ⟨rfl,⟨v,-1,rs',h3⟩,HK.out⟩)
   go_wp2_with fail
   go_end0
   exact HE.out
end
end Go.Proofs.YtlmjeackfepllaaGreatDoor
namespace Go.Proofs.YtlmjeackfepllaaGreatDoor
open Go.RowKit
open Mem Dk
structure Dk.S (P : Nat → Prop) (w0 W : World) (p : Nat) (d : D) : Prop where
 dsk : Dsk P W p d
 sub : ∀ b,P b → w0.heap.size ≤ b
 bel : Below w0.heap.size w0 W
section
variable {P : Nat → Prop} {w0 w u : World} {p : Nat} {d : D}
theorem Dk.S.later (h : S P w0 w p d) (k : Below w.heap.size w u) : S P w0 u p d := ⟨h.dsk.below k,h.sub,bchain h.bel k⟩
theorem Dk.S.tight (h : S P w0 w p d) : S (fun b => P b ∧ b < w.heap.size) w0 w p d := ⟨h.dsk.lt,fun b z => h.sub b z.1,h.bel⟩
theorem Dk.S.free (h : S P w0 w p d) : S (fun b => w0.heap.size ≤ b) w0 w p d := ⟨h.dsk.mono h.sub,fun b z => z,h.bel⟩
theorem Dk.S.op {x : Int × D} {e : Ending} {w' : World} (h : S P w0 w p d) (k : OpE P w p x e w') : e = .returned (.int .i64 x.1) ∧ S (nw P w) w0 w' p x.2 ∧ UpdQ P w w' :=
 ⟨k.1,⟨k.2.1,fun b z => z.elim (h.sub b) fun z => Nat.le_trans h.bel.size z,k.2.2.below w0 h.bel h.sub⟩,k.2.2⟩
theorem s_new (w : World) : Calls Tryz.prog 9 #[] w fun e w' => ∃ p,e = .returned (.pointer (some ⟨p,0,none⟩)) ∧ S (fun b => w.heap.size ≤ b) w w' p Dk.new := by
 refine (dk_new w w (Below.refl _ _)).mono ?_
 rintro e w' ⟨p,rfl,h,b⟩
 exact ⟨p,rfl,h,fun b z => z,b⟩
theorem s_append (h : S P w0 w p d) (s : ByteArray) (hs : s.size ≤ 9223372036854775807) (ao : Option Addr) (n cap : Nat) (zs : List UInt8) (hL : By.Ls w ao n cap zs) (hap : zs ≠ [] → ∀ ad,ao = some ad → ¬ P ad.block) (few : d.fs.length < 1000) :
  Calls Tryz.prog 30 #[.pointer (some ⟨p,0,none⟩),.string s,.slice ao n cap] w fun e w' => e = .returned (.int .i64 (appD d s zs).1) ∧ S (nw P w) w0 w' p (appD d s zs).2 ∧ UpdQ P w w' := by
 obtain ⟨v,L,rs,k⟩ := h.dsk
 refine (dk_append k s hs ao n cap zs hL hap few).mono ?_
 exact fun e w' z => h.op z
theorem s_append_new (h : S P w0 w p d) (s : ByteArray) (hs : s.size ≤ 9223372036854775807) (zs : List UInt8) (n : Nat) (hn : n = zs.length) (hm : n ≤ 1000) (few : d.fs.length < 1000) (cs : Array Value) (hcs : cs = (zs.map By.bv).toArray) :
  Calls Tryz.prog 30 #[.pointer (some ⟨p,0,none⟩),.string s,.slice (some ⟨w.heap.size,0,none⟩) n n] (w.alloc (.cells cs 5)) fun e w' => e = .returned (.int .i64 (appD d s zs).1) ∧ S (fun b => w0.heap.size ≤ b) w0 w' p (appD d s zs).2 := by
 subst hn hcs
 have k : Below w.heap.size w (w.alloc (.cells (zs.map By.bv).toArray 5)) := (Below.refl _ _).alloc (Nat.le_refl _) _
 have hb : By.Block (w.alloc (.cells (zs.map By.bv).toArray 5)) w.heap.size zs := heap_alloc_new w _
 refine (s_append (h.tight.later k) s hs _ _ _ zs (hb.ls (by omega)) (fun _ ad e z => ?_) few).mono ?_
 ·
  cases e
  exact Nat.lt_irrefl _ z.2
 ·
  rintro e w' ⟨rfl,h2,_⟩
  exact ⟨rfl,h2.free⟩
theorem s_sync (h : S P w0 w p d) (s : ByteArray) : Calls Tryz.prog 45 #[.pointer (some ⟨p,0,none⟩),.string s] w fun e w' => e = .returned (.int .i64 (syncD d s).1) ∧ S (nw P w) w0 w' p (syncD d s).2 ∧ UpdQ P w w' := by
 obtain ⟨v,L,rs,k⟩ := h.dsk
 exact (dk_sync k s).mono fun e w' z => h.op z
theorem s_cut (h : S P w0 w p d) (s : ByteArray) (n : Int) (hn : Fit n) : Calls Tryz.prog 42 #[.pointer (some ⟨p,0,none⟩),.string s,.int .i64 n] w fun e w' => e = .returned (.int .i64 (cutD d s n).1) ∧ S (nw P w) w0 w' p (cutD d s n).2 ∧ UpdQ P w w' := by
 obtain ⟨v,L,rs,k⟩ := h.dsk
 exact (dk_cut k s n hn).mono fun e w' z => h.op z
theorem s_rename (h : S P w0 w p d) (s t : ByteArray) (ht : t.size ≤ 9223372036854775807) : Calls Tryz.prog 120 #[.pointer (some ⟨p,0,none⟩),.string s,.string t] w fun e w' => e = .returned (.int .i64 (renD d s t).1) ∧ S (nw P w) w0 w' p (renD d s t).2 ∧ UpdQ P w w' := by
 obtain ⟨v,L,rs,k⟩ := h.dsk
 exact (dk_rename k s t ht).mono fun e w' z => h.op z
theorem s_remove (h : S P w0 w p d) (s : ByteArray) : Calls Tryz.prog 38 #[.pointer (some ⟨p,0,none⟩),.string s] w fun e w' => e = .returned (.int .i64 (remD d s).1) ∧ S (nw P w) w0 w' p (remD d s).2 ∧ UpdQ P w w' := by
 obtain ⟨v,L,rs,k⟩ := h.dsk
 exact (dk_remove k s).mono fun e w' z => h.op z
theorem s_arm (h : S P w0 w p d) (n : Int) (hn : Fit n) : Calls Tryz.prog 22 #[.pointer (some ⟨p,0,none⟩),.int .i64 n] w fun e w' => e = .returned (.tuple #[]) ∧ S P w0 w' p (armD d n) ∧ UpdQ P w w' := by
 obtain ⟨v,L,rs,k⟩ := h.dsk
 refine (dk_arm n hn k).mono ?_
 rintro e w' ⟨rfl,h1,q⟩
 have q' : UpdQ P w w' := q.mono fun b z => z ▸ k.pp
 exact ⟨rfl,⟨⟨v,n,rs,h1⟩,h.sub,q'.below w0 h.bel h.sub⟩,q'⟩
theorem s_read (h : S P w0 w p d) (s : ByteArray) : Calls Tryz.prog 64 #[.pointer (some ⟨p,0,none⟩),.string s] w (ReadE w d s) := by
 obtain ⟨v,L,rs,k⟩ := h.dsk
 exact dk_read k s
theorem s_crash (h : S P w0 w p d) (ao : Option Addr) (n cap : Nat) (zs : List Int) (hI : Ints w ao n cap zs) (hap : zs ≠ [] → ∀ ad,ao = some ad → ¬ P ad.block) :
  Calls Tryz.prog 24 #[.pointer (some ⟨p,0,none⟩),.slice ao n cap] w fun e w' => e = .returned (.tuple #[]) ∧ S P w0 w' p (crashD d zs) ∧ UpdQ P w w' := by
 obtain ⟨v,L,rs,k⟩ := h.dsk
 refine (dk_crash k ao n cap zs hI hap).mono ?_
 rintro e w' ⟨rfl,h1,q⟩
 exact ⟨rfl,⟨h1,h.sub,q.below w0 h.bel h.sub⟩,q⟩
end
section
variable (s : ByteArray) (b : List UInt8) (k : Nat) (o : Bool) (l : Int)
theorem Dk.one_has : has s [⟨s,b,k⟩] = true := by simp [has]
theorem Dk.one_spot : Dk.spot s [⟨s,b,k⟩] = 0 := by simp [Dk.spot,lt_irrefl]
theorem Dk.one_own : own s [⟨s,b,k⟩] = ⟨s,b,k⟩ := by
 unfold own
 rw [if_pos (one_has s b k),one_spot]
 rfl
theorem Dk.one_put (c : List UInt8) (m : Nat) : put ⟨s,c,m⟩ [⟨s,b,k⟩] = [⟨s,c,m⟩] := by
 unfold put
 rw [if_pos (one_has s b k),one_spot]
 rfl
theorem Dk.none_put : put ⟨s,b,k⟩ [] = [⟨s,b,k⟩] := rfl
theorem Dk.none_own : own s [] = ⟨s,[],0⟩ := rfl
end
def Dk.na : ByteArray := ⟨#[97]⟩
def Dk.tornD (pk : Nat) : List UInt8 := (tear ⟨na,[1,2,3,4,5],3⟩ pk).bs
theorem Dk.run_a1 (s : ByteArray) (hs : nameOk s = true) (zs : List UInt8) (hz : zs.length ≤ 1000) (l : Int) (hl : l ≠ 0) : appD ⟨[],false,l⟩ s zs = (0,⟨[⟨s,zs,0⟩],false,dec l⟩) := by
 unfold appD
 rw [if_neg Bool.false_ne_true,if_neg (by rw [hs]; exact fun z => by cases z),if_neg (by show ¬ 4194304 < 0 + zs.length; omega),if_neg hl,none_own]
 rfl
theorem Dk.run_a2 (s : ByteArray) (hs : nameOk s = true) (b zs : List UInt8) (k : Nat) (hz : b.length + zs.length ≤ 1000) (l : Int) (hl : l ≠ 0) : appD ⟨[⟨s,b,k⟩],false,l⟩ s zs = (0,⟨[⟨s,b ++ zs,k⟩],false,dec l⟩) := by
 unfold appD
 rw [if_neg Bool.false_ne_true,if_neg (by rw [hs]; exact fun z => by cases z),if_neg (by show ¬ 4194304 < (b.length + 0) + zs.length; omega),if_neg hl]
 simp only [one_own,one_put,with']
theorem Dk.run_s (s : ByteArray) (b : List UInt8) (k : Nat) (l : Int) (hl : l ≠ 0) : syncD ⟨[⟨s,b,k⟩],false,l⟩ s = (0,⟨[⟨s,b,b.length⟩],false,dec l⟩) := by
 unfold syncD
 rw [if_neg Bool.false_ne_true,if_neg (by rw [show has s _ = true from one_has s b k]; exact fun z => by cases z),if_neg hl]
 simp only [one_own,one_put,with']
theorem Dk.na_ok : nameOk na = true := by decide
end Go.Proofs.YtlmjeackfepllaaGreatDoor
namespace Go.Proofs.YtlmjeackfepllaaGreatDoor.Wl
open Go.RowKit
open Mem Dk
def writeD (d : D) (n : Nat) (bs : List UInt8) : Int × D := if (appD d (wname n) bs).1 ≠ 0 then appD d (wname n) bs else syncD (appD d (wname n) bs).2 (wname n)
theorem S.wide {P Q : Nat → Prop} {w0 w : World} {p : Nat} {d : D} (h : S P w0 w p d) (k : ∀ b,P b → Q b) (s : ∀ b,Q b → w0.heap.size ≤ b) : S Q w0 w p d := ⟨h.dsk.mono k,s,h.bel⟩
theorem S.nwsub {P : Nat → Prop} {w0 w : World} {p : Nat} {d : D} (h : S P w0 w p d) : ∀ b,nw P w b → w0.heap.size ≤ b := fun b z => z.elim (h.sub b) fun z => Nat.le_trans h.bel.size z
def ChgE (P : Nat → Prop) (w0 w : World) (p : Nat) (x : Int × D) (e : Ending) (w' : World) : Prop := e = .returned (.int .i64 x.1) ∧ S (nw P w) w0 w' p x.2 ∧ UpdQ P w w'
theorem ChgE.since {P Q : Nat → Prop} {w0 w u w' : World} {p : Nat} {d : D} {x : Int × D} {e : Ending} (h0 : S P w0 w p d) (hu : UpdQ P w u) (k : ∀ b,Q b → nw P w b) (h : ChgE Q w0 u p x e w') : ChgE P w0 w p x e w' :=
 ⟨h.1,S.wide h.2.1 (fun b z => z.elim (k b) fun z => .inr (Nat.le_trans hu.size z)) (S.nwsub h0),upd_nw ((hu.mono fun b z => .inl z).trans (h.2.2.mono k))⟩
theorem chg_app {P : Nat → Prop} {w0 w u : World} {p : Nat} {d : D} (h : S P w0 w p d) (hu : Below w.heap.size w u) (s : ByteArray) (hs : s.size ≤ 9223372036854775807) (v : Value) (zs : List UInt8) (ho : By.Own u w.heap.size v zs) (few : d.fs.length < 1000) :
  Calls Tryz.prog 30 #[.pointer (some ⟨p,0,none⟩),.string s,v] u (ChgE P w0 w p (appD d s zs)) := by
 obtain ⟨ao,cap,rfl,hl,hb⟩ := By.own_ls ho
 refine (s_append (h.tight.later hu) s hs ao _ cap zs hl (fun _ ad e z => ?_) few).mono ?_
 ·
  obtain ⟨g,e1,e2⟩ := hb ad e
  subst e1
  exact absurd z.2 (by show ¬ g < w.heap.size; omega)
 ·
  intro e w' z
  exact ChgE.since h (UpdQ.of hu) (fun b z => .inl z.1) z
theorem chg_sync {P : Nat → Prop} {w0 w : World} {p : Nat} {d : D} (h : S P w0 w p d) (s : ByteArray) : Calls Tryz.prog 45 #[.pointer (some ⟨p,0,none⟩),.string s] w (ChgE P w0 w p (syncD d s)) := s_sync h s
set_option maxHeartbeats 4000000 in
theorem wl_write {P : Nat → Prop} {w0 w : World} {g p : Nat} {d : D} (h : S P w0 w p d) (hc : w.cell? ⟨g,0,none⟩ = some (.pointer (some ⟨p,0,none⟩))) (hg : ¬ P g) (n : Nat) (hn : n < 100) (w1 : World) (v : Value) (ps : List (List UInt8)) (hR : Recs w1 w v ps) (hF : Fine ps) (few : d.fs.length < 1000) :
  Calls Tryz.prog 96 #[.pointer (some ⟨g,0,none⟩),.int .i64 (n : Int),v] w (ChgE P w0 w p (writeD d n (frames ps))) := by
 have H := Lib.hid h
 have HC := Lib.hid hc
 have HG := Lib.hid hg
 have CF := Lib.hid (fun u (k : Below w.heap.size w u) => wl_framed v ps w1 u (hR.below k) hF)
 have hsz := wname_size hn
 have CA := Lib.hid (fun (u : World) (vF : Value) (k : Below w.heap.size w u) (ho : By.Own u w.heap.size vF (frames ps)) => chg_app h k (wname n) (by omega) vF (frames ps) ho few)
 have hlt := cell_lt hc
 have HW : Hid (writeD d n (frames ps) = if (appD d (wname n) (frames ps)).1 ≠ 0 then appD d (wname n) (frames ps) else syncD (appD d (wname n) (frames ps)).2 (wname n)) := Lib.hid rfl
 obtain ⟨a,d1,hx⟩ : ∃ a d1,appD d (wname n) (frames ps) = (a,d1) := ⟨_,_,rfl⟩
 rw [hx] at CA HW
 dsimp only at HW
 have HCy : Hid (∀ u,UpdQ P w u → u.cell? ⟨g,0,none⟩ = some (.pointer (some ⟨p,0,none⟩))) := Lib.hid fun u k => (Hd.cell_same (k.block g hlt hg) 0).trans hc
 have lz : ∀ u,Below w.heap.size w u → u.cell? ⟨g,0,none⟩ = some (.pointer (some ⟨p,0,none⟩)) := fun u k => HCy.out u (UpdQ.of k)
 have lb : Hid (Below w.heap.size w w.drew) := Lib.hid (Below.refl _ _).drew
 clear h hg hR hF few hx
 go_enter Tryz.func96,Tryz.ntmps96
 go_wp2_with fail
 go_region_held3 (fun y => y.cell? ⟨g,0,none⟩ = some (.pointer (some ⟨p,0,none⟩))) (first | with_reducible assumption | (apply lz; repeat (first | with_reducible assumption | with_reducible apply Below.drew | with_reducible exact Below.refl _ _)) | fail) (first | (go_at_call 43; refine (wl_name n hn _).mono ?_; rintro e u ⟨rfl,hu⟩; rw [hu]; clear hu u) | (go_at_call 133; refine (CF.out _ (by first | exact lb.out | exact Below.refl _ _)).mono ?_; rintro e u1 ⟨vF,rfl,ho,b1⟩; have s1 := bchain lb.out b1; have t1 := lz _ s1; have C2 := Lib.hid (CA.out u1 vF s1 ho); clear ho b1 CF) | (go_at_call 30; refine C2.out.mono ?_; rintro e u2 hz; have HZ := Lib.hid hz; (obtain ⟨rfl,h2,q2⟩ := hz); have t2 := HCy.out _ q2; dsimp only; clear h2 q2 C2) | fail)
 all_goals
  obtain ⟨_,h2,q2⟩ := HZ.out
  dsimp only at h2
  by_cases ha : a = 0
  ·
   have HE : Hid (writeD d n (frames ps) = syncD d1 (wname n)) := Lib.hid (by rw [HW.out,if_neg (fun z => z ha)])
   have CS := Lib.hid (chg_sync h2 (wname n))
   have HQ := Lib.hid q2
   have HC2 := Lib.hid (fun u (k : UpdQ (nw P w) u2 u) => HCy.out u (upd_nw ((q2.mono fun b z => .inl z).trans k)))
   have lz2 : ∀ u,Below u2.heap.size u2 u → u.cell? ⟨g,0,none⟩ = some (.pointer (some ⟨p,0,none⟩)) := fun u k => HC2.out u (UpdQ.of k)
   subst ha
   obtain ⟨b,d2,hy⟩ : ∃ b d2,syncD d1 (wname n) = (b,d2) := ⟨_,_,rfl⟩
   rw [hy] at CS HE
   have lb2 : Hid (Below u2.heap.size u2 u2.drew) := Lib.hid (Below.refl _ _).drew
   have CS2 : Hid (∀ u,(u = u2 ∨ u = u2.drew) → Calls Tryz.prog 45 #[.pointer (some ⟨p,0,none⟩),.string (wname n)] u (ChgE (nw P w) w0 u2 p (b,d2))) := Lib.hid (fun u (k : u = u2 ∨ u = u2.drew) => k.elim (fun e => e ▸ CS.out) fun e => by
    have := chg_sync (S.later h2 lb2.out) (wname n)
    rw [hy] at this
    subst e
    exact this.mono fun e w' z => ChgE.since h2 (UpdQ.of lb2.out) (fun b z => .inl z) z)
   clear h2 q2 hy CS
   go_wp2_with fail
   go_region_held3 (fun y => y.cell? ⟨g,0,none⟩ = some (.pointer (some ⟨p,0,none⟩))) (first | with_reducible assumption | (apply lz2; repeat (first | with_reducible assumption | with_reducible apply Below.drew | with_reducible exact Below.refl _ _)) | fail) (first | (go_at_call 43; refine (wl_name n hn _).mono ?_; rintro e u ⟨rfl,hu⟩; rw [hu]; clear hu u) | (go_at_call 45; refine (CS2.out _ (by first | exact .inl rfl | exact .inr rfl)).mono ?_; rintro e u3 hz; have HZ3 := Lib.hid hz; (obtain ⟨rfl,h3,q3⟩ := hz); have t3 := HC2.out _ q3; dsimp only; clear h3 q3 CS2) | fail)
   all_goals
    go_wp2_with fail
    go_ret
    rw [HE.out]
    exact ChgE.since H.out HQ.out (fun b z => z) HZ3.out
  ·
   have qa : (a != 0) = true := bne_iff_ne.2 ha
   have HE : Hid (writeD d n (frames ps) = (a,d1)) := Lib.hid (by rw [HW.out,if_pos ha])
   clear h2 q2
   go_wp2_with fail
   go_ret
   rw [HE.out]
   exact HZ.out
end Go.Proofs.YtlmjeackfepllaaGreatDoor.Wl
namespace Go.Proofs.YtlmjeackfepllaaGreatDoor.Et
open Go.RowKit
open Mem
open Go.Sort (grow)
def eqB (a b : T) : Bool := decide (a.term = b.term ∧ a.mem = b.mem ∧ a.data = b.data)
theorem eqB_iff (a b : T) : eqB a b = true ↔ a = b := by
 unfold eqB
 rw [decide_eq_true_iff]
 cases a
 cases b
 simp
def sameB : List T → List T → Bool
 | [],[] => true
 | a :: l,b :: m => eqB a b && sameB l m
 | _,_ => false
theorem sameB_iff : ∀ l m : List T,sameB l m = true ↔ l = m
 | [],[] => by simp [sameB]
 | [],_ :: _ => by simp [sameB]
 | _ :: _,[] => by simp [sameB]
 | a :: l,b :: m => by
  rw [sameB,Bool.and_eq_true,eqB_iff,sameB_iff l m,List.cons.injEq]
theorem sameB_self (l : List T) : sameB l l = true := (sameB_iff l l).2 rfl
theorem sameB_len {l m : List T} (h : l.length ≠ m.length) : sameB l m = false := by
 rw [Bool.eq_false_iff]
 intro k
 exact h (congrArg List.length ((sameB_iff l m).1 k))
theorem same_at (l m : List T) (k : Nat) (h : k < l.length) (h' : k < m.length) : sameB (l.drop k) (m.drop k) = (eqB l[k] m[k] && sameB (l.drop (k + 1)) (m.drop (k + 1))) := by
 rw [List.drop_eq_getElem_cons h,List.drop_eq_getElem_cons h',sameB]
set_option maxHeartbeats 4000000 in
theorem same_any (xs ys : List T) (ao bo : Option Addr) (n m ca cb : Nat) (w0 w : World) (hw : Below w0.heap.size w0 w) (hA : Ls w ao n ca xs) (hB : Ls w bo m cb ys) :
  Calls Tryz.prog 76 #[.slice ao n ca,.slice bo m cb] w fun e w' => e = .returned (.bool (sameB xs ys)) ∧ Below w0.heap.size w0 w' := by
 have HW := Lib.hid hw
 have HA := Lib.hid hA
 have HB := Lib.hid hB
 have HN := Lib.hid hA.len
 have HM := Lib.hid hB.len
 have hca := hA.reach
 have hfa := hA.fits
 have hcb := hB.reach
 have hfb := hB.fits
 clear hw hA hB
 by_cases hnm : n = m
 ·
  subst hnm
  have hne : ((n : Int) != (n : Int)) = false := bne_self_eq_false _
  go_enter Tryz.func76,Tryz.ntmps76
  go_wp2
  go_loopw [5] (fun i wr => ∃ k : Nat,k ≤ n ∧ i = .int .i64 k ∧ Hid (sameB (xs.drop k) (ys.drop k) = sameB xs ys) ∧ Hid (Below w.heap.size w wr)) (fun i _ => n - (intOf i).toNat)
  case atStart => exact ⟨0,Nat.zero_le _,rfl,Lib.hid rfl,Lib.hid (Below.refl _ _)⟩
  case round =>
   obtain ⟨k,hk,rfl,HK,HBz⟩ := hrel
   by_cases hlt : k < n
   ·
    obtain ⟨a,oa,rfl⟩ := HA.out.at (by omega)
    obtain ⟨b,ob,rfl⟩ := HB.out.at (by omega)
    have hkr : k < xs.length := HN.out ▸ hlt
    have hks : k < ys.length := HM.out ▸ hlt
    have HSt := Lib.hid (same_at xs ys k hkr hks)
    obtain ⟨r,hr⟩ : ∃ r,xs[k] = r := ⟨_,rfl⟩
    obtain ⟨s,hs⟩ : ∃ s,ys[k] = s := ⟨_,rfl⟩
    have h1 := (HA.out.row k hkr).below HBz.out
    have h2 := (HB.out.row k hks).below HBz.out
    rw [hr] at h1 HSt
    rw [hs] at h2 HSt
    clear hr hs
    obtain ⟨g0,g1,g2⟩ := h1
    obtain ⟨f0,f1,f2⟩ := h2
    have g0' := cell_regrown g0
    have g1' := cell_regrown g1
    have g2' := cell_regrown g2
    have f0' := cell_regrown f0
    have f1' := cell_regrown f1
    have f2' := cell_regrown f2
    clear g0 g1 g2 f0 f1 f2
    by_cases e0 : r.term = s.term
    ·
     have q0 : (r.term == s.term) = true := beq_iff_eq.2 e0
     by_cases e1 : r.mem = s.mem
     ·
      have q1 : (r.mem == s.mem) = true := beq_iff_eq.2 e1
      by_cases e2 : r.data = s.data
      ·
       have q2 : (r.data.toList == s.data.toList) = true := beq_iff_eq.2 (by rw [e2])
       have HE : Hid (eqB r s = true) := Lib.hid (decide_eq_true ⟨e0,e1,e2⟩)
       clear e0 e1 e2
       go_wp2
       refine wp_region_quiet_below (by kernel_rfl) (by kernel_rfl) ?_
       repeat (first | go_big_quiet_step (fail) | quiet_step (fail))
       refine wpQuiet_nil ?_
       intro _ hw'
       obtain ⟨⟨dq,osq⟩,hw''⟩ := hw'
       subst hw''
       have HBv := Lib.hid (bchain HBz.out (below_regrown wr dq osq))
       go_wp2
       go_roundw
       case rel => exact ⟨k + 1,by omega,by go_num,Lib.hid (by rw [← HK.out,HSt.out,HE.out,Bool.true_and]),HBv⟩
       case measure => simp [intOf]; omega
      ·
       have q2 : (r.data.toList == s.data.toList) = false := beq_eq_false_iff_ne.2 fun h => e2 (txt_ext (by rw [← tl,← tl]; exact h))
       have HE : Hid (eqB r s = false) := Lib.hid (decide_eq_false fun h => e2 h.2.2)
       clear e0 e1 e2
       go_wp2
       refine wp_region_quiet_below (by kernel_rfl) (by kernel_rfl) ?_
       repeat (first | go_big_quiet_step (fail) | quiet_step (fail))
       refine wpQuiet_nil ?_
       intro _ hw'
       obtain ⟨⟨dq,osq⟩,hw''⟩ := hw'
       subst hw''
       have HBv := Lib.hid (bchain HBz.out (below_regrown wr dq osq))
       go_wp2
       go_ret
       exact ⟨ret_bool (by rw [← HK.out,HSt.out,HE.out,Bool.false_and]),bchain HW.out HBv.out⟩
     ·
      have q1 : (r.mem == s.mem) = false := beq_eq_false_iff_ne.2 e1
      have HE : Hid (eqB r s = false) := Lib.hid (decide_eq_false fun h => e1 h.2.1)
      clear e0 e1
      go_wp2
      refine wp_region_quiet_below (by kernel_rfl) (by kernel_rfl) ?_
      repeat (first | go_big_quiet_step (fail) | quiet_step (fail))
      refine wpQuiet_nil ?_
      intro _ hw'
      obtain ⟨⟨dq,osq⟩,hw''⟩ := hw'
      subst hw''
      have HBv := Lib.hid (bchain HBz.out (below_regrown wr dq osq))
      go_wp2
      go_ret
      exact ⟨ret_bool (by rw [← HK.out,HSt.out,HE.out,Bool.false_and]),bchain HW.out HBv.out⟩
    ·
     have q0 : (r.term == s.term) = false := beq_eq_false_iff_ne.2 e0
     have HE : Hid (eqB r s = false) := Lib.hid (decide_eq_false fun h => e0 h.1)
     clear e0
     go_wp2
     refine wp_region_quiet_below (by kernel_rfl) (by kernel_rfl) ?_
     repeat (first | go_big_quiet_step (fail) | quiet_step (fail))
     refine wpQuiet_nil ?_
     intro _ hw'
     obtain ⟨⟨dq,osq⟩,hw''⟩ := hw'
     subst hw''
     have HBv := Lib.hid (bchain HBz.out (below_regrown wr dq osq))
     go_wp2
     go_ret
     exact ⟨ret_bool (by rw [← HK.out,HSt.out,HE.out,Bool.false_and]),bchain HW.out HBv.out⟩
   ·
    obtain rfl : k = n := by omega
    go_wp2
    go_ret
    refine ⟨ret_bool ?_,HW.out.trans (HBz.out.mono HW.out.size)⟩
    rw [← HK.out,List.drop_eq_nil_of_le (Nat.le_of_eq HN.out.symm),List.drop_eq_nil_of_le (Nat.le_of_eq HM.out.symm)]
    rfl
 ·
  have HE := Lib.hid (sameB_len (l := xs) (m := ys) (by rw [← HN.out,← HM.out]; exact hnm))
  have hne : ((n : Int) != (m : Int)) = true := bne_iff_ne.2 (by omega)
  go_enter Tryz.func76,Tryz.ntmps76
  go_wp2
  go_ret
  exact ⟨ret_bool HE.out.symm,HW.out⟩
theorem same_rows (xs : List T) (ao bo : Option Addr) (n ca cb : Nat) (w0 w : World) (hw : Below w0.heap.size w0 w) (hA : Ls w ao n ca xs) (hB : Ls w bo n cb xs) :
  Calls Tryz.prog 76 #[.slice ao n ca,.slice bo n cb] w fun e w' => e = .returned (.bool true) ∧ Below w0.heap.size w0 w' := by
 have h := same_any xs xs ao bo n n ca cb w0 w hw hA hB
 rw [sameB_self] at h
 exact h
end Go.Proofs.YtlmjeackfepllaaGreatDoor.Et
namespace Go.Proofs.YtlmjeackfepllaaGreatDoor.Et
open Go.RowKit
open Mem
open Go.Sort (grow)
set_option maxHeartbeats 4000000 in
theorem equal_any (xs ys : List T) (ao bo : Option Addr) (n m ca cb : Nat) (w0 w : World) (hw : Below w0.heap.size w0 w) (hA : Ls w ao n ca xs) (hB : Ls w bo m cb ys) :
  Calls Tryz.prog 93 #[.slice ao n ca,.slice bo m cb] w fun e w' => e = .returned (.bool (sameB xs ys)) ∧ Below w0.heap.size w0 w' := by
 have HW := Lib.hid hw
 have HA := Lib.hid hA
 have HB := Lib.hid hB
 have HN := Lib.hid hA.len
 have HM := Lib.hid hB.len
 have hca := hA.reach
 have hfa := hA.fits
 have hcb := hB.reach
 have hfb := hB.fits
 clear hw hA hB
 by_cases hnm : n = m
 ·
  subst hnm
  have hne : ((n : Int) != (n : Int)) = false := bne_self_eq_false _
  go_enter Tryz.func93,Tryz.ntmps93
  go_wp2
  go_loopw [5,13] (fun _ i wr => ∃ k : Nat,k ≤ n ∧ i = .int .i64 k ∧ Hid (sameB (xs.drop k) (ys.drop k) = sameB xs ys) ∧ Hid (Below w.heap.size w wr)) (fun _ i _ => n - (intOf i).toNat)
  case atStart => exact ⟨0,Nat.zero_le _,rfl,Lib.hid rfl,Lib.hid (Below.refl _ _)⟩
  case round =>
   obtain ⟨k,hk,rfl,HK,HBz⟩ := hrel
   by_cases hlt : k < n
   ·
    obtain ⟨a,oa,rfl⟩ := HA.out.at (by omega)
    obtain ⟨b,ob,rfl⟩ := HB.out.at (by omega)
    have hkr : k < xs.length := HN.out ▸ hlt
    have hks : k < ys.length := HM.out ▸ hlt
    have HSt := Lib.hid (same_at xs ys k hkr hks)
    obtain ⟨r,hr⟩ : ∃ r,xs[k] = r := ⟨_,rfl⟩
    obtain ⟨s,hs⟩ : ∃ s,ys[k] = s := ⟨_,rfl⟩
    have h1 := (HA.out.row k hkr).below HBz.out
    have h2 := (HB.out.row k hks).below HBz.out
    rw [hr] at h1 HSt
    rw [hs] at h2 HSt
    clear hr hs
    obtain ⟨g0,g1,g2⟩ := h1
    obtain ⟨f0,f1,f2⟩ := h2
    have g0' := cell_regrown g0
    have g1' := cell_regrown g1
    have g2' := cell_regrown g2
    have f0' := cell_regrown f0
    have f1' := cell_regrown f1
    have f2' := cell_regrown f2
    clear g0 g1 g2 f0 f1 f2
    by_cases e0 : r.term = s.term
    ·
     have q0 : (r.term == s.term) = true := beq_iff_eq.2 e0
     by_cases e1 : r.mem = s.mem
     ·
      have q1 : (r.mem == s.mem) = true := beq_iff_eq.2 e1
      by_cases e2 : r.data = s.data
      ·
       have q2 : (r.data.toList == s.data.toList) = true := beq_iff_eq.2 (by rw [e2])
       have HE : Hid (eqB r s = true) := Lib.hid (decide_eq_true ⟨e0,e1,e2⟩)
       clear e0 e1 e2
       go_wp2
       refine wp_region_quiet_below (by kernel_rfl) (by kernel_rfl) ?_
       repeat (first | go_big_quiet_step (fail) | quiet_step (fail))
       refine wpQuiet_nil ?_
       intro _ hw'
       obtain ⟨⟨dq,osq⟩,hw''⟩ := hw'
       subst hw''
       have HBv := Lib.hid (bchain HBz.out (below_regrown wr dq osq))
       go_wp2
       go_roundw
       case rel => exact ⟨k + 1,by omega,by go_num,Lib.hid (by rw [← HK.out,HSt.out,HE.out,Bool.true_and]),HBv⟩
       case measure => simp [intOf]; omega
      ·
       have q2 : (r.data.toList == s.data.toList) = false := beq_eq_false_iff_ne.2 fun h => e2 (txt_ext (by rw [← tl,← tl]; exact h))
       have HE : Hid (eqB r s = false) := Lib.hid (decide_eq_false fun h => e2 h.2.2)
       clear e0 e1 e2
       go_wp2
       refine wp_region_quiet_below (by kernel_rfl) (by kernel_rfl) ?_
       repeat (first | go_big_quiet_step (fail) | quiet_step (fail))
       refine wpQuiet_nil ?_
       intro _ hw'
       obtain ⟨⟨dq,osq⟩,hw''⟩ := hw'
       subst hw''
       have HBv := Lib.hid (bchain HBz.out (below_regrown wr dq osq))
       go_wp2
       go_ret
       exact ⟨ret_bool (by rw [← HK.out,HSt.out,HE.out,Bool.false_and]),bchain HW.out HBv.out⟩
     ·
      have q1 : (r.mem == s.mem) = false := beq_eq_false_iff_ne.2 e1
      have HE : Hid (eqB r s = false) := Lib.hid (decide_eq_false fun h => e1 h.2.1)
      clear e0 e1
      go_wp2
      refine wp_region_quiet_below (by kernel_rfl) (by kernel_rfl) ?_
      repeat (first | go_big_quiet_step (fail) | quiet_step (fail))
      refine wpQuiet_nil ?_
      intro _ hw'
      obtain ⟨⟨dq,osq⟩,hw''⟩ := hw'
      subst hw''
      have HBv := Lib.hid (bchain HBz.out (below_regrown wr dq osq))
      go_wp2
      go_ret
      exact ⟨ret_bool (by rw [← HK.out,HSt.out,HE.out,Bool.false_and]),bchain HW.out HBv.out⟩
    ·
     have q0 : (r.term == s.term) = false := beq_eq_false_iff_ne.2 e0
     have HE : Hid (eqB r s = false) := Lib.hid (decide_eq_false fun h => e0 h.1)
     clear e0
     go_wp2
     refine wp_region_quiet_below (by kernel_rfl) (by kernel_rfl) ?_
     repeat (first | go_big_quiet_step (fail) | quiet_step (fail))
     refine wpQuiet_nil ?_
     intro _ hw'
     obtain ⟨⟨dq,osq⟩,hw''⟩ := hw'
     subst hw''
     have HBv := Lib.hid (bchain HBz.out (below_regrown wr dq osq))
     go_wp2
     go_ret
     exact ⟨ret_bool (by rw [← HK.out,HSt.out,HE.out,Bool.false_and]),bchain HW.out HBv.out⟩
   ·
    obtain rfl : k = n := by omega
    go_wp2
    go_ret
    refine ⟨ret_bool ?_,HW.out.trans (HBz.out.mono HW.out.size)⟩
    rw [← HK.out,List.drop_eq_nil_of_le (Nat.le_of_eq HN.out.symm),List.drop_eq_nil_of_le (Nat.le_of_eq HM.out.symm)]
    rfl
 ·
  have HE := Lib.hid (sameB_len (l := xs) (m := ys) (by rw [← HN.out,← HM.out]; exact hnm))
  have hne : ((n : Int) != (m : Int)) = true := bne_iff_ne.2 (by omega)
  go_enter Tryz.func93,Tryz.ntmps93
  go_wp2
  go_ret
  exact ⟨ret_bool HE.out.symm,HW.out⟩
end Go.Proofs.YtlmjeackfepllaaGreatDoor.Et
namespace Go.Proofs.YtlmjeackfepllaaGreatDoor.Wl
open Go.RowKit
open Mem
def basedB (a b : H) : Bool := (a.base == b.base) && ((a.bt == b.bt) && (a.mem == b.mem))
def sameH (a b : H) : Bool := (a.term == b.term) && ((a.vote == b.vote) && (basedB a b && Et.sameB a.log b.log))
theorem sameH_iff {a b : H} (ha : a.snap = .empty) : sameH a b = true ↔ a = b.bare := by
 unfold sameH basedB H.bare
 simp only [Bool.and_eq_true,beq_iff_eq,Et.sameB_iff]
 obtain ⟨t,v,x,c,m,s,l⟩ := a
 obtain ⟨t',v',x',c',m',s',l'⟩ := b
 dsimp only at ha
 subst ha
 simp only [H.mk.injEq]
 constructor
 ·
  rintro ⟨h1,h2,⟨h3,h4,h5⟩,h6⟩
  exact ⟨h1,h2,h3,h4,h5,trivial,h6⟩
 ·
  rintro ⟨h1,h2,h3,h4,h5,_,h6⟩
  exact ⟨h1,h2,⟨h3,h4,h5⟩,h6⟩
set_option maxHeartbeats 2000000 in
theorem wl_based (r r' : Hd.T) (l l' : List Et.T) (w : World) : Calls Tryz.prog 92 #[Hd.val r,Hd.val r'] w fun e w' => e = .returned (.bool (basedB (Hd.h r l) (Hd.h r' l'))) ∧ Below w.heap.size w w' := by
 obtain ⟨W0,hW0,hbW0,hC0⟩ := Hd.boxed1 w r
 obtain ⟨W,hW,hbW,hC'⟩ := Hd.boxed1 W0 r'
 have hC := hC0.below hbW
 have HB := Lib.hid (bchain hbW0 hbW)
 unfold Hd.C at hC hC'
 obtain ⟨a0,a1,a2,a3,a4,a5,a6⟩ := hC
 obtain ⟨b0,b1,b2,b3,b4,b5,b6⟩ := hC'
 have HE : Hid (basedB (Hd.h r l) (Hd.h r' l') = ((r.base == r'.base) && ((r.bt == r'.bt) && (r.mem == r'.mem)))) := Lib.hid rfl
 unfold Hd.val
 clear hbW hbW0 hC0
 cases q1 : (r.base == r'.base)
 ·
  rw [q1,Bool.false_and] at HE
  go_enter Tryz.func92,Tryz.ntmps92
  go_wp2
  go_ret
  exact ⟨ret_bool HE.out.symm,HB.out⟩
 rw [q1,Bool.true_and] at HE
 cases q2 : (r.bt == r'.bt)
 ·
  rw [q2,Bool.false_and] at HE
  go_enter Tryz.func92,Tryz.ntmps92
  go_wp2
  go_ret
  exact ⟨ret_bool HE.out.symm,HB.out⟩
 rw [q2,Bool.true_and] at HE
 cases q3 : (r.mem == r'.mem)
 ·
  rw [q3] at HE
  go_enter Tryz.func92,Tryz.ntmps92
  go_wp2
  go_ret
  exact ⟨ret_bool HE.out.symm,HB.out⟩
 ·
  rw [q3] at HE
  go_enter Tryz.func92,Tryz.ntmps92
  go_wp2
  go_ret
  exact ⟨ret_bool HE.out.symm,HB.out⟩
set_option maxHeartbeats 4000000 in
theorem wl_same (r r' : Hd.T) (l l' : List Et.T) (w : World) (hl : Et.Ls w r.log.ao r.log.n r.log.cap l) (hl' : Et.Ls w r'.log.ao r'.log.n r'.log.cap l') :
  Calls Tryz.prog 46 #[Hd.val r,Hd.val r'] w fun e w' => e = .returned (.bool (sameH (Hd.h r l) (Hd.h r' l'))) ∧ Below w.heap.size w w' := by
 obtain ⟨W0,hW0,hbW0,hC0⟩ := Hd.boxed1 w r
 obtain ⟨W,hW,hbW,hC'⟩ := Hd.boxed1 W0 r'
 have hC := hC0.below hbW
 have HB := Lib.hid (bchain hbW0 hbW)
 have HC := Lib.hid hC
 have HC' := Lib.hid hC'
 have CB := Lib.hid (wl_based r r' l l' W)
 have CS := Lib.hid (fun (u : World) (k : Below W.heap.size W u) => Et.equal_any l l' r.log.ao r'.log.ao r.log.n r'.log.n r.log.cap r'.log.cap u u (Below.refl _ _) ((hl.below HB.out).below k) ((hl'.below HB.out).below k))
 unfold Hd.val at CB ⊢
 unfold Hd.C at hC hC'
 obtain ⟨a0,a1,a2,a3,a4,a5,a6⟩ := hC
 obtain ⟨b0,b1,b2,b3,b4,b5,b6⟩ := hC'
 have HE : Hid (sameH (Hd.h r l) (Hd.h r' l') = ((r.term == r'.term) && ((r.vote == r'.vote) && (basedB (Hd.h r l) (Hd.h r' l') && Et.sameB l l')))) := Lib.hid rfl
 clear hbW hbW0 hC0 hl hl'
 cases q1 : (r.term == r'.term)
 ·
  rw [q1,Bool.false_and] at HE
  go_enter Tryz.func46,Tryz.ntmps46
  go_wp2_with fail
  go_ret
  exact ⟨ret_bool HE.out.symm,HB.out⟩
 rw [q1,Bool.true_and] at HE
 cases q2 : (r.vote == r'.vote)
 ·
  rw [q2,Bool.false_and] at HE
  go_enter Tryz.func46,Tryz.ntmps46
  go_wp2_with fail
  go_ret
  exact ⟨ret_bool HE.out.symm,HB.out⟩
 rw [q2,Bool.true_and] at HE
 cases q3 : basedB (Hd.h r l) (Hd.h r' l')
 ·
  rw [q3] at CB
  rw [q3,Bool.false_and] at HE
  go_enter Tryz.func46,Tryz.ntmps46
  go_wp2_with (go_at_call 92; refine CB.out.mono ?_; rintro e u ⟨rfl,bu⟩; have HB1 := Lib.hid (bchain HB.out bu); clear bu CB)
  go_ret
  exact ⟨ret_bool HE.out.symm,HB1.out⟩
 ·
  rw [q3] at CB
  rw [q3,Bool.true_and] at HE
  go_enter Tryz.func46,Tryz.ntmps46
  go_wp2_with (first | (go_at_call 92; refine CB.out.mono ?_; rintro e u ⟨rfl,bu⟩; have HB1 := Lib.hid (bchain HB.out bu); have CS1 := Lib.hid (CS.out u bu); have a6' := ((bcell bu).1 _ _ (cell_lt a6)).trans a6; have b6' := ((bcell bu).1 _ _ (cell_lt b6)).trans b6; clear bu CB CS a0 a1 a2 a3 a4 a5 a6 b0 b1 b2 b3 b4 b5 b6) | (go_at_call 93; refine CS1.out.mono ?_; rintro e u2 ⟨rfl,b2⟩; have HB2 := Lib.hid (bchain HB1.out b2); clear b2 CS1))
  go_ret
  exact ⟨ret_bool HE.out.symm,HB2.out⟩
def Wal (P : Nat → Prop) (w : World) (g p n : Nat) (f : Bool) (s : Sg) : Prop := In P w g 2 82 [.pointer (some ⟨p,0,none⟩),.int .i64 (n : Int)] [.bool f] s
theorem Wal.cells {P : Nat → Prop} {w : World} {g p n : Nat} {f : Bool} {s : Sg} (h : Wal P w g p n f s) : w.cell? ⟨g,0,none⟩ = some (.pointer (some ⟨p,0,none⟩)) ∧ w.cell? ⟨g,1,none⟩ = some (.int .i64 (n : Int)) ∧ w.cell? ⟨g,11,none⟩ = some (.bool f) ∧ (∀ k,w.frozen? ⟨g,k,none⟩ = false) ∧ g < w.heap.size := by
 obtain ⟨v,h⟩ := h
 refine ⟨?_,?_,?_,h.blk.frozen,h.blk.lt⟩
 all_goals rw [cell_of_row w g _ _ _ _ h.blk.2]
 all_goals rfl
theorem Wal.pg {P : Nat → Prop} {w : World} {g p n : Nat} {f : Bool} {s : Sg} (h : Wal P w g p n f s) : P g := h.elim fun v h => h.pg
theorem Wal.fail {P : Nat → Prop} {w : World} {g p n : Nat} {f : Bool} {s : Sg} (h : Wal P w g p n f s) (b : Bool) : Wal P (w.setCell ⟨g,11,none⟩ (.bool b)) g p n b s ∧ UpdQ P w (w.setCell ⟨g,11,none⟩ (.bool b)) := by
 have hg := h.pg
 obtain ⟨v,h⟩ := h
 have hu := upd_set w g 11 (.bool b)
 exact ⟨⟨v,⟨rfl,(heap_setCell_same w g 11 _ _ (.bool b) h.blk.2).trans rfl⟩,hu.rows h.own fun q e => (h.pv q e).2,h.pg,h.pv,h.short,h.few,h.base,h.fit,h.snap⟩,hu.mono fun q z => z ▸ hg⟩
set_option maxHeartbeats 1000000 in
theorem wl_tell {P : Nat → Prop} {w : World} {g p n : Nat} {f : Bool} {s : Sg} (h : Wal P w g p n f s) (e : Int) :
  Calls Tryz.prog 48 #[.pointer (some ⟨g,0,none⟩),.int .i64 e] w fun x w' => x = .returned (.int .i64 e) ∧ Wal P w' g p n (e != 0) s ∧ UpdQ P w w' := by
 have HF := Lib.hid (h.fail (e != 0))
 obtain ⟨c0,c1,c2,fz,hlt⟩ := h.cells
 clear h c0 c1
 go_enter Tryz.func48,Tryz.ntmps48
 go_wp2
 go_ret
 exact ⟨rfl,HF.out⟩
end Go.Proofs.YtlmjeackfepllaaGreatDoor.Wl
namespace Go.Proofs.YtlmjeackfepllaaGreatDoor.Wl
open Go.RowKit
open Mem Dk
def flen (d : D) (n : Nat) : Nat := (Dk.own (wname n) d.fs).bs.length
set_option maxHeartbeats 2000000 in
theorem wl_long {P Pd : Nat → Prop} {w0 w : World} {g p n : Nat} {f : Bool} {s : Sg} {d : D} (h : Wal P w g p n f s) (hd : S Pd w0 w p d) (hn : n < 100) :
  Calls Tryz.prog 94 #[.pointer (some ⟨g,0,none⟩)] w fun e w' => e = .returned (.bool (decide (8192 < flen d n))) ∧ Below w.heap.size w w' := by
 obtain ⟨c0,c1,c2,fz,hlt⟩ := h.cells
 have CR : Hid (∀ u,(u = w ∨ u = w.drew) → Calls Tryz.prog 64 #[.pointer (some ⟨p,0,none⟩),.string (wname n)] u fun e w' => ∃ (ao : Option Addr) (m : Nat) (b : Bool),e = .returned (.tuple #[.slice ao m m,.bool b]) ∧ m = flen d n ∧ m ≤ 1000000000000 ∧ Below w.heap.size w w') := Lib.hid fun u k => by
  have hb : Below w.heap.size w u := k.elim (fun e => e ▸ Below.refl _ _) fun e => e ▸ (Below.refl _ _).drew
  refine (s_read (hd.later hb) (wname n)).mono ?_
  rintro e w' ⟨b,⟨hh,rfl⟩ | ⟨hh,g',rfl,hb',_⟩⟩
  ·
   refine ⟨none,0,false,rfl,?_,by omega,bchain hb b⟩
   unfold flen
   rw [own_no hh]
   rfl
  ·
   refine ⟨some ⟨g',0,none⟩,_,true,rfl,rfl,?_,bchain hb b⟩
   have ho := hd.dsk.elim fun v h => h.elim fun L h => h.elim fun rs h => h.ok
   have h1 := Dk.total_mem (f := Dk.own (wname n) d.fs) (l := d.fs) (by rw [own_at ho.sorted hh]; exact List.getElem_mem _)
   have := ho.room
   omega
 have lz : ∀ u,Below w.heap.size w u → u.cell? ⟨g,0,none⟩ = some (.pointer (some ⟨p,0,none⟩)) ∧ u.cell? ⟨g,1,none⟩ = some (.int .i64 (n : Int)) := fun u k => ⟨((bcell k).1 _ _ hlt).trans c0,((bcell k).1 _ _ hlt).trans c1⟩
 clear h hd c2
 go_enter Tryz.func94,Tryz.ntmps94
 go_wp2_with fail
 go_region_held3 (fun y => y.cell? ⟨g,0,none⟩ = some (.pointer (some ⟨p,0,none⟩)) ∧ y.cell? ⟨g,1,none⟩ = some (.int .i64 (n : Int))) (first | with_reducible assumption | (apply lz; repeat (first | with_reducible assumption | with_reducible apply Below.drew | with_reducible exact Below.refl _ _)) | fail) (first | (go_at_call 43; refine (wl_name n hn _).mono ?_; rintro e u ⟨rfl,hu⟩; rw [hu]; clear hu u) | (go_at_call 64; refine (CR.out _ (by first | exact .inl rfl | exact .inr rfl)).mono ?_; rintro e u3 ⟨ao,m,b,rfl,hm,hmb,b3⟩; have t3 := lz _ b3; have HM := Lib.hid hm; have HB := Lib.hid b3; clear hm b3 CR) | fail)
 all_goals
  by_cases hq : (8192 : Int) < (m : Int)
  ·
   go_wp2_with fail
   go_ret
   exact ⟨ret_bool (decide_eq_true (by rw [← HM.out]; omega)).symm,HB.out⟩
  ·
   go_wp2_with fail
   go_ret
   exact ⟨ret_bool (decide_eq_false (by rw [← HM.out]; omega)).symm,HB.out⟩
end Go.Proofs.YtlmjeackfepllaaGreatDoor.Wl
namespace Go.Proofs.YtlmjeackfepllaaGreatDoor.Wl
open Go.RowKit
open Mem Dk
theorem nums_pos : ∀ (n : Int) (l : List Int),1 ≤ (nums (n :: l)).length := fun n l => by
 show 1 ≤ (nm n ++ nums l).length
 rw [List.length_append]
 have := nm_pos n
 omega
theorem pay_len (r : Rec) (h : ∀ e,r = .ent e → e.data.size ≤ 1100) : 1 ≤ (pay r).length ∧ (pay r).length ≤ 2000 := by
 have a1 := nm_pos
 have a2 := nm_len
 cases r with
 | beg t v b c m =>
  have := a1 1; have := a2 1; have := a2 t; have := a2 v; have := a2 b; have := a2 c; have := a2 m
  simp only [pay,List.length_append]; omega
 | ent e =>
  have := a1 2; have := a2 2; have := a2 e.term; have := a2 e.mem; have := a2 (e.data.size : Int); have := h e rfl
  simp only [pay,tx,List.length_append,txt_len]; omega
 | rdy => have := a1 3; have := a2 3; simp only [pay]; omega
 | vot t v =>
  have := a1 4; have := a2 4; have := a2 t; have := a2 v
  simp only [pay,List.length_append]; omega
 | cut n =>
  have := a1 5; have := a2 5; have := a2 n
  simp only [pay,List.length_append]; omega
theorem fine_pays {l : List Rec} (hl : l.length ≤ 1000) (h : ∀ e,Rec.ent e ∈ l → e.data.size ≤ 1100) : Fine (pays l) := by
 refine ⟨by unfold pays; rw [List.length_map]; exact hl,fun p hp => ?_⟩
 obtain ⟨r,hr,rfl⟩ := List.mem_map.1 hp
 exact pay_len r fun e he => h e (he ▸ hr)
theorem fine_change {a b : H} (hl : b.log.length ≤ 200) (hd : ∀ e ∈ b.log,e.data.size ≤ 1100) : Fine (pays (change a b)) := by
 refine fine_pays ?_ ?_
 ·
  unfold change ents
  have h1 : (if b.term ≠ a.term ∨ b.vote ≠ a.vote then [Rec.vot b.term b.vote] else []).length ≤ 1 := by split <;> simp
  have h2 : (if begun a.log b.log < a.log.length then [Rec.cut (b.base + (begun a.log b.log : Int))] else []).length ≤ 1 := by split <;> simp
  rw [List.length_append,List.length_append,List.length_map,List.length_drop]
  omega
 ·
  intro e he
  unfold change ents at he
  rcases List.mem_append.1 he with he | he
  · split at he <;> simp at he
  rcases List.mem_append.1 he with he | he
  · split at he <;> simp at he
  obtain ⟨x,hx,e2⟩ := List.mem_map.1 he
  cases e2
  exact hd _ (List.mem_of_mem_drop hx)
theorem fine_whole {b : H} (hl : b.log.length ≤ 200) (hd : ∀ e ∈ b.log,e.data.size ≤ 1100) : Fine (pays (whole b)) := by
 refine fine_pays ?_ ?_
 ·
  unfold whole ents
  simp only [List.length_cons,List.length_append,List.length_map,List.length_nil]
  omega
 ·
  intro e he
  unfold whole ents at he
  simp only [List.mem_cons,reduceCtorEq,false_or,List.mem_append,List.not_mem_nil,or_false] at he
  obtain ⟨x,hx,e2⟩ := List.mem_map.1 he
  cases e2
  exact hd _ hx
theorem Recs.keep {Q : Nat → Prop} {w0 w u : World} {v : Value} {ps : List (List UInt8)} (h : Recs w0 w v ps) (k : UpdQ Q w u) (hQ : ∀ b,w0.heap.size ≤ b → ¬ Q b) : Recs w0 u v ps := by
 obtain ⟨gs,a,b,c⟩ := h
 exact ⟨gs,k.rows a (fun g hg => hQ g (World.ownsRow.lt a g hg).1),b,fun q hq => ⟨(k.block q.1 (c q hq).1.lt (hQ q.1 (c q hq).2.1)).trans (c q hq).1,(c q hq).2⟩⟩
structure Pair (P Q R : Nat → Prop) (w0 w : World) (g p n : Nat) (f : Bool) (s : Sg) (d : D) : Prop where
 wal : Wal P w g p n f s
 dsk : S Q w0 w p d
 sub : ∀ b,P b → w0.heap.size ≤ b
 ap : ∀ b,P b → ¬ Q b
 pl : ∀ b,P b → b < w.heap.size
 ql : ∀ b,Q b → b < w.heap.size
 pr : ∀ b,P b → R b
 qr : ∀ b,Q b → R b
def Both (R : Nat → Prop) (w0 w : World) (g p n : Nat) (f : Bool) (s : Sg) (d : D) : Prop := ∃ P Q,Pair P Q R w0 w g p n f s d
section
variable {P Q R T : Nat → Prop} {w0 w u v : World} {g p n : Nat} {f : Bool} {s s' : Sg} {d d' : D}
theorem Pair.later (h : Pair P Q R w0 w g p n f s d) (k : Below w.heap.size w u) : Pair P Q R w0 u g p n f s d :=
 ⟨h.wal.below k,h.dsk.later k,h.sub,h.ap,fun b z => Nat.lt_of_lt_of_le (h.pl b z) k.size,fun b z => Nat.lt_of_lt_of_le (h.ql b z) k.size,h.pr,h.qr⟩
theorem Both.later (h : Both R w0 w g p n f s d) (k : Below w.heap.size w u) : Both R w0 u g p n f s d := h.elim fun P h => h.elim fun Q h => ⟨P,Q,h.later k⟩
theorem Both.mono (h : Both R w0 w g p n f s d) (k : ∀ b,R b → T b) : Both T w0 w g p n f s d := h.elim fun P h => h.elim fun Q h => ⟨P,Q,h.wal,h.dsk,h.sub,h.ap,h.pl,h.ql,fun b z => k b (h.pr b z),fun b z => k b (h.qr b z)⟩
theorem Pair.rsub (h : Pair P Q R w0 w g p n f s d) : ∀ b,P b ∨ Q b → w0.heap.size ≤ b := fun b z => z.elim (h.sub b) (h.dsk.sub b)
theorem Pair.disk (h : Pair P Q R w0 w g p n f s d) {x : Int × D} {e : Ending} (k : ChgE Q w0 w p x e u) : Pair P (fun b => nw Q w b ∧ b < u.heap.size) (nw R w) w0 u g p n f s x.2 ∧ UpdQ Q w u := by
 obtain ⟨_,k2,k3⟩ := k
 refine ⟨⟨h.wal.keep k3 h.ap,k2.tight,h.sub,fun b z z2 => z2.1.elim (h.ap b z) fun z3 => by have := h.pl b z; omega,fun b z => Nat.lt_of_lt_of_le (h.pl b z) k3.size,fun b z => z.2,fun b z => .inl (h.pr b z),fun b z => z.1.elim (fun z => .inl (h.qr b z)) .inr⟩,k3⟩
theorem Pair.turn (h : Pair P Q R w0 w g p n f s d) {n' : Nat} {f' : Bool} (k : Wal (nw P w) u g p n' f' s') (k3 : UpdQ P w u) : Pair (fun b => nw P w b ∧ b < u.heap.size) Q (nw R w) w0 u g p n' f' s' d :=
 ⟨In.lt k,⟨h.dsk.dsk.keep k3 (fun b z z2 => h.ap b z2 z),h.dsk.sub,k3.below w0 h.dsk.bel h.sub⟩,fun b z => z.1.elim (h.sub b) fun z => Nat.le_trans h.dsk.bel.size z,fun b z z2 => z.1.elim (fun z => h.ap b z z2) fun z => by have := h.ql b z2; omega,fun b z => z.2,fun b z => Nat.lt_of_lt_of_le (h.ql b z) k3.size,fun b z => z.1.elim (fun z => .inl (h.pr b z)) .inr,fun b z => .inl (h.qr b z)⟩
end
def extS (s : Sg) (d : D) (n : Nat) (h : H) : Int × Sg × D :=
 ((writeD d n (frames (pays (change s.h h)))).1,if (writeD d n (frames (pays (change s.h h)))).1 ≠ 0 then s else runAll s (pays (change s.h h)),(writeD d n (frames (pays (change s.h h)))).2)
def TwoE (R : Nat → Prop) (w0 w : World) (g p n : Nat) (f : Bool) (x : Int × Sg × D) (e : Ending) (w' : World) : Prop := e = .returned (.int .i64 x.1) ∧ Both (nw R w) w0 w' g p n f x.2.1 x.2.2 ∧ UpdQ R w w'
set_option maxHeartbeats 4000000 in
theorem wl_extend {R : Nat → Prop} {w0 w : World} {g p n : Nat} {f : Bool} {s : Sg} {d : D} (h : Both R w0 w g p n f s d) (hn : n < 100) (few : d.fs.length < 1000) (r' : Hd.T) (l' : List Et.T) (hl' : Et.Ls w r'.log.ao r'.log.n r'.log.cap l') (hd : ∀ e ∈ l',e.data.size ≤ 1100) (hn' : l'.length ≤ 200) (hf : HFit r') (hb : 0 ≤ r'.base ∧ r'.base ≤ 1099511627776) :
  Calls Tryz.prog 49 #[.pointer (some ⟨g,0,none⟩),Hd.val r'] w (TwoE R w0 w g p n f (extS s d n (Hd.h r' l'))) := by
 obtain ⟨P,Q,h⟩ := h
 obtain ⟨v,hseg⟩ := h.wal
 obtain ⟨⟨vo,vn,vc⟩,hv⟩ : ∃ x,x = v := ⟨_,rfl⟩
 subst hv
 obtain ⟨W,hW,hbW,hC⟩ := Hd.boxed1 w r'
 have HBW := Lib.hid hbW
 have hS := hseg.below hbW
 obtain ⟨k0,k1,k2,fz,hlt⟩ := (Wal.cells ⟨_,hS⟩)
 obtain ⟨c0,c1,c2,c3,c4,c5,c6,c7,c8⟩ := hS.blk.cells
 unfold row at c0 c1 c2 c3 c4 c5 c6
 unfold sv at c6
 dsimp only at c0 c1 c2 c3 c4 c5 c6
 obtain ⟨ps,hps⟩ : ∃ ps,pays (change s.h (Hd.h r' l')) = ps := ⟨_,rfl⟩
 have HPs := Lib.hid hps
 have hF : Fine ps := hps ▸ fine_change hn' hd
 have HF := Lib.hid hF
 have CC : Hid (∀ u,Below W.heap.size W u → Calls Tryz.prog 95 #[Hd.val (row s.h ⟨vo,vn,vc⟩),Hd.val r'] u (fun e u' => ∃ v,e = .returned v ∧ Recs W u' v ps ∧ Below u.heap.size u u')) := Lib.hid fun u k => by
  have hw := bchain hbW k
  refine (wl_change (row s.h ⟨vo,vn,vc⟩) r' s.h.log l' u (hseg.ls.below hw) (hl'.below hw) hd (by have := hseg.few; omega) (by omega) hf hb).mono ?_
  rintro e u' ⟨x,rfl,rx,bx⟩
  refine ⟨x,rfl,?_,bx⟩
  rw [h_row,hps] at rx
  exact Recs.since rx k.size
 unfold Hd.val row at CC
 dsimp only at CC
 unfold Hd.C at hC
 obtain ⟨a0,a1,a2,a3,a4,a5,a6⟩ := hC
 have HP := Lib.hid (h.later hbW)
 have HX : Hid (extS s d n (Hd.h r' l') = ((writeD d n (frames ps)).1,if (writeD d n (frames ps)).1 ≠ 0 then s else runAll s ps,(writeD d n (frames ps)).2)) := Lib.hid (by unfold extS; rw [hps])
 obtain ⟨a,d1,hx⟩ : ∃ a d1,writeD d n (frames ps) = (a,d1) := ⟨_,_,rfl⟩
 have CW : Hid (∀ (u : World) (v : Value),Below W.heap.size W u → Recs W u v ps → Calls Tryz.prog 96 #[.pointer (some ⟨g,0,none⟩),.int .i64 (n : Int),v] u (fun e u' => e = .returned (.int .i64 a) ∧ Pair P (fun b => nw Q u b ∧ b < u'.heap.size) (nw R u) w0 u' g p n f s d1 ∧ UpdQ Q u u')) := Lib.hid fun u x k hx' => by
  have hP := HP.out.later k
  refine (wl_write hP.dsk hP.wal.cells.1 (hP.ap g hP.wal.pg) n hn W x ps hx' hF few).mono ?_
  intro e u' z
  rw [hx] at z
  exact ⟨z.1,hP.disk z⟩
 rw [hx] at HX
 dsimp only at HX
 have HLw : Hid (w.heap.size ≤ W.heap.size) := Lib.hid hbW.size
 unfold Hd.val
 clear h hl' hd hn' hf hb hseg hS hps hF hx hbW few hn c7 c8 k2 fz
 have lz : ∀ y,Below W.heap.size W y → y.cell? ⟨g,2,none⟩ = some (.int .i64 s.h.term) ∧ y.cell? ⟨g,3,none⟩ = some (.int .i64 s.h.vote) ∧ y.cell? ⟨g,4,none⟩ = some (.int .i64 s.h.base) ∧ y.cell? ⟨g,5,none⟩ = some (.int .i64 s.h.bt) ∧ y.cell? ⟨g,6,none⟩ = some (.int .i64 s.h.mem) ∧ y.cell? ⟨g,7,none⟩ = some (.string s.h.snap) ∧ y.cell? ⟨g,8,none⟩ = some (.slice vo vn vc) ∧ y.cell? ⟨w.heap.size,0,none⟩ = some (.int .i64 r'.term) ∧ y.cell? ⟨w.heap.size,1,none⟩ = some (.int .i64 r'.vote) ∧ y.cell? ⟨w.heap.size,2,none⟩ = some (.int .i64 r'.base) ∧ y.cell? ⟨w.heap.size,3,none⟩ = some (.int .i64 r'.bt) ∧ y.cell? ⟨w.heap.size,4,none⟩ = some (.int .i64 r'.mem) ∧ y.cell? ⟨w.heap.size,5,none⟩ = some (.string r'.snap) ∧ y.cell? ⟨w.heap.size,6,none⟩ = some (.slice r'.log.ao r'.log.n r'.log.cap) := fun y k => ⟨((bcell k).1 _ _ (cell_lt c0)).trans c0,((bcell k).1 _ _ (cell_lt c1)).trans c1,((bcell k).1 _ _ (cell_lt c2)).trans c2,((bcell k).1 _ _ (cell_lt c3)).trans c3,((bcell k).1 _ _ (cell_lt c4)).trans c4,((bcell k).1 _ _ (cell_lt c5)).trans c5,((bcell k).1 _ _ (cell_lt c6)).trans c6,((bcell k).1 _ _ (cell_lt a0)).trans a0,((bcell k).1 _ _ (cell_lt a1)).trans a1,((bcell k).1 _ _ (cell_lt a2)).trans a2,((bcell k).1 _ _ (cell_lt a3)).trans a3,((bcell k).1 _ _ (cell_lt a4)).trans a4,((bcell k).1 _ _ (cell_lt a5)).trans a5,((bcell k).1 _ _ (cell_lt a6)).trans a6⟩
 go_enter Tryz.func49,Tryz.ntmps49
 go_wp2_with fail
 go_region_held3 (fun y => y.cell? ⟨g,2,none⟩ = some (.int .i64 s.h.term) ∧ y.cell? ⟨g,3,none⟩ = some (.int .i64 s.h.vote) ∧ y.cell? ⟨g,4,none⟩ = some (.int .i64 s.h.base) ∧ y.cell? ⟨g,5,none⟩ = some (.int .i64 s.h.bt) ∧ y.cell? ⟨g,6,none⟩ = some (.int .i64 s.h.mem) ∧ y.cell? ⟨g,7,none⟩ = some (.string s.h.snap) ∧ y.cell? ⟨g,8,none⟩ = some (.slice vo vn vc) ∧ y.cell? ⟨w.heap.size,0,none⟩ = some (.int .i64 r'.term) ∧ y.cell? ⟨w.heap.size,1,none⟩ = some (.int .i64 r'.vote) ∧ y.cell? ⟨w.heap.size,2,none⟩ = some (.int .i64 r'.base) ∧ y.cell? ⟨w.heap.size,3,none⟩ = some (.int .i64 r'.bt) ∧ y.cell? ⟨w.heap.size,4,none⟩ = some (.int .i64 r'.mem) ∧ y.cell? ⟨w.heap.size,5,none⟩ = some (.string r'.snap) ∧ y.cell? ⟨w.heap.size,6,none⟩ = some (.slice r'.log.ao r'.log.n r'.log.cap)) (first | with_reducible assumption | (apply lz; repeat (first | with_reducible assumption | with_reducible apply Below.drew | with_reducible exact Below.refl _ _)) | fail) (first | (go_at_call 95; refine (CC.out _ (by first | exact Below.refl _ _ | exact (Below.refl _ _).drew)).mono ?_; rintro e u1 ⟨v1,rfl,r1,b1⟩; have t1 := lz _ (by first | exact b1 | exact bchain (Below.refl _ _).drew b1); have HR1 := Lib.hid r1; have HB1 : Hid (Below W.heap.size W u1) := Lib.hid (by first | exact b1 | exact bchain (Below.refl _ _).drew b1); clear r1 b1 CC) | fail)
 all_goals
  have k1' := ((bcell HB1.out).1 _ _ (cell_lt k1)).trans k1
  have CW1 := Lib.hid (CW.out u1 v1 HB1.out HR1.out)
  have HBW1 := Lib.hid (bchain HBW.out HB1.out)
  clear hW k0 k1 c0 c1 c2 c3 c4 c5 c6 a0 a1 a2 a3 a4 a5 a6 lz t1 CW hlt
  go_wp2_with fail
  refine CW1.out.mono ?_
  rintro e u2 ⟨rfl,hp2,q2⟩
  have HP2 := Lib.hid hp2
  have HQ2 := Lib.hid q2
  clear hp2 q2 CW1 k1'
  by_cases ha : a = 0
  ·
   subst ha
   have CT := Lib.hid (wl_takeAll HP2.out.wal v1 ps (Recs.keep HR1.out HQ2.out fun b z z2 => by have := HP.out.ql b z2; omega) HP.out.pl HF.out)
   go_wp2_with fail
   refine CT.out.mono ?_
   rintro e u3 ⟨rfl,h3,q3⟩
   have H3 := Lib.hid h3
   have HQ3 := Lib.hid q3
   clear h3 q3 CT
   go_wp2_with fail
   go_ret
   refine ⟨by rw [HX.out]; rfl,?_,((UpdQ.of HBW1.out).trans (HQ2.out.mono HP.out.qr)).trans (HQ3.out.mono HP.out.pr)⟩
   rw [HX.out]
   have hs1 := HBW1.out.size
   have hs2 := HQ2.out.size
   have hT := HP2.out.turn (s' := runAll s ps) H3.out HQ3.out
   exact Both.mono ⟨_,_,hT⟩ fun b z => z.elim (fun z => z.elim .inl fun z => .inr (by omega)) fun z => .inr (by omega)
  ·
   have qa : (a != 0) = true := bne_iff_ne.2 ha
   go_wp2_with fail
   go_ret
   refine ⟨by rw [HX.out]; rfl,?_,(UpdQ.of HBW1.out).trans (HQ2.out.mono HP.out.qr)⟩
   rw [HX.out]
   dsimp only
   rw [if_pos ha]
   have hs1 := HBW1.out.size
   exact Both.mono ⟨_,_,HP2.out⟩ fun b z => z.elim .inl fun z => .inr (by omega)
end Go.Proofs.YtlmjeackfepllaaGreatDoor.Wl
namespace Go.Proofs.YtlmjeackfepllaaGreatDoor.Wl
open Go.RowKit
open Mem Dk
def anewB (s : Sg) (d : D) (n : Nat) (h : H) : Bool :=
 !s.ready || (decide (8192 < flen d n) || (!basedB s.h h || (decide (h.term < s.h.term) || ((h.term == s.h.term) && (decide (s.h.vote ≠ -1) && decide (h.vote ≠ s.h.vote))))))
set_option maxHeartbeats 4000000 in
theorem wl_anew {R : Nat → Prop} {w0 w : World} {g p n : Nat} {f : Bool} {s : Sg} {d : D} (h : Both R w0 w g p n f s d) (hn : n < 100) (r' : Hd.T) (l' : List Et.T) :
  Calls Tryz.prog 47 #[.pointer (some ⟨g,0,none⟩),Hd.val r'] w fun e w' => e = .returned (.bool (anewB s d n (Hd.h r' l'))) ∧ Below w.heap.size w w' := by
 obtain ⟨P,Q,h⟩ := h
 obtain ⟨v,hseg⟩ := h.wal
 obtain ⟨⟨vo,vn,vc⟩,hv⟩ : ∃ x,x = v := ⟨_,rfl⟩
 subst hv
 obtain ⟨W,hW,hbW,hC⟩ := Hd.boxed1 w r'
 have HBW := Lib.hid hbW
 have hS := hseg.below hbW
 obtain ⟨k0,k1,k2,fz,hlt⟩ := (Wal.cells ⟨_,hS⟩)
 obtain ⟨c0,c1,c2,c3,c4,c5,c6,c7,c8⟩ := hS.blk.cells
 unfold row at c0 c1 c2 c3 c4 c5 c6
 unfold sv at c6
 dsimp only at c0 c1 c2 c3 c4 c5 c6
 have CB := Lib.hid (fun u => wl_based (row s.h ⟨vo,vn,vc⟩) r' s.h.log l' u)
 rw [h_row] at CB
 unfold Hd.val row at CB
 dsimp only at CB
 unfold Hd.C at hC
 obtain ⟨a0,a1,a2,a3,a4,a5,a6⟩ := hC
 have HP := Lib.hid (h.later hbW)
 have CL : Hid (∀ u,Below W.heap.size W u → Calls Tryz.prog 94 #[.pointer (some ⟨g,0,none⟩)] u fun e w' => e = .returned (.bool (decide (8192 < flen d n))) ∧ Below u.heap.size u w') := Lib.hid fun u k => wl_long (HP.out.later k).wal (HP.out.later k).dsk hn
 obtain ⟨lg,hlg⟩ : ∃ b,decide (8192 < flen d n) = b := ⟨_,rfl⟩
 obtain ⟨bs,hbs⟩ : ∃ b,basedB s.h (Hd.h r' l') = b := ⟨_,rfl⟩
 rw [hlg] at CL
 rw [hbs] at CB
 have HX : Hid (anewB s d n (Hd.h r' l') = (!s.ready || (lg || (!bs || (decide (r'.term < s.h.term) || ((r'.term == s.h.term) && (decide (s.h.vote ≠ -1) && decide (r'.vote ≠ s.h.vote)))))))) := Lib.hid (by unfold anewB; rw [hlg,hbs]; rfl)
 unfold Hd.val
 clear h hseg hS hbW hn c7 k2 fz hlg hbs
 cases hr : s.ready
 ·
  rw [hr] at c8 HX
  go_enter Tryz.func47,Tryz.ntmps47
  go_wp2_with fail
  go_ret
  exact ⟨ret_bool (by rw [HX.out]; rfl),bchain HBW.out ((Below.refl _ _).alloc (Nat.le_refl _) _)⟩
 ·
  rw [hr] at c8 HX
  go_enter Tryz.func47,Tryz.ntmps47
  go_wp2_with fail
  obtain ⟨W2,hW2,hbW2,hC2⟩ := Hd.boxed1 W (row s.h ⟨vo,vn,vc⟩)
  unfold row at hW2 hC2
  unfold Hd.C at hC2
  dsimp only at hW2 hC2
  rw [hW2]
  have CL2 := Lib.hid (CL.out W2 hbW2)
  refine CL2.out.mono ?_
  rintro e u ⟨rfl,bu⟩
  have HU := Lib.hid (bchain HBW.out (bchain hbW2 bu))
  obtain ⟨e0,e1,e2,e3,e4,e5,e6⟩ := hC2
  have la : ∀ y,Below W2.heap.size W2 y → y.cell? ⟨w.heap.size,0,none⟩ = some (.int .i64 r'.term) ∧ y.cell? ⟨w.heap.size,1,none⟩ = some (.int .i64 r'.vote) ∧ y.cell? ⟨w.heap.size,2,none⟩ = some (.int .i64 r'.base) ∧ y.cell? ⟨w.heap.size,3,none⟩ = some (.int .i64 r'.bt) ∧ y.cell? ⟨w.heap.size,4,none⟩ = some (.int .i64 r'.mem) ∧ y.cell? ⟨w.heap.size,5,none⟩ = some (.string r'.snap) ∧ y.cell? ⟨w.heap.size,6,none⟩ = some (.slice r'.log.ao r'.log.n r'.log.cap) ∧ y.cell? ⟨W.heap.size,0,none⟩ = some (.int .i64 s.h.term) ∧ y.cell? ⟨W.heap.size,1,none⟩ = some (.int .i64 s.h.vote) ∧ y.cell? ⟨W.heap.size,2,none⟩ = some (.int .i64 s.h.base) ∧ y.cell? ⟨W.heap.size,3,none⟩ = some (.int .i64 s.h.bt) ∧ y.cell? ⟨W.heap.size,4,none⟩ = some (.int .i64 s.h.mem) ∧ y.cell? ⟨W.heap.size,5,none⟩ = some (.string s.h.snap) ∧ y.cell? ⟨W.heap.size,6,none⟩ = some (.slice vo vn vc) := fun y k => ⟨((bcell (bchain hbW2 k)).1 _ _ (cell_lt a0)).trans a0,((bcell (bchain hbW2 k)).1 _ _ (cell_lt a1)).trans a1,((bcell (bchain hbW2 k)).1 _ _ (cell_lt a2)).trans a2,((bcell (bchain hbW2 k)).1 _ _ (cell_lt a3)).trans a3,((bcell (bchain hbW2 k)).1 _ _ (cell_lt a4)).trans a4,((bcell (bchain hbW2 k)).1 _ _ (cell_lt a5)).trans a5,((bcell (bchain hbW2 k)).1 _ _ (cell_lt a6)).trans a6,((bcell k).1 _ _ (cell_lt e0)).trans e0,((bcell k).1 _ _ (cell_lt e1)).trans e1,((bcell k).1 _ _ (cell_lt e2)).trans e2,((bcell k).1 _ _ (cell_lt e3)).trans e3,((bcell k).1 _ _ (cell_lt e4)).trans e4,((bcell k).1 _ _ (cell_lt e5)).trans e5,((bcell k).1 _ _ (cell_lt e6)).trans e6⟩
  obtain ⟨x0,x1,x2,x3,x4,x5,x6,y0,y1,y2,y3,y4,y5,y6⟩ := la u bu
  clear hW hW2 CL CL2 k0 k1 c0 c1 c2 c3 c4 c5 c6 c8 a0 a1 a2 a3 a4 a5 a6 e0 e1 e2 e3 e4 e5 e6 hlt HP
  cases lg
  ·
   have CB2 := Lib.hid (CB.out u)
   go_wp2_with fail
   refine CB2.out.mono ?_
   rintro e u2 ⟨rfl,b2⟩
   have HU2 := Lib.hid (bchain HU.out b2)
   obtain ⟨z0,z1,z2,z3,z4,z5,z6,v0,v1,v2,v3,v4,v5,v6⟩ := la u2 (bchain bu b2)
   clear CB CB2 la bu b2 x0 x1 x2 x3 x4 x5 x6 y0 y1 y2 y3 y4 y5 y6
   cases bs
   ·
    go_wp2_with fail
    go_ret
    exact ⟨ret_bool (by rw [HX.out]; rfl),HU2.out⟩
   have HX2 : Hid (anewB s d n (Hd.h r' l') = (decide (r'.term < s.h.term) || ((r'.term == s.h.term) && (decide (s.h.vote ≠ -1) && decide (r'.vote ≠ s.h.vote))))) := Lib.hid (by rw [HX.out]; rfl)
   clear HX
   cases t1 : decide (r'.term < s.h.term)
   ·
    rw [t1,Bool.false_or] at HX2
    cases t2 : (r'.term == s.h.term)
    ·
     rw [t2,Bool.false_and] at HX2
     go_wp2_with fail
     go_ret
     exact ⟨ret_bool HX2.out.symm,HU2.out⟩
    ·
     rw [t2,Bool.true_and] at HX2
     cases t3 : (s.h.vote != -1)
     ·
      rw [show decide (s.h.vote ≠ -1) = (s.h.vote != -1) from by by_cases q : s.h.vote = -1 <;> simp [q],t3,Bool.false_and] at HX2
      go_wp2_with fail
      go_ret
      exact ⟨ret_bool HX2.out.symm,HU2.out⟩
     ·
      rw [show decide (s.h.vote ≠ -1) = (s.h.vote != -1) from by by_cases q : s.h.vote = -1 <;> simp [q],t3,Bool.true_and] at HX2
      rw [show decide (r'.vote ≠ s.h.vote) = (r'.vote != s.h.vote) from by by_cases q : r'.vote = s.h.vote <;> simp [q]] at HX2
      go_wp2_with fail
      go_ret
      exact ⟨ret_bool HX2.out.symm,HU2.out⟩
   ·
    rw [t1,Bool.true_or] at HX2
    go_wp2_with fail
    go_ret
    exact ⟨ret_bool HX2.out.symm,HU2.out⟩
  ·
   clear la bu CB
   go_wp2_with fail
   go_ret
   exact ⟨ret_bool (by rw [HX.out]; rfl),HU.out⟩
end Go.Proofs.YtlmjeackfepllaaGreatDoor.Wl
namespace Go.Proofs.YtlmjeackfepllaaGreatDoor.Wl
open Go.RowKit
open Mem Dk
section
variable {P Q R R2 T : Nat → Prop} {w0 w W u v : World} {g p n : Nat} {f : Bool} {s s' : Sg} {d d' d2 : D}
theorem Wal.count (h : Wal P w g p n f s) (m : Nat) : Wal P (w.setCell ⟨g,1,none⟩ (.int .i64 (m : Int))) g p m f s ∧ UpdQ P w (w.setCell ⟨g,1,none⟩ (.int .i64 (m : Int))) := by
 have hg := h.pg
 obtain ⟨v,h⟩ := h
 have hu := upd_set w g 1 (.int .i64 (m : Int))
 exact ⟨⟨v,⟨rfl,(heap_setCell_same w g 1 _ _ (.int .i64 (m : Int)) h.blk.2).trans rfl⟩,hu.rows h.own fun q e => (h.pv q e).2,h.pg,h.pv,h.short,h.few,h.base,h.fit,h.snap⟩,hu.mono fun q z => z ▸ hg⟩
theorem Wal.clear (h : Wal P w g p n f s) : Wal P (lay9 w g 2 ⟨0,-1,0,0,0,⟨#[]⟩,⟨none,0,0⟩⟩ false false) g p n f empty ∧ UpdQ P w (lay9 w g 2 ⟨0,-1,0,0,0,⟨#[]⟩,⟨none,0,0⟩⟩ false false) := by
 have hg := h.pg
 obtain ⟨v,h⟩ := h
 exact ⟨⟨⟨none,0,0⟩,(vl_empty P _).seg (h.blk.lay9 _ _ _) hg fun b e => by cases e⟩,(lay9_upd w g 2 _ _ _).mono fun q z => z ▸ hg⟩
theorem Wal.nine (h : Wal P w g p n f s) : ∃ (i0 i1 i2 i3 i4 : Int) (t : ByteArray) (vo : Option Addr) (vn vc : Nat) (b c : Bool),w.cell? ⟨g,2,none⟩ = some (.int .i64 i0) ∧ w.cell? ⟨g,3,none⟩ = some (.int .i64 i1) ∧ w.cell? ⟨g,4,none⟩ = some (.int .i64 i2) ∧ w.cell? ⟨g,5,none⟩ = some (.int .i64 i3) ∧ w.cell? ⟨g,6,none⟩ = some (.int .i64 i4) ∧ w.cell? ⟨g,7,none⟩ = some (.string t) ∧ w.cell? ⟨g,8,none⟩ = some (.slice vo vn vc) ∧ w.cell? ⟨g,9,none⟩ = some (.bool b) ∧ w.cell? ⟨g,10,none⟩ = some (.bool c) := by
 obtain ⟨v,h⟩ := h
 obtain ⟨c0,c1,c2,c3,c4,c5,c6,c7,c8⟩ := h.blk.cells
 exact ⟨_,_,_,_,_,_,_,_,_,_,_,c0,c1,c2,c3,c4,c5,c6,c7,c8⟩
theorem Wal.isReady (h : Wal P w g p n f s) : w.cell? ⟨g,10,none⟩ = some (.bool s.ready) := by
 obtain ⟨v,h⟩ := h
 exact h.blk.cells.2.2.2.2.2.2.2.2
theorem Recs.keep2 {x y : World} {v1 : Value} {ps : List (List UInt8)} (h : Recs w0 x v1 ps) (k : UpdQ Q x y) (hQ : ∀ b,w0.heap.size ≤ b → b < x.heap.size → ¬ Q b) : Recs w0 y v1 ps := by
 obtain ⟨gs,a,b,c⟩ := h
 exact ⟨gs,k.rows a (fun g hg => hQ g (World.ownsRow.lt a g hg).1 (World.ownsRow.lt a g hg).2),b,fun q hq => ⟨(k.block q.1 (c q hq).1.lt (hQ q.1 (c q hq).2.1 (c q hq).1.lt)).trans (c q hq).1,(c q hq).2⟩⟩
theorem Pair.fresh (h : Pair P Q R2 w0 u g p n f s d2) (hu : UpdQ R w u) (hR2 : ∀ b,R2 b → nw R w b) (hP : ∀ b,P b → b < W.heap.size) (hPR : ∀ b,P b → R b) (v1 : Value) (ps : List (List UInt8)) (hR : Recs W u v1 ps) (hF : Fine ps) (m : Nat) :
  ∀ y,Below (u.setCell ⟨g,1,none⟩ (.int .i64 (m : Int))).heap.size (u.setCell ⟨g,1,none⟩ (.int .i64 (m : Int))) y → Calls Tryz.prog 97 #[.pointer (some ⟨g,2,none⟩),v1] (lay9 y g 2 ⟨0,-1,0,0,0,⟨#[]⟩,⟨none,0,0⟩⟩ false false) (fun e z => e = .returned (.tuple #[]) ∧ Both (nw R w) w0 z g p m f (runAll empty ps) d2 ∧ UpdQ R w z) := by
 intro y k
 obtain ⟨a1,a2⟩ := h.wal.count m
 have b1 : Wal P y g p m f s := In.below a1 k
 have b2 : UpdQ P u y := a2.trans (UpdQ.of k)
 obtain ⟨c1,c2⟩ := b1.clear
 have c3 := b2.trans c2
 refine (wl_takeAll c1 v1 ps (hR.keep c3 fun b z z2 => by have := hP b z2; omega) hP hF).mono ?_
 rintro e z ⟨rfl,d1,d3⟩
 have hs := c3.size
 have e1 : Wal (nw P u) z g p m f (runAll empty ps) := In.mono d1 fun b t => t.elim .inl fun t => .inr (by omega)
 have e2 := c3.trans d3
 have hsz := hu.size
 refine ⟨rfl,Both.mono ⟨_,_,h.turn e1 e2⟩ fun b t => t.elim (hR2 b) fun t => .inr (by omega),hu.trans (e2.mono hPR)⟩
theorem chg_rem {x : World} (h : S Q w0 w p d) (hu : Below w.heap.size w x) (t : ByteArray) : Calls Tryz.prog 38 #[.pointer (some ⟨p,0,none⟩),.string t] x (ChgE Q w0 w p (remD d t)) :=
 (s_remove (h.tight.later hu) t).mono fun e w' z => ChgE.since h (UpdQ.of hu) (fun b z => .inl z.1) z
end
def layS (s : Sg) (d : D) (n : Nat) (h : H) : Int × Nat × Sg × D :=
 if (writeD d (n + 1) (frames (pays (whole h)))).1 ≠ 0 then ((writeD d (n + 1) (frames (pays (whole h)))).1,n,s,(writeD d (n + 1) (frames (pays (whole h)))).2)
 else if s.ready = false then (0,n + 1,runAll empty (pays (whole h)),(writeD d (n + 1) (frames (pays (whole h)))).2)
 else if (remD (writeD d (n + 1) (frames (pays (whole h)))).2 (wname n)).1 ≠ 0 then ((remD (writeD d (n + 1) (frames (pays (whole h)))).2 (wname n)).1,n,s,(remD (writeD d (n + 1) (frames (pays (whole h)))).2 (wname n)).2)
 else (0,n + 1,runAll empty (pays (whole h)),(remD (writeD d (n + 1) (frames (pays (whole h)))).2 (wname n)).2)
def AllE (R : Nat → Prop) (w0 w : World) (g p : Nat) (f : Bool) (x : Int × Nat × Sg × D) (e : Ending) (w' : World) : Prop := e = .returned (.int .i64 x.1) ∧ Both (nw R w) w0 w' g p x.2.1 f x.2.2.1 x.2.2.2 ∧ UpdQ R w w'
set_option maxHeartbeats 4000000 in
theorem wl_lay {R : Nat → Prop} {w0 w : World} {g p n : Nat} {f : Bool} {s : Sg} {d : D} (h : Both R w0 w g p n f s d) (hn : n + 1 < 100) (few : d.fs.length < 1000) (r' : Hd.T) (l' : List Et.T) (hl' : Et.Ls w r'.log.ao r'.log.n r'.log.cap l') (hd : ∀ e ∈ l',e.data.size ≤ 1100) (hn' : l'.length ≤ 200) (hf : HFit r') :
  Calls Tryz.prog 50 #[.pointer (some ⟨g,0,none⟩),Hd.val r'] w (AllE R w0 w g p f (layS s d n (Hd.h r' l'))) := by
 obtain ⟨P,Q,h⟩ := h
 obtain ⟨W,hW,hbW,hC⟩ := Hd.boxed1 w r'
 have HBW := Lib.hid hbW
 obtain ⟨ps,hps⟩ : ∃ ps,pays (whole (Hd.h r' l')) = ps := ⟨_,rfl⟩
 have hF : Fine ps := hps ▸ fine_whole hn' hd
 have HF := Lib.hid hF
 have HN := Lib.hid hn
 have CC : Hid (Calls Tryz.prog 98 #[Hd.val r'] W (fun e u' => ∃ v,e = .returned v ∧ Recs W u' v ps ∧ Below W.heap.size W u')) := Lib.hid (hps ▸ wl_whole r' l' W (hl'.below hbW) hd (by omega) hf)
 have HP := Lib.hid (h.later hbW)
 obtain ⟨k0,k1,k2,fz,hlt⟩ := HP.out.wal.cells
 obtain ⟨a,d1,hx⟩ : ∃ a d1,writeD d (n + 1) (frames ps) = (a,d1) := ⟨_,_,rfl⟩
 obtain ⟨b,d2,hy⟩ : ∃ b d2,remD d1 (wname n) = (b,d2) := ⟨_,_,rfl⟩
 have HX : Hid (layS s d n (Hd.h r' l') = (if a ≠ 0 then (a,n,s,d1) else if s.ready = false then (0,n + 1,runAll empty ps,d1) else if b ≠ 0 then (b,n,s,d2) else (0,n + 1,runAll empty ps,d2))) := Lib.hid (by unfold layS; rw [hps,hx]; dsimp only; rw [hy])
 have CW : Hid (∀ (u : World) (v : Value),Below W.heap.size W u → Recs W u v ps → Calls Tryz.prog 96 #[.pointer (some ⟨g,0,none⟩),.int .i64 ((n + 1 : Nat) : Int),v] u (fun e u' => e = .returned (.int .i64 a) ∧ Pair P (fun b => nw Q u b ∧ b < u'.heap.size) (nw R u) w0 u' g p n f s d1 ∧ UpdQ Q u u')) := Lib.hid fun u x k hx' => by
  have hP := HP.out.later k
  refine (wl_write hP.dsk hP.wal.cells.1 (hP.ap g hP.wal.pg) (n + 1) hn W x ps hx' hF few).mono ?_
  intro e u' z
  rw [hx] at z
  exact ⟨z.1,hP.disk z⟩
 have CR : Hid (∀ (u x : World) (Q2 R2 : Nat → Prop),Pair P Q2 R2 w0 u g p n f s d1 → Below u.heap.size u x → Calls Tryz.prog 38 #[.pointer (some ⟨p,0,none⟩),.string (wname n)] x (fun e u' => e = .returned (.int .i64 b) ∧ Pair P (fun b => nw Q2 u b ∧ b < u'.heap.size) (nw R2 u) w0 u' g p n f s d2 ∧ UpdQ Q2 u u')) := Lib.hid fun u x Q2 R2 hP k => by
  refine (chg_rem hP.dsk k (wname n)).mono ?_
  intro e u' z
  rw [hy] at z
  exact ⟨z.1,hP.disk z⟩
 have hsum : IntKind.i64.wrap ((n : Int) + 1) = ((n + 1 : Nat) : Int) := by rw [IntKind.wrap_i64]; omega
 unfold Hd.C at hC
 obtain ⟨a0,a1,a2,a3,a4,a5,a6⟩ := hC
 unfold Hd.val at CC ⊢
 clear h hl' hd hn' hf hps hF hx hy hbW few hn k0 k2 fz
 go_enter Tryz.func50,Tryz.ntmps50
 go_wp2_with fail
 refine CC.out.mono ?_
 rintro e u1 ⟨v1,rfl,r1,b1⟩
 have HR1 := Lib.hid r1
 have HB1 := Lib.hid b1
 have HBW1 := Lib.hid (bchain HBW.out b1)
 have k1' := ((bcell b1).1 _ _ (cell_lt k1)).trans k1
 have CW1 := Lib.hid (CW.out u1 v1 b1 r1)
 clear hW k1 a0 a1 a2 a3 a4 a5 a6 CW hlt r1 b1 CC
 go_wp2_with fail
 refine CW1.out.mono ?_
 rintro e u2 ⟨rfl,hp2,q2⟩
 have HP2 := Lib.hid hp2
 have HQ2 := Lib.hid q2
 have HU2 := Lib.hid ((UpdQ.of HBW1.out).trans (q2.mono HP.out.qr))
 have HR2 := Lib.hid (HR1.out.keep q2 fun b z z2 => by have := HP.out.ql b z2; omega)
 have HN2 : Hid (∀ b,nw R u1 b → nw R w b) := Lib.hid fun b z => z.imp id fun z => by have := HBW1.out.size; omega
 have rd := hp2.wal.isReady
 clear hp2 q2 CW1 k1'
 by_cases ha : a = 0
 ·
  subst ha
  cases hr : s.ready
  ·
   rw [hr] at rd
   have HX2 : Hid (layS s d n (Hd.h r' l') = (0,n + 1,runAll empty ps,d1)) := Lib.hid (by rw [HX.out,if_neg (fun z => z rfl),if_pos hr])
   obtain ⟨k0,k1,k2,fz,hlt⟩ := HP2.out.wal.cells
   have CT := Lib.hid (Pair.fresh HP2.out HU2.out HN2.out HP.out.pl HP.out.pr v1 ps HR2.out HF.out (n + 1))
   have CN := Lib.hid fun y (k : Below (u2.setCell ⟨g,1,none⟩ (.int .i64 ((n + 1 : Nat) : Int))).heap.size (u2.setCell ⟨g,1,none⟩ (.int .i64 ((n + 1 : Nat) : Int))) y) => (show Wal P y g p (n + 1) f s from In.below (HP2.out.wal.count (n + 1)).1 k)
   have f1 := fz 1
   clear HX k0 k2 fz
   go_wp2_with fail
   refine (wl_empty _).mono ?_
   rintro e uE ⟨rfl,bE⟩
   have hE := CN.out uE bE
   have CT2 := Lib.hid (CT.out uE bE)
   obtain ⟨_,_,_,fz,hlt2⟩ := hE.cells
   obtain ⟨i0,i1,i2,i3,i4,t,vo,vn,vc,b',c',e0,e1,e2,e3,e4,e5,e6,e7,e8⟩ := hE.nine
   clear hE CN CT bE
   go_wp2_with fail
   refine CT2.out.mono ?_
   rintro e u5 ⟨rfl,h5,q5⟩
   have H5 := Lib.hid h5
   have HQ5 := Lib.hid q5
   clear h5 q5 CT2
   go_wp2_with fail
   go_ret
   refine ⟨by rw [HX2.out]; rfl,?_,HQ5.out⟩
   rw [HX2.out]
   exact H5.out
  ·
   rw [hr] at rd
   obtain ⟨k0,k1,k2,fz,hlt⟩ := HP2.out.wal.cells
   have CR2 := Lib.hid (fun x k => CR.out u2 x _ _ HP2.out k)
   have lz : ∀ y,Below u2.heap.size u2 y → y.cell? ⟨g,0,none⟩ = some (.pointer (some ⟨p,0,none⟩)) ∧ y.cell? ⟨g,1,none⟩ = some (.int .i64 (n : Int)) := fun y k => ⟨((bcell k).1 _ _ hlt).trans k0,((bcell k).1 _ _ hlt).trans k1⟩
   clear CR k2
   go_wp2_with fail
   go_region_held3 (fun y => y.cell? ⟨g,0,none⟩ = some (.pointer (some ⟨p,0,none⟩)) ∧ y.cell? ⟨g,1,none⟩ = some (.int .i64 (n : Int))) (first | with_reducible assumption | (apply lz; repeat (first | with_reducible assumption | with_reducible apply Below.drew | with_reducible exact Below.refl _ _)) | fail) (first | (go_at_call 43; refine (wl_name n (by have := HN.out; omega) _).mono ?_; rintro e u ⟨rfl,hu⟩; rw [hu]; clear hu u) | (go_at_call 38; refine (CR2.out _ (by first | exact Below.refl _ _ | exact (Below.refl _ _).drew)).mono ?_; rintro e u3 ⟨rfl,hp3,q3⟩; have t3 : u3.cell? ⟨g,0,none⟩ = some (.pointer (some ⟨p,0,none⟩)) ∧ u3.cell? ⟨g,1,none⟩ = some (.int .i64 (n : Int)) := ⟨hp3.wal.cells.1,hp3.wal.cells.2.1⟩; have HP3 := Lib.hid hp3; have HQ3 := Lib.hid q3; clear hp3 q3 CR2) | fail)
   all_goals
    have HU3 := Lib.hid (upd_nw ((HU2.out.mono fun b z => .inl z).trans (HQ3.out.mono fun b z => HN2.out b (HP2.out.qr b z))))
    have HR3 := Lib.hid (HR1.out.keep2 (Q := nw Q u1) ((HQ2.out.mono fun b z => .inl z).trans (HQ3.out.mono fun b z => z.1)) fun b z z1 z2 => z2.elim (fun z2 => by have := HP.out.ql b z2; omega) fun z2 => by omega)
    have HN3 : Hid (∀ b,nw (nw R u1) u2 b → nw R w b) := Lib.hid fun b z => z.elim (HN2.out b) fun z => .inr (by have := HU2.out.size; omega)
    clear t3 HR1 HR2 k0 k1 fz hlt lz
    by_cases hb : b = 0
    ·
     subst hb
     have HX2 : Hid (layS s d n (Hd.h r' l') = (0,n + 1,runAll empty ps,d2)) := Lib.hid (by rw [HX.out,if_neg (fun z => z rfl),if_neg (by rw [hr]; simp),if_neg (fun z => z rfl)])
     obtain ⟨k0,k1,k2,fz,hlt⟩ := HP3.out.wal.cells
     have CT := Lib.hid (Pair.fresh HP3.out HU3.out HN3.out HP.out.pl HP.out.pr v1 ps HR3.out HF.out (n + 1))
     have CN := Lib.hid fun y (k : Below (u3.setCell ⟨g,1,none⟩ (.int .i64 ((n + 1 : Nat) : Int))).heap.size (u3.setCell ⟨g,1,none⟩ (.int .i64 ((n + 1 : Nat) : Int))) y) => (show Wal P y g p (n + 1) f s from In.below (HP3.out.wal.count (n + 1)).1 k)
     have f1 := fz 1
     clear HX k0 k2 fz
     go_wp2_with fail
     refine (wl_empty _).mono ?_
     rintro e uE ⟨rfl,bE⟩
     have hE := CN.out uE bE
     have CT2 := Lib.hid (CT.out uE bE)
     obtain ⟨_,_,_,fz,hlt2⟩ := hE.cells
     obtain ⟨i0,i1,i2,i3,i4,t,vo,vn,vc,b',c',e0,e1,e2,e3,e4,e5,e6,e7,e8⟩ := hE.nine
     clear hE CN CT bE
     go_wp2_with fail
     refine CT2.out.mono ?_
     rintro e u5 ⟨rfl,h5,q5⟩
     have H5 := Lib.hid h5
     have HQ5 := Lib.hid q5
     clear h5 q5 CT2
     go_wp2_with fail
     go_ret
     refine ⟨by rw [HX2.out]; rfl,?_,HQ5.out⟩
     rw [HX2.out]
     exact H5.out
    ·
     have qb : (b != 0) = true := bne_iff_ne.2 hb
     have HX2 : Hid (layS s d n (Hd.h r' l') = (b,n,s,d2)) := Lib.hid (by rw [HX.out,if_neg (fun z => z rfl),if_neg (by rw [hr]; simp),if_pos hb])
     clear HX
     go_wp2_with fail
     go_ret
     refine ⟨by rw [HX2.out]; rfl,?_,HU3.out⟩
     rw [HX2.out]
     exact Both.mono ⟨_,_,HP3.out⟩ HN3.out
 ·
  have qa : (a != 0) = true := bne_iff_ne.2 ha
  have HX2 : Hid (layS s d n (Hd.h r' l') = (a,n,s,d1)) := Lib.hid (by rw [HX.out,if_pos ha])
  clear HX CR
  go_wp2_with fail
  go_ret
  refine ⟨by rw [HX2.out]; rfl,?_,HU2.out⟩
  rw [HX2.out]
  exact Both.mono ⟨_,_,HP2.out⟩ HN2.out
end Go.Proofs.YtlmjeackfepllaaGreatDoor.Wl
namespace Go.Proofs.YtlmjeackfepllaaGreatDoor.Wl
open Go.RowKit
open Mem Dk
open Go.Sort (grow)
theorem more_ok : ∀ (l : List Et.T) (h : H),more h l = true → h.log.length ≤ 200 → (∀ e ∈ l,e.data.size ≤ 1100) ∧ h.log.length + l.length ≤ 200
 | [],h,_,k => ⟨fun e he => (by cases he),k⟩
 | e :: l,h,hm,k => by
  unfold more at hm
  rw [Bool.and_eq_true] at hm
  obtain ⟨h1,h2⟩ := hm
  have hf := fits_few h1
  obtain ⟨a,b⟩ := more_ok l (h.with (h.log ++ [e])) h2 (by show (h.log ++ [e]).length ≤ 200; rw [List.length_append]; show h.log.length + 1 ≤ 200; omega)
  have b' : (h.log ++ [e]).length + l.length ≤ 200 := b
  rw [List.length_append,List.length_singleton] at b'
  refine ⟨fun x hx => ?_,by rw [List.length_cons]; omega⟩
  rcases List.mem_cons.1 hx with rfl | hx
  ·
   unfold fits at h1
   simp only [Bool.and_eq_true,decide_eq_true_eq] at h1
   exact h1.2.2.2.2.1
  · exact a x hx
theorem right_ok {h : H} (k : right h = true) : (∀ e ∈ h.log,e.data.size ≤ 1100) ∧ h.log.length ≤ 200 ∧ headed h = true := by
 unfold right at k
 simp only [Bool.and_eq_true] at k
 obtain ⟨a,b,c⟩ := k
 obtain ⟨d,e⟩ := more_ok _ _ c (Nat.zero_le _)
 refine ⟨d,?_,a⟩
 have e' : 0 + h.log.length ≤ 200 := e
 omega
def saveS (n : Nat) (f : Bool) (s : Sg) (d : D) (h : H) : Int × Bool × Nat × Sg × D :=
 if right h = false then (1,f,n,s,d)
 else if f = true then (18,f,n,s,d)
 else if (s.ready && sameH s.h h) = true then (0,f,n,s,d)
 else if anewB s d n h = false then ((extS s d n h).1,((extS s d n h).1 != 0),n,(extS s d n h).2.1,(extS s d n h).2.2)
 else ((layS s d n h).1,((layS s d n h).1 != 0),(layS s d n h).2.1,(layS s d n h).2.2.1,(layS s d n h).2.2.2)
def SaveE (R : Nat → Prop) (w0 w : World) (g p : Nat) (x : Int × Bool × Nat × Sg × D) (e : Ending) (w' : World) : Prop := e = .returned (.int .i64 x.1) ∧ Both (nw R w) w0 w' g p x.2.2.1 x.2.1 x.2.2.2.1 x.2.2.2.2 ∧ UpdQ R w w'
section
variable {P Q R R2 T : Nat → Prop} {w0 w W u v : World} {g p n : Nat} {f : Bool} {s s' : Sg} {d d' d2 : D}
theorem tell_both (h : Both R w0 w g p n f s d) (e : Int) : Calls Tryz.prog 48 #[.pointer (some ⟨g,0,none⟩),.int .i64 e] w fun x w' => x = .returned (.int .i64 e) ∧ Both (nw R w) w0 w' g p n (e != 0) s d ∧ UpdQ R w w' := by
 obtain ⟨P,Q,h⟩ := h
 refine (wl_tell h.wal e).mono ?_
 rintro x w' ⟨rfl,a,b⟩
 have a' : Wal (nw P w) w' g p n (e != 0) s := In.mono a fun b z => .inl z
 exact ⟨rfl,⟨_,_,h.turn a' b⟩,b.mono h.pr⟩
theorem Both.nw (h : Both R w0 w g p n f s d) : Both (nw R w) w0 w g p n f s d := h.mono fun b z => .inl z
end
set_option maxHeartbeats 4000000 in
theorem wl_save {R : Nat → Prop} {w0 w : World} {g p n : Nat} {f : Bool} {s : Sg} {d : D} (h : Both R w0 w g p n f s d) (hn : n + 1 < 100) (few : d.fs.length < 1000) (r' : Hd.T) (l' : List Et.T) (hl' : Et.Ls w r'.log.ao r'.log.n r'.log.cap l') (hz : r'.snap.size ≤ 140737488355328) :
  Calls Tryz.prog 11 #[.pointer (some ⟨g,0,none⟩),Hd.val r'] w (SaveE R w0 w g p (saveS n f s d (Hd.h r' l'))) := by
 obtain ⟨W,hW,hbW,hC⟩ := Hd.boxed1 w r'
 have HBW := Lib.hid hbW
 have HB := Lib.hid (h.later hbW)
 have HL := Lib.hid (hl'.below hbW)
 have CR := Lib.hid (wl_right r' l' W HL.out hz)
 have HC := Lib.hid hC
 have HN := Lib.hid hn
 have HFw := Lib.hid few
 obtain ⟨rt,hrt⟩ : ∃ b,right (Hd.h r' l') = b := ⟨_,rfl⟩
 rw [hrt] at CR
 unfold Hd.C at hC
 obtain ⟨a0,a1,a2,a3,a4,a5,a6⟩ := hC
 unfold Hd.val at CR ⊢
 clear h hl' hz hbW few hn
 cases rt
 ·
  have HX : Hid (saveS n f s d (Hd.h r' l') = (1,f,n,s,d)) := Lib.hid (by unfold saveS; rw [if_pos hrt])
  go_enter Tryz.func11,Tryz.ntmps11
  go_wp2_with fail
  refine CR.out.mono ?_
  rintro e u ⟨rfl,bu⟩
  have HU := Lib.hid bu
  clear bu CR hW
  go_wp2_with fail
  go_ret
  refine ⟨by rw [HX.out]; rfl,?_,UpdQ.of (bchain HBW.out HU.out)⟩
  rw [HX.out]
  exact (HB.out.later HU.out).mono fun b z => .inl z
 obtain ⟨hd,hln,hhd⟩ := right_ok hrt
 obtain ⟨hbase,hft⟩ := headed_fit hhd
 obtain ⟨P,Q,hPr⟩ := HB.out
 obtain ⟨k0,k1,k11,_,hlt⟩ := hPr.wal.cells
 have rd := hPr.wal.isReady
 obtain ⟨v,hseg⟩ := hPr.wal
 obtain ⟨⟨vo,vn,vc⟩,hv⟩ : ∃ x,x = v := ⟨_,rfl⟩
 subst hv
 obtain ⟨c0,c1,c2,c3,c4,c5,c6,_,_⟩ := hseg.blk.cells
 unfold row at c0 c1 c2 c3 c4 c5 c6
 unfold sv at c6
 dsimp only at c0 c1 c2 c3 c4 c5 c6
 have lz : ∀ y,Below W.heap.size W y → (y.cell? ⟨g,10,none⟩ = some (.bool s.ready) ∧ y.cell? ⟨g,2,none⟩ = some (.int .i64 s.h.term) ∧ y.cell? ⟨g,3,none⟩ = some (.int .i64 s.h.vote) ∧ y.cell? ⟨g,4,none⟩ = some (.int .i64 s.h.base) ∧ y.cell? ⟨g,5,none⟩ = some (.int .i64 s.h.bt) ∧ y.cell? ⟨g,6,none⟩ = some (.int .i64 s.h.mem) ∧ y.cell? ⟨g,7,none⟩ = some (.string s.h.snap) ∧ y.cell? ⟨g,8,none⟩ = some (.slice vo vn vc) ∧ y.cell? ⟨w.heap.size,0,none⟩ = some (.int .i64 r'.term) ∧ y.cell? ⟨w.heap.size,1,none⟩ = some (.int .i64 r'.vote) ∧ y.cell? ⟨w.heap.size,2,none⟩ = some (.int .i64 r'.base) ∧ y.cell? ⟨w.heap.size,3,none⟩ = some (.int .i64 r'.bt) ∧ y.cell? ⟨w.heap.size,4,none⟩ = some (.int .i64 r'.mem) ∧ y.cell? ⟨w.heap.size,5,none⟩ = some (.string r'.snap) ∧ y.cell? ⟨w.heap.size,6,none⟩ = some (.slice r'.log.ao r'.log.n r'.log.cap)) ∧ y.cell? ⟨g,1,none⟩ = some (.int .i64 (n : Int)) ∧ y.cell? ⟨g,11,none⟩ = some (.bool f) := fun y k => ⟨⟨((bcell k).1 _ _ (cell_lt rd)).trans rd,((bcell k).1 _ _ (cell_lt c0)).trans c0,((bcell k).1 _ _ (cell_lt c1)).trans c1,((bcell k).1 _ _ (cell_lt c2)).trans c2,((bcell k).1 _ _ (cell_lt c3)).trans c3,((bcell k).1 _ _ (cell_lt c4)).trans c4,((bcell k).1 _ _ (cell_lt c5)).trans c5,((bcell k).1 _ _ (cell_lt c6)).trans c6,((bcell k).1 _ _ (cell_lt a0)).trans a0,((bcell k).1 _ _ (cell_lt a1)).trans a1,((bcell k).1 _ _ (cell_lt a2)).trans a2,((bcell k).1 _ _ (cell_lt a3)).trans a3,((bcell k).1 _ _ (cell_lt a4)).trans a4,((bcell k).1 _ _ (cell_lt a5)).trans a5,((bcell k).1 _ _ (cell_lt a6)).trans a6⟩,((bcell k).1 _ _ (cell_lt k1)).trans k1,((bcell k).1 _ _ (cell_lt k11)).trans k11⟩
 obtain ⟨sm,hsm⟩ : ∃ b,sameH s.h (Hd.h r' l') = b := ⟨_,rfl⟩
 obtain ⟨an,han⟩ : ∃ b,anewB s d n (Hd.h r' l') = b := ⟨_,rfl⟩
 obtain ⟨ea,es,ed,hex⟩ : ∃ a b c,extS s d n (Hd.h r' l') = (a,b,c) := ⟨_,_,_,rfl⟩
 obtain ⟨la,ln,ls,ld,hla⟩ : ∃ a b c e,layS s d n (Hd.h r' l') = (a,b,c,e) := ⟨_,_,_,_,rfl⟩
 have CS : Hid (∀ y,Below W.heap.size W y → Calls Tryz.prog 46 #[Hd.val (row s.h ⟨vo,vn,vc⟩),Hd.val r'] y (fun e w' => e = .returned (.bool sm) ∧ Below y.heap.size y w')) := Lib.hid fun y k => by
  have := wl_same (row s.h ⟨vo,vn,vc⟩) r' s.h.log l' y (hseg.ls.below k) (HL.out.below k)
  rw [h_row,hsm] at this
  exact this
 have CA : Hid (∀ y,Below W.heap.size W y → Calls Tryz.prog 47 #[.pointer (some ⟨g,0,none⟩),Hd.val r'] y (fun e w' => e = .returned (.bool an) ∧ Below W.heap.size W w')) := Lib.hid fun y k => by
  have := wl_anew (HB.out.later k) (by have := HN.out; omega) r' l'
  rw [han] at this
  exact this.mono fun e w' z => ⟨z.1,bchain k z.2⟩
 have hf : HFit r' := ⟨hft.1,hft.2.1,⟨by have : 0 ≤ r'.base := hbase.1; omega,by have : r'.base ≤ 1099511627776 := hbase.2; omega⟩,hft.2.2.1,hft.2.2.2⟩
 have CE : Hid (∀ y,Below W.heap.size W y → Calls Tryz.prog 49 #[.pointer (some ⟨g,0,none⟩),Hd.val r'] y (TwoE R w0 y g p n f (ea,es,ed))) := Lib.hid fun y k => by
  have := wl_extend (HB.out.later k) (by have := HN.out; omega) HFw.out r' l' (HL.out.below k) hd hln hf hbase
  rw [hex] at this
  exact this
 have CL : Hid (∀ y,Below W.heap.size W y → Calls Tryz.prog 50 #[.pointer (some ⟨g,0,none⟩),Hd.val r'] y (AllE R w0 y g p f (la,ln,ls,ld))) := Lib.hid fun y k => by
  have := wl_lay (HB.out.later k) HN.out HFw.out r' l' (HL.out.below k) hd hln hf
  rw [hla] at this
  exact this
 have HX : Hid (saveS n f s d (Hd.h r' l') = (if f = true then (18,f,n,s,d) else if (s.ready && sm) = true then (0,f,n,s,d) else if an = false then (ea,(ea != 0),n,es,ed) else (la,(la != 0),ln,ls,ld))) := Lib.hid (by unfold saveS; rw [if_neg (by rw [hrt]; simp),hsm,han,hex,hla])
 have hnn : ((n : Int) == 99999999999999) = false := beq_eq_false_iff_ne.2 (by have := HN.out; omega)
 unfold Hd.val row at CS
 unfold Hd.val at CA CE CL
 dsimp only at CS
 clear hPr hseg hd hln hhd hbase hft hf hex hla hsm han k0 hlt hrt HC
 go_enter Tryz.func11,Tryz.ntmps11
 go_wp2_with fail
 refine CR.out.mono ?_
 rintro e u ⟨rfl,bu⟩
 have HU := Lib.hid bu
 obtain ⟨SU,n1,f1⟩ := lz u bu
 have lu : ∀ y,Below u.heap.size u y → (y.cell? ⟨g,10,none⟩ = some (.bool s.ready) ∧ y.cell? ⟨g,2,none⟩ = some (.int .i64 s.h.term) ∧ y.cell? ⟨g,3,none⟩ = some (.int .i64 s.h.vote) ∧ y.cell? ⟨g,4,none⟩ = some (.int .i64 s.h.base) ∧ y.cell? ⟨g,5,none⟩ = some (.int .i64 s.h.bt) ∧ y.cell? ⟨g,6,none⟩ = some (.int .i64 s.h.mem) ∧ y.cell? ⟨g,7,none⟩ = some (.string s.h.snap) ∧ y.cell? ⟨g,8,none⟩ = some (.slice vo vn vc) ∧ y.cell? ⟨w.heap.size,0,none⟩ = some (.int .i64 r'.term) ∧ y.cell? ⟨w.heap.size,1,none⟩ = some (.int .i64 r'.vote) ∧ y.cell? ⟨w.heap.size,2,none⟩ = some (.int .i64 r'.base) ∧ y.cell? ⟨w.heap.size,3,none⟩ = some (.int .i64 r'.bt) ∧ y.cell? ⟨w.heap.size,4,none⟩ = some (.int .i64 r'.mem) ∧ y.cell? ⟨w.heap.size,5,none⟩ = some (.string r'.snap) ∧ y.cell? ⟨w.heap.size,6,none⟩ = some (.slice r'.log.ao r'.log.n r'.log.cap)) := fun y k => (lz y (bchain HU.out k)).1
 clear hW CR rd c0 c1 c2 c3 c4 c5 c6 a0 a1 a2 a3 a4 a5 a6 k1 k11 bu
 cases f
 ·
  cases hr : s.ready
  ·
   rw [hr] at SU lu lz
   have HX2 : Hid (saveS n false s d (Hd.h r' l') = (if an = false then (ea,(ea != 0),n,es,ed) else (la,(la != 0),ln,ls,ld))) := Lib.hid (by rw [HX.out,if_neg (by simp),if_neg (by rw [hr]; simp)])
   clear HX CS
   obtain ⟨d0,d1,d2,d3,d4,d5,d6,d7,e0,e1,e2,e3,e4,e5,e6⟩ := SU
   have d0' := cell_regrown d0
   have d1' := cell_regrown d1
   have d2' := cell_regrown d2
   have d3' := cell_regrown d3
   have d4' := cell_regrown d4
   have d5' := cell_regrown d5
   have d6' := cell_regrown d6
   have d7' := cell_regrown d7
   have e0' := cell_regrown e0
   have e1' := cell_regrown e1
   have e2' := cell_regrown e2
   have e3' := cell_regrown e3
   have e4' := cell_regrown e4
   have e5' := cell_regrown e5
   have e6' := cell_regrown e6
   go_wp2_with fail
   refine wp_region_quiet_below (by kernel_rfl) (by kernel_rfl) ?_
   repeat (first | go_big_quiet_step (fail) | quiet_step (fail))
   refine wpQuiet_nil ?_
   intro _ hw'
   obtain ⟨⟨dq,osq⟩,hw''⟩ := hw'
   subst hw''
   have b2 := bchain HU.out (below_regrown u dq osq)
   clear d0 d1 d2 d3 d4 d5 d6 d7 e0 e1 e2 e3 e4 e5 e6 d0' d1' d2' d3' d4' d5' d6' d7' e0' e1' e2' e3' e4' e5' e6'
   generalize grow (redrawn u dq) osq = u2 at *
   have H2 := Lib.hid b2
   obtain ⟨⟨d0,d1,d2,d3,d4,d5,d6,d7,e0,e1,e2,e3,e4,e5,e6⟩,n2,f2⟩ := lz u2 b2
   clear d0 d1 d2 d3 d4 d5 d6 d7 n2 f2 b2 n1 f1
   go_wp2_with fail
   refine (CA.out _ H2.out).mono ?_
   rintro e u3 ⟨rfl,b3⟩
   have H3 := Lib.hid b3
   have CE3 := Lib.hid (CE.out u3 b3)
   have CL3 := Lib.hid (CL.out u3 b3)
   obtain ⟨⟨d0,d1,d2,d3,d4,d5,d6,d7,e0,e1,e2,e3,e4,e5,e6⟩,n3,f3⟩ := lz u3 b3
   clear lz CA CE CL b3 d0 d1 d2 d3 d4 d5 d6 d7 f3
   cases an
   ·
    have HX3 : Hid (saveS n false s d (Hd.h r' l') = (ea,(ea != 0),n,es,ed)) := Lib.hid (by rw [HX2.out,if_pos rfl])
    clear HX2 CL3 n3
    go_wp2_with fail
    refine CE3.out.mono ?_
    rintro e u4 ⟨rfl,h4,q4⟩
    have CT := Lib.hid (tell_both h4 ea)
    have HQ4 := Lib.hid q4
    clear h4 q4 CE3 e0 e1 e2 e3 e4 e5 e6
    go_wp2_with fail
    refine CT.out.mono ?_
    rintro e u5 ⟨rfl,h5,q5⟩
    have H5 := Lib.hid h5
    have HQ5 := Lib.hid q5
    clear h5 q5 CT
    go_wp2_with fail
    go_ret
    have hw3 := (bchain HBW.out H3.out)
    have hs3 := hw3.size
    have hs4 := HQ4.out.size
    have kk : ∀ b,nw R u3 b → nw R w b := fun b z => z.imp id fun z => by omega
    have kk2 : ∀ b,nw (nw R u3) u4 b → nw R w b := fun b z => z.elim (kk b) fun z => .inr (by omega)
    refine ⟨by rw [HX3.out]; rfl,?_,upd_nw (((UpdQ.of hw3).trans (HQ4.out.mono fun b z => .inl z)).trans (HQ5.out.mono kk))⟩
    rw [HX3.out]
    exact H5.out.mono kk2
   ·
    have HX3 : Hid (saveS n false s d (Hd.h r' l') = (la,(la != 0),ln,ls,ld)) := Lib.hid (by rw [HX2.out,if_neg (by simp)])
    clear HX2 CE3
    go_wp2_with fail
    refine CL3.out.mono ?_
    rintro e u4 ⟨rfl,h4,q4⟩
    have CT := Lib.hid (tell_both h4 la)
    have HQ4 := Lib.hid q4
    clear h4 q4 CL3 e0 e1 e2 e3 e4 e5 e6 n3
    go_wp2_with fail
    refine CT.out.mono ?_
    rintro e u5 ⟨rfl,h5,q5⟩
    have H5 := Lib.hid h5
    have HQ5 := Lib.hid q5
    clear h5 q5 CT
    go_wp2_with fail
    go_ret
    have hw3 := (bchain HBW.out H3.out)
    have hs3 := hw3.size
    have hs4 := HQ4.out.size
    have kk : ∀ b,nw R u3 b → nw R w b := fun b z => z.imp id fun z => by omega
    have kk2 : ∀ b,nw (nw R u3) u4 b → nw R w b := fun b z => z.elim (kk b) fun z => .inr (by omega)
    refine ⟨by rw [HX3.out]; rfl,?_,upd_nw (((UpdQ.of hw3).trans (HQ4.out.mono fun b z => .inl z)).trans (HQ5.out.mono kk))⟩
    rw [HX3.out]
    exact H5.out.mono kk2
  ·
   rw [hr] at SU lu lz
   cases sm
   ·
    have HX2 : Hid (saveS n false s d (Hd.h r' l') = (if an = false then (ea,(ea != 0),n,es,ed) else (la,(la != 0),ln,ls,ld))) := Lib.hid (by rw [HX.out,if_neg (by simp),if_neg (by rw [hr]; simp)])
    clear HX
    have cS := fun i os => Calls.regrown_of (CS.out _ (bchain HU.out (below_regrown u i os)))
    obtain ⟨d0,d1,d2,d3,d4,d5,d6,d7,e0,e1,e2,e3,e4,e5,e6⟩ := SU
    have d0' := cell_regrown d0
    have d1' := cell_regrown d1
    have d2' := cell_regrown d2
    have d3' := cell_regrown d3
    have d4' := cell_regrown d4
    have d5' := cell_regrown d5
    have d6' := cell_regrown d6
    have d7' := cell_regrown d7
    have e0' := cell_regrown e0
    have e1' := cell_regrown e1
    have e2' := cell_regrown e2
    have e3' := cell_regrown e3
    have e4' := cell_regrown e4
    have e5' := cell_regrown e5
    have e6' := cell_regrown e6
    go_wp2_with fail
    refine wp_region_quiet_below (by kernel_rfl) (by kernel_rfl) ?_
    repeat (first | go_big_quiet_step (first | (go_at_call 46; exact cS _ _)) | quiet_step (first | (go_at_call 46; exact cS _ _)))
    refine wpQuiet_nil ?_
    intro _ hw'
    obtain ⟨⟨dq,osq⟩,hw''⟩ := hw'
    subst hw''
    have b2 := bchain HU.out (below_regrown u dq osq)
    clear d0 d1 d2 d3 d4 d5 d6 d7 e0 e1 e2 e3 e4 e5 e6 d0' d1' d2' d3' d4' d5' d6' d7' e0' e1' e2' e3' e4' e5' e6'
    generalize grow (redrawn u dq) osq = u2 at *
    have H2 := Lib.hid b2
    obtain ⟨⟨d0,d1,d2,d3,d4,d5,d6,d7,e0,e1,e2,e3,e4,e5,e6⟩,n2,f2⟩ := lz u2 b2
    clear d0 d1 d2 d3 d4 d5 d6 d7 n2 f2 b2 n1 f1
    clear cS CS
    go_wp2_with fail
    refine (CA.out _ H2.out).mono ?_
    rintro e u3 ⟨rfl,b3⟩
    have H3 := Lib.hid b3
    have CE3 := Lib.hid (CE.out u3 b3)
    have CL3 := Lib.hid (CL.out u3 b3)
    obtain ⟨⟨d0,d1,d2,d3,d4,d5,d6,d7,e0,e1,e2,e3,e4,e5,e6⟩,n3,f3⟩ := lz u3 b3
    clear lz CA CE CL b3 d0 d1 d2 d3 d4 d5 d6 d7 f3
    cases an
    ·
     have HX3 : Hid (saveS n false s d (Hd.h r' l') = (ea,(ea != 0),n,es,ed)) := Lib.hid (by rw [HX2.out,if_pos rfl])
     clear HX2 CL3 n3
     go_wp2_with fail
     refine CE3.out.mono ?_
     rintro e u4 ⟨rfl,h4,q4⟩
     have CT := Lib.hid (tell_both h4 ea)
     have HQ4 := Lib.hid q4
     clear h4 q4 CE3 e0 e1 e2 e3 e4 e5 e6
     go_wp2_with fail
     refine CT.out.mono ?_
     rintro e u5 ⟨rfl,h5,q5⟩
     have H5 := Lib.hid h5
     have HQ5 := Lib.hid q5
     clear h5 q5 CT
     go_wp2_with fail
     go_ret
     have hw3 := (bchain HBW.out H3.out)
     have hs3 := hw3.size
     have hs4 := HQ4.out.size
     have kk : ∀ b,nw R u3 b → nw R w b := fun b z => z.imp id fun z => by omega
     have kk2 : ∀ b,nw (nw R u3) u4 b → nw R w b := fun b z => z.elim (kk b) fun z => .inr (by omega)
     refine ⟨by rw [HX3.out]; rfl,?_,upd_nw (((UpdQ.of hw3).trans (HQ4.out.mono fun b z => .inl z)).trans (HQ5.out.mono kk))⟩
     rw [HX3.out]
     exact H5.out.mono kk2
    ·
     have HX3 : Hid (saveS n false s d (Hd.h r' l') = (la,(la != 0),ln,ls,ld)) := Lib.hid (by rw [HX2.out,if_neg (by simp)])
     clear HX2 CE3
     go_wp2_with fail
     refine CL3.out.mono ?_
     rintro e u4 ⟨rfl,h4,q4⟩
     have CT := Lib.hid (tell_both h4 la)
     have HQ4 := Lib.hid q4
     clear h4 q4 CL3 e0 e1 e2 e3 e4 e5 e6 n3
     go_wp2_with fail
     refine CT.out.mono ?_
     rintro e u5 ⟨rfl,h5,q5⟩
     have H5 := Lib.hid h5
     have HQ5 := Lib.hid q5
     clear h5 q5 CT
     go_wp2_with fail
     go_ret
     have hw3 := (bchain HBW.out H3.out)
     have hs3 := hw3.size
     have hs4 := HQ4.out.size
     have kk : ∀ b,nw R u3 b → nw R w b := fun b z => z.imp id fun z => by omega
     have kk2 : ∀ b,nw (nw R u3) u4 b → nw R w b := fun b z => z.elim (kk b) fun z => .inr (by omega)
     refine ⟨by rw [HX3.out]; rfl,?_,upd_nw (((UpdQ.of hw3).trans (HQ4.out.mono fun b z => .inl z)).trans (HQ5.out.mono kk))⟩
     rw [HX3.out]
     exact H5.out.mono kk2
   ·
    have HX2 : Hid (saveS n false s d (Hd.h r' l') = (0,false,n,s,d)) := Lib.hid (by rw [HX.out,if_neg (by simp),if_pos (by rw [hr]; rfl)])
    clear HX CA CE CL
    have cS := fun i os => Calls.regrown_of (CS.out _ (bchain HU.out (below_regrown u i os)))
    obtain ⟨d0,d1,d2,d3,d4,d5,d6,d7,e0,e1,e2,e3,e4,e5,e6⟩ := SU
    have d0' := cell_regrown d0
    have d1' := cell_regrown d1
    have d2' := cell_regrown d2
    have d3' := cell_regrown d3
    have d4' := cell_regrown d4
    have d5' := cell_regrown d5
    have d6' := cell_regrown d6
    have d7' := cell_regrown d7
    have e0' := cell_regrown e0
    have e1' := cell_regrown e1
    have e2' := cell_regrown e2
    have e3' := cell_regrown e3
    have e4' := cell_regrown e4
    have e5' := cell_regrown e5
    have e6' := cell_regrown e6
    go_wp2_with fail
    refine wp_region_quiet_below (by kernel_rfl) (by kernel_rfl) ?_
    repeat (first | go_big_quiet_step (first | (go_at_call 46; exact cS _ _)) | quiet_step (first | (go_at_call 46; exact cS _ _)))
    refine wpQuiet_nil ?_
    intro _ hw'
    obtain ⟨⟨dq,osq⟩,hw''⟩ := hw'
    subst hw''
    have b2 := bchain HU.out (below_regrown u dq osq)
    clear d0 d1 d2 d3 d4 d5 d6 d7 e0 e1 e2 e3 e4 e5 e6 d0' d1' d2' d3' d4' d5' d6' d7' e0' e1' e2' e3' e4' e5' e6'
    generalize grow (redrawn u dq) osq = u2 at *
    have H2 := Lib.hid b2
    obtain ⟨⟨d0,d1,d2,d3,d4,d5,d6,d7,e0,e1,e2,e3,e4,e5,e6⟩,n2,f2⟩ := lz u2 b2
    clear d0 d1 d2 d3 d4 d5 d6 d7 n2 f2 b2 n1 f1
    clear cS CS
    go_wp2_with fail
    go_ret
    refine ⟨by rw [HX2.out]; rfl,?_,UpdQ.of (bchain HBW.out H2.out)⟩
    rw [HX2.out]
    exact (HB.out.later H2.out).mono fun b z => .inl z
 ·
  have HX2 : Hid (saveS n true s d (Hd.h r' l') = (18,true,n,s,d)) := Lib.hid (by rw [HX.out,if_pos rfl])
  clear HX CS CA CE CL lz lu
  go_wp2_with fail
  go_ret
  refine ⟨by rw [HX2.out]; rfl,?_,UpdQ.of (bchain HBW.out HU.out)⟩
  rw [HX2.out]
  exact (HB.out.later HU.out).mono fun b z => .inl z
end Go.Proofs.YtlmjeackfepllaaGreatDoor.Wl
