import Derived.Lib.QuietBelow
import Derived.Test.YtegniklofhopeaaZDp1
import Derived.Test.YtegniklofhopeaaZDp2
set_option maxRecDepth 100000
set_option linter.unusedVariables false
namespace Go.Proofs.Ytegniklofhopeaa
open Go.RowKit
open Mem Dk
theorem Dk.tear_name (f : F) (p : Nat) : (tear f p).name = f.name := rfl
theorem Dk.tear_kept (f : F) (p : Nat) : (tear f p).kept = (tear f p).bs.length := rfl
theorem Dk.tear_le (f : F) (p : Nat) : (tear f p).bs.length ≤ f.bs.length := by
 unfold tear
 simp only
 split
 ·
  unfold Dk.flip
  rw [List.length_set,List.length_take]
  exact Nat.min_le_right _ _
 ·
  rw [List.length_take]
  exact Nat.min_le_right _ _
theorem Dk.tear_ok {d : D} (h : Ok d) {k : Nat} (hk : k < d.fs.length) (p : Nat) : Ok ⟨d.fs.set k (tear d.fs[k] p),d.off,d.left⟩ := by
 have hm : ∀ f ∈ d.fs.set k (tear d.fs[k] p),f = tear d.fs[k] p ∨ f ∈ d.fs := fun f hf => (List.mem_or_eq_of_mem_set hf).symm
 have h1 := total_set hk (tear d.fs[k] p)
 have h2 := tear_le d.fs[k] p
 have h3 := h.room
 refine ⟨set_sorted h.sorted hk rfl,fun f hf => ?_,by show total (d.fs.set k (tear d.fs[k] p)) ≤ _; omega,fun f hf => ?_,h.left⟩
 ·
  rcases hm f hf with rfl | hf
  · exact Nat.le_of_eq (tear_kept _ _)
  · exact h.kept f hf
 ·
  rcases hm f hf with rfl | hf
  ·
   show d.fs[k].name.size ≤ 24
   exact h.names _ (List.getElem_mem hk)
  · exact h.names f hf
def Dk.upto (zs : List Int) (k : Nat) (fs : List F) : List F := fs.mapIdx fun i f => if i < k then tear f (pick zs i) else f
theorem Dk.upto_zero (zs : List Int) (fs : List F) : upto zs 0 fs = fs := by
 apply List.ext_getElem?
 intro i
 unfold upto
 rw [List.getElem?_mapIdx]
 cases fs[i]? <;> simp
theorem Dk.upto_all (zs : List Int) (fs : List F) : upto zs fs.length fs = fs.mapIdx fun i f => tear f (pick zs i) := by
 apply List.ext_getElem?
 intro i
 unfold upto
 rw [List.getElem?_mapIdx,List.getElem?_mapIdx]
 by_cases h : i < fs.length
 · simp only [if_pos h]
 ·
  rw [List.getElem?_eq_none (Nat.le_of_not_lt h)]
  rfl
theorem Dk.upto_len (zs : List Int) (k : Nat) (fs : List F) : (upto zs k fs).length = fs.length := by
 unfold upto
 rw [List.length_mapIdx]
theorem Dk.upto_next (zs : List Int) (fs : List F) {k : Nat} (hk : k < (upto zs k fs).length) : (upto zs k fs).set k (tear (upto zs k fs)[k] (pick zs k)) = upto zs (k + 1) fs := by
 have hf : k < fs.length := by rw [← upto_len zs k fs]; exact hk
 have e0 : (upto zs k fs)[k]? = some fs[k] := by
  unfold upto
  rw [List.getElem?_mapIdx,List.getElem?_eq_getElem hf]
  simp
 have e : (upto zs k fs)[k] = fs[k] := (List.getElem?_eq_some_iff.1 e0).2
 rw [e]
 apply List.ext_getElem?
 intro i
 rw [List.getElem?_set,upto_len]
 by_cases h : k = i
 ·
  subst h
  rw [if_pos rfl,if_pos hf]
  unfold upto
  rw [List.getElem?_mapIdx,List.getElem?_eq_getElem hf]
  simp
 ·
  rw [if_neg h]
  unfold upto
  rw [List.getElem?_mapIdx,List.getElem?_mapIdx]
  have : (i < k + 1) = (i < k) := by rw [eq_iff_iff]; omega
  simp only [this]
section
variable {P : Nat → Prop} {w u : World} {p : Nat} {d : D} {v : Sl} {L : Int} {rs : List Fl.T}
theorem Dk.At.stay (h : At P w p d v L rs) {k : Nat} (hk : k < rs.length) {r' : Fl.T} {f' : F} (rows : Fl.Own u 0 (sl v) (rs.set k r')) (one : One u r' f') (hu : UpdQ (fun b => (sl v).ownBlock = some b ∨ (sl rs[k].bytes).ownBlock = some b) w u)
  (hb : (sl r'.bytes).ownBlock = (sl rs[k].bytes).ownBlock) (ok : Ok ⟨d.fs.set k f',d.off,d.left⟩) : At P u p ⟨d.fs.set k f',d.off,d.left⟩ v L (rs.set k r') := by
 have h1 := Dk.At.row h hk rows one hu (.inl hb) ok
 have hpb : ∀ r ∈ rs.set k r',Pb P p (sl v) r := fun r hr => by
  rcases List.mem_or_eq_of_mem_set hr with hr | rfl
  · exact h.pbs r hr
  · exact fun b e => h.pb k hk b (hb ▸ e)
 exact ⟨h1.box,h1.arm,h1.rows,h1.each,h.pp,h.pv,fun i hi b e => hpb _ (List.getElem_mem hi) b e,h1.ap,h1.ok,h1.few⟩
theorem Ints.keep {Q : Nat → Prop} {w u : World} {ao : Option Addr} {n cap : Nat} {zs : List Int} (h : Ints w ao n cap zs) (k : UpdQ Q w u) (hQ : zs ≠ [] → ∀ ad,ao = some ad → ¬ Q ad.block) : Ints u ao n cap zs := by
 refine ⟨h.len,h.fits,h.reach,?_,h.wf⟩
 rcases h.seg with e | ⟨b,off,e,hc⟩
 · exact .inl e
 ·
  refine .inr ⟨b,off,e,fun i hi => ?_⟩
  have h1 := hc i hi
  have h2 := k.block b (cell_lt h1) (hQ (List.ne_nil_of_length_pos (by omega)) _ e)
  rw [← h1]
  unfold World.cell?
  simp only
  rw [h2]
theorem Dk.torn_row (h : At P w p d v L rs) {k : Nat} (hk : k < rs.length) (pk : Nat) (hp : pk ≤ 9223372036854775807) :
  ∃ g,w.cell? ⟨p,0,none⟩ = some (.slice (some ⟨g,0,none⟩) v.n v.cap) ∧ Calls Try.prog 41 #[.pointer (some ⟨g,k * 3,none⟩),.int .i64 (pk : Int)] w fun e w' => e = .returned (.tuple #[]) ∧ (∃ rs',At P w' p ⟨d.fs.set k (tear (d.fs[k]'(h.each.len ▸ hk)) pk),d.off,d.left⟩ v L rs') ∧ UpdQ P w w' := by
 have hn := h.n
 have hkf : k < d.fs.length := h.each.len ▸ hk
 obtain ⟨g,hv,hg⟩ := Dk.At.spot h (by omega)
 have hc := h.box.cells.1
 rw [hv] at hc
 have hone : One w rs[k] d.fs[k] := ⟨h.each.name k hk,h.each.kept k hk,h.each.own k hk⟩
 have hb1 := h.ok.kept _ (List.getElem_mem hkf)
 have hb2 := total_mem (List.getElem_mem hkf)
 have hb3 := h.ok.room
 refine ⟨g,hc,(fl_tear w g v.n v.cap rs k (sl_eq hv ▸ h.rows) hk d.fs[k] hone hb1 (by omega) (fun b e z => (h.pb k hk b e).2.2 (by rw [z]; exact hg)) pk hp).mono ?_⟩
 rintro e w' ⟨rfl,r',a1,a2,a3,a4⟩
 refine ⟨rfl,⟨rs.set k r',Dk.At.stay h hk (sl_eq hv ▸ a1) a2 (a4.mono fun b z => z.imp (fun z => by rw [z]; exact hg) id) a3 (tear_ok h.ok hkf pk)⟩,a4.mono fun b z => z.elim (fun z => by rw [z]; exact (h.pv g hg).1) fun z => (h.pb k hk b z).1⟩
def Dk.CrashE (P : Nat → Prop) (w : World) (p : Nat) (d : D) (zs : List Int) (e : Ending) (w' : World) : Prop := e = .returned (.tuple #[]) ∧ Dsk P w' p (crashD d zs) ∧ UpdQ P w w'
set_option maxHeartbeats 4000000 in
theorem dk_crash (h : At P w p d v L rs) (ao : Option Addr) (n cap : Nat) (zs : List Int) (hI : Ints w ao n cap zs) (hap : zs ≠ [] → ∀ ad,ao = some ad → ¬ P ad.block) :
  Calls Try.prog 15 #[.pointer (some ⟨p,0,none⟩),.slice ao n cap] w (CrashE P w p d zs) := by
 have hn := h.n
 have few := h.few
 have HI := Lib.hid hI
 have hcap := hI.reach
 have hfit := hI.fits
 have HLen := Lib.hid hI.len
 obtain ⟨c0,c1,c2,c3⟩ := h.box.cells
 have f1 := h.box.frozen 1
 have h1 := h.setOff false
 have k1 : UpdQ P w (w.setCell ⟨p,1,none⟩ (.bool false)) := UpdQ.set (Q := P) w h.pp _ _
 obtain ⟨W1,hW1⟩ : ∃ W1,w.setCell ⟨p,1,none⟩ (.bool false) = W1 := ⟨_,rfl⟩
 rw [hW1] at h1 k1
 have HAr := Lib.hid (dk_arm (-1) ⟨by omega,by omega⟩ h1)
 have HK1 := Lib.hid k1
 have HP := Lib.hid h.pp
 have HN : Hid (v.n = d.fs.length) := Lib.hid hn.1
 obtain ⟨N,hN⟩ : ∃ N,v.n = N := ⟨_,rfl⟩
 have hNm : N ≤ 1000 := by omega
 have HNe := Lib.hid hN
 clear h h1 k1 hI hn
 go_enter Try.func15,Try.ntmps15
 go_wp2_with (go_at_call 26; refine HAr.out.mono ?_)
 rintro e W2 ⟨rfl,h2,q2⟩
 have h2' : At P W2 p ⟨d.fs,false,-1⟩ v (-1) rs := h2
 have HK2 := Lib.hid (HK1.out.trans (q2.mono (R := P) fun b z => z ▸ HP.out))
 have HS2 := Lib.hid h2'
 obtain ⟨d0,d1,d2,d3⟩ := h2'.box.cells
 rw [hN] at d0
 clear h2 h2' q2 HAr hW1 c0 c1 c2 c3 f1 HK1 hN
 go_wp2_with fail
 go_loopw [4,5,16] (fun _ _ i wr => ∃ k : Nat,k ≤ N ∧ i = .int .i64 k ∧ Hid (∃ rs',At P wr p ⟨upto zs k d.fs,false,-1⟩ v (-1) rs') ∧ Hid (UpdQ P w wr)) (fun _ _ i _ => N - (intOf i).toNat)
 case atStart => exact ⟨0,by omega,rfl,Lib.hid ⟨rs,by rw [upto_zero]; exact HS2.out⟩,HK2⟩
 case round =>
  rename World => wz
  obtain ⟨k,hk,rfl,HS,HK⟩ := hrel
  by_cases hlt : k < N
  ·
   obtain ⟨rs',h3⟩ := HS.out
   have hkr : k < rs'.length := by
    have h4 := h3.n
    have h5 := HNe.out
    omega
   have hku : k < (upto zs k d.fs).length := h3.each.len ▸ hkr
   have HNx := Lib.hid (upto_next zs d.fs hku)
   have hpf : pick zs k ≤ 9223372036854775807 := by
    unfold pick
    by_cases hz : k < zs.length
    ·
     have := HI.out.wf _ (List.getElem_mem hz)
     rw [List.getElem?_eq_getElem hz]
     show zs[k].toNat ≤ _
     unfold Fit at this
     omega
    ·
     rw [List.getElem?_eq_none (Nat.le_of_not_lt hz)]
     decide
   obtain ⟨g,e0,hT⟩ := torn_row h3 hkr (pick zs k) hpf
   rw [HNe.out] at e0
   have HT : Hid (Calls Try.prog 41 #[.pointer (some ⟨g,k * 3,none⟩),.int .i64 ((pick zs k : Nat) : Int)] wz fun e w' => e = .returned (.tuple #[]) ∧ Hid (∃ rs',At P w' p ⟨upto zs (k + 1) d.fs,false,-1⟩ v (-1) rs') ∧ Hid (UpdQ P w w')) := Lib.hid (hT.mono fun e w' z => ⟨z.1,Lib.hid (HNx.out ▸ z.2.1),Lib.hid (HK.out.trans z.2.2)⟩)
   by_cases hz : k < n
   ·
    obtain ⟨b,off,z,hao,hc,hfz⟩ := (HI.out.keep HK.out hap).at k hz
    have hpk : max z 0 = ((pick zs k : Nat) : Int) := by
     unfold pick
     have hz' : k < zs.length := HLen.out ▸ hz
     have e1 : zs[k] = z := by
      rcases (HI.out.keep HK.out hap).seg with e | ⟨b',off',e',hc'⟩
      ·
       rw [e] at hz'
       simp at hz'
      ·
       rw [hao] at e'
       cases e'
       have := hc' k hz'
       rw [hc] at this
       cases this
       rfl
     rw [List.getElem?_eq_getElem hz',e1]
     show max z 0 = ((z.toNat : Nat) : Int)
     omega
    subst hao
    generalize pick zs k = pk at hpk HT hpf
    clear h3 hT HNx hkr hku hfz
    go_wp2_with (go_at_call 41; refine HT.out.mono ?_; rintro e W3 ⟨rfl,HS3,HK3⟩)
    go_roundw
    case rel => exact ⟨k + 1,by omega,by go_num,HS3,HK3⟩
    case measure => simp [intOf]; omega
   ·
    have hpk : pick zs k = 0 := by
     unfold pick
     rw [List.getElem?_eq_none (by have := HLen.out; omega)]
     rfl
    rw [hpk] at HT
    clear h3 hT HNx hkr hku hpk hpf
    go_wp2_with (go_at_call 41; refine HT.out.mono ?_; rintro e W3 ⟨rfl,HS3,HK3⟩)
    go_roundw
    case rel => exact ⟨k + 1,by omega,by go_num,HS3,HK3⟩
    case measure => simp [intOf]; omega
  ·
   obtain rfl : k = N := by omega
   have HE : Hid (CrashE P w p d zs (.returned (.tuple #[])) wz) := Lib.hid (by
    obtain ⟨rs',h3⟩ := HS.out
    rw [show k = d.fs.length from HNe.out.symm.trans HN.out,upto_all] at h3
    exact ⟨rfl,⟨v,-1,rs',h3⟩,HK.out⟩)
   go_wp2_with fail
   go_end0
   exact HE.out
end
end Go.Proofs.Ytegniklofhopeaa
namespace Go.Proofs.Ytegniklofhopeaa.By
open Go.RowKit
open Mem
theorem take_snoc {xs ys : List UInt8} {k : Nat} (h : xs.take k = ys.take k) (ha : k < xs.length) (hb : k < ys.length) (e : xs[k] = ys[k]) : xs.take (k + 1) = ys.take (k + 1) := by
 rw [List.take_succ_eq_append_getElem ha,List.take_succ_eq_append_getElem hb,h,e]
set_option maxHeartbeats 1000000 in
theorem same_any (xs ys : List UInt8) (ao bo : Option Addr) (n m ca cb : Nat) (w : World) (hA : Ls w ao n ca xs) (hB : Ls w bo m cb ys) :
  Calls Try.prog 17 #[.slice ao n ca,.slice bo m cb] w fun e w' => e = .returned (.bool (decide (xs = ys))) ∧ Below w.heap.size w w' := by
 have HA := Lib.hid hA
 have HB := Lib.hid hB
 have HN := Lib.hid hA.len
 have HM := Lib.hid hB.len
 have hca := hA.reach
 have hfa := hA.fits
 have hcb := hB.reach
 have hfb := hB.fits
 clear hA hB
 by_cases hnm : n = m
 ·
  subst hnm
  have hne : ((n : Int) != (n : Int)) = false := bne_self_eq_false _
  go_enter Try.func17,Try.ntmps17
  go_wp2
  go_loopw [5] (fun i wr => ∃ k : Nat,k ≤ n ∧ i = .int .i64 k ∧ Hid (xs.take k = ys.take k) ∧ Hid (Below w.heap.size w wr)) (fun i _ => n - (intOf i).toNat)
  case atStart => exact ⟨0,Nat.zero_le _,rfl,Lib.hid rfl,Lib.hid (Below.refl _ _)⟩
  case round =>
   obtain ⟨k,hk,rfl,HT,HBz⟩ := hrel
   by_cases hlt : k < n
   ·
    obtain ⟨a,oa,rfl⟩ := HA.out.at (by omega)
    obtain ⟨b,ob,rfl⟩ := HB.out.at (by omega)
    have hka : k < xs.length := HN.out ▸ hlt
    have hkb : k < ys.length := HM.out ▸ hlt
    have c1 := HA.out.row k hka
    have c2 := HB.out.row k hkb
    rw [← (bcell HBz.out).1 _ _ (cell_lt c1)] at c1
    rw [← (bcell HBz.out).1 _ _ (cell_lt c2)] at c2
    unfold bv at c1 c2
    have hlt' : (k : Int) < (n : Int) := by omega
    by_cases hxy : xs[k] = ys[k]
    ·
     have HT' : Hid (xs.take (k + 1) = ys.take (k + 1)) := Lib.hid (take_snoc HT.out hka hkb hxy)
     have hne : ((xs[k].toNat : Int) != (ys[k].toNat : Int)) = false := by rw [hxy]; simp
     clear hxy
     generalize xs[k] = x at *
     generalize ys[k] = y at *
     go_wp2
     go_quiet (fail)
     go_wp2
     go_roundw
     case rel => exact ⟨k + 1,by omega,by go_num,HT',Lib.hid (below_drewN HBz.out _)⟩
     case measure => simp [intOf]; omega
    ·
     have hne : ((xs[k].toNat : Int) != (ys[k].toNat : Int)) = true := by
      rw [bne_iff_ne]
      intro h
      exact hxy (UInt8.toNat_inj.1 (by omega))
     have HF : Hid (decide (xs = ys) = false) := Lib.hid (by
      rw [decide_eq_false_iff_not]
      intro h
      subst h
      exact hxy rfl)
     clear hxy
     generalize xs[k] = x at *
     generalize ys[k] = y at *
     go_wp2
     go_quiet (fail)
     go_wp2
     go_ret
     exact ⟨by rw [HF.out]; rfl,below_drewN HBz.out _⟩
   ·
    have HF : Hid (decide (xs = ys) = true) := Lib.hid (by
     rw [decide_eq_true_iff]
     have h1 := HT.out
     have h2 := HN.out
     have h3 := HM.out
     rwa [List.take_of_length_le (by omega),List.take_of_length_le (by omega)] at h1)
    go_wp2
    go_ret
    exact ⟨by rw [HF.out]; rfl,HBz.out⟩
 ·
  have HF : Hid (decide (xs = ys) = false) := Lib.hid (by
   rw [decide_eq_false_iff_not]
   intro h
   subst h
   exact hnm (HN.out.trans HM.out.symm))
  have hne : ((n : Int) != (m : Int)) = true := bne_iff_ne.2 (by omega)
  go_enter Try.func17,Try.ntmps17
  go_wp2
  go_ret
  exact ⟨by rw [HF.out]; rfl,Below.refl _ _⟩
end Go.Proofs.Ytegniklofhopeaa.By
namespace Go.Proofs.Ytegniklofhopeaa
open Go.RowKit
open Mem Dk
structure Dk.S (P : Nat → Prop) (w0 W : World) (p : Nat) (d : D) : Prop where
 dsk : Dsk P W p d
 sub : ∀ b,P b → w0.heap.size ≤ b
 bel : Below w0.heap.size w0 W
section
variable {P : Nat → Prop} {w0 w u : World} {p : Nat} {d : D}
theorem Dk.S.later (h : S P w0 w p d) (k : Below w.heap.size w u) : S P w0 u p d := ⟨h.dsk.below k,h.sub,bchain h.bel k⟩
theorem Dk.S.tight (h : S P w0 w p d) : S (fun b => P b ∧ b < w.heap.size) w0 w p d := ⟨h.dsk.lt,fun b z => h.sub b z.1,h.bel⟩
theorem Dk.S.free (h : S P w0 w p d) : S (fun b => w0.heap.size ≤ b) w0 w p d := ⟨h.dsk.mono h.sub,fun b z => z,h.bel⟩
theorem Dk.S.op {x : Int × D} {e : Ending} {w' : World} (h : S P w0 w p d) (k : OpE P w p x e w') : e = .returned (.int .i64 x.1) ∧ S (nw P w) w0 w' p x.2 ∧ UpdQ P w w' :=
 ⟨k.1,⟨k.2.1,fun b z => z.elim (h.sub b) fun z => Nat.le_trans h.bel.size z,k.2.2.below w0 h.bel h.sub⟩,k.2.2⟩
theorem s_new (w : World) : Calls Try.prog 6 #[] w fun e w' => ∃ p,e = .returned (.pointer (some ⟨p,0,none⟩)) ∧ S (fun b => w.heap.size ≤ b) w w' p Dk.new := by
 refine (dk_new w w (Below.refl _ _)).mono ?_
 rintro e w' ⟨p,rfl,h,b⟩
 exact ⟨p,rfl,h,fun b z => z,b⟩
theorem s_append (h : S P w0 w p d) (s : ByteArray) (hs : s.size ≤ 9223372036854775807) (ao : Option Addr) (n cap : Nat) (zs : List UInt8) (hL : By.Ls w ao n cap zs) (hap : zs ≠ [] → ∀ ad,ao = some ad → ¬ P ad.block) (few : d.fs.length < 1000) :
  Calls Try.prog 11 #[.pointer (some ⟨p,0,none⟩),.string s,.slice ao n cap] w fun e w' => e = .returned (.int .i64 (appD d s zs).1) ∧ S (nw P w) w0 w' p (appD d s zs).2 ∧ UpdQ P w w' := by
 obtain ⟨v,L,rs,k⟩ := h.dsk
 refine (dk_append k s hs ao n cap zs hL hap few).mono ?_
 exact fun e w' z => h.op z
theorem s_append_new (h : S P w0 w p d) (s : ByteArray) (hs : s.size ≤ 9223372036854775807) (zs : List UInt8) (n : Nat) (hn : n = zs.length) (hm : n ≤ 1000) (few : d.fs.length < 1000) (cs : Array Value) (hcs : cs = (zs.map By.bv).toArray) :
  Calls Try.prog 11 #[.pointer (some ⟨p,0,none⟩),.string s,.slice (some ⟨w.heap.size,0,none⟩) n n] (w.alloc (.cells cs 5)) fun e w' => e = .returned (.int .i64 (appD d s zs).1) ∧ S (fun b => w0.heap.size ≤ b) w0 w' p (appD d s zs).2 := by
 subst hn hcs
 have k : Below w.heap.size w (w.alloc (.cells (zs.map By.bv).toArray 5)) := (Below.refl _ _).alloc (Nat.le_refl _) _
 have hb : By.Block (w.alloc (.cells (zs.map By.bv).toArray 5)) w.heap.size zs := heap_alloc_new w _
 refine (s_append (h.tight.later k) s hs _ _ _ zs (hb.ls (by omega)) (fun _ ad e z => ?_) few).mono ?_
 ·
  cases e
  exact Nat.lt_irrefl _ z.2
 ·
  rintro e w' ⟨rfl,h2,_⟩
  exact ⟨rfl,h2.free⟩
theorem s_sync (h : S P w0 w p d) (s : ByteArray) : Calls Try.prog 12 #[.pointer (some ⟨p,0,none⟩),.string s] w fun e w' => e = .returned (.int .i64 (syncD d s).1) ∧ S (nw P w) w0 w' p (syncD d s).2 ∧ UpdQ P w w' := by
 obtain ⟨v,L,rs,k⟩ := h.dsk
 exact (dk_sync k s).mono fun e w' z => h.op z
theorem s_cut (h : S P w0 w p d) (s : ByteArray) (n : Int) (hn : Fit n) : Calls Try.prog 22 #[.pointer (some ⟨p,0,none⟩),.string s,.int .i64 n] w fun e w' => e = .returned (.int .i64 (cutD d s n).1) ∧ S (nw P w) w0 w' p (cutD d s n).2 ∧ UpdQ P w w' := by
 obtain ⟨v,L,rs,k⟩ := h.dsk
 exact (dk_cut k s n hn).mono fun e w' z => h.op z
theorem s_rename (h : S P w0 w p d) (s t : ByteArray) (ht : t.size ≤ 9223372036854775807) : Calls Try.prog 13 #[.pointer (some ⟨p,0,none⟩),.string s,.string t] w fun e w' => e = .returned (.int .i64 (renD d s t).1) ∧ S (nw P w) w0 w' p (renD d s t).2 ∧ UpdQ P w w' := by
 obtain ⟨v,L,rs,k⟩ := h.dsk
 exact (dk_rename k s t ht).mono fun e w' z => h.op z
theorem s_remove (h : S P w0 w p d) (s : ByteArray) : Calls Try.prog 14 #[.pointer (some ⟨p,0,none⟩),.string s] w fun e w' => e = .returned (.int .i64 (remD d s).1) ∧ S (nw P w) w0 w' p (remD d s).2 ∧ UpdQ P w w' := by
 obtain ⟨v,L,rs,k⟩ := h.dsk
 exact (dk_remove k s).mono fun e w' z => h.op z
theorem s_arm (h : S P w0 w p d) (n : Int) (hn : Fit n) : Calls Try.prog 26 #[.pointer (some ⟨p,0,none⟩),.int .i64 n] w fun e w' => e = .returned (.tuple #[]) ∧ S P w0 w' p (armD d n) ∧ UpdQ P w w' := by
 obtain ⟨v,L,rs,k⟩ := h.dsk
 refine (dk_arm n hn k).mono ?_
 rintro e w' ⟨rfl,h1,q⟩
 have q' : UpdQ P w w' := q.mono fun b z => z ▸ k.pp
 exact ⟨rfl,⟨⟨v,n,rs,h1⟩,h.sub,q'.below w0 h.bel h.sub⟩,q'⟩
theorem s_off (h : S P w0 w p d) : Calls Try.prog 32 #[.pointer (some ⟨p,0,none⟩)] w fun e w' => e = .returned (.bool d.off) ∧ w' = w := by
 obtain ⟨v,L,rs,k⟩ := h.dsk
 exact dk_off' k
theorem s_read (h : S P w0 w p d) (s : ByteArray) : Calls Try.prog 16 #[.pointer (some ⟨p,0,none⟩),.string s] w (ReadE w d s) := by
 obtain ⟨v,L,rs,k⟩ := h.dsk
 exact dk_read k s
theorem s_crash (h : S P w0 w p d) (ao : Option Addr) (n cap : Nat) (zs : List Int) (hI : Ints w ao n cap zs) (hap : zs ≠ [] → ∀ ad,ao = some ad → ¬ P ad.block) :
  Calls Try.prog 15 #[.pointer (some ⟨p,0,none⟩),.slice ao n cap] w fun e w' => e = .returned (.tuple #[]) ∧ S P w0 w' p (crashD d zs) ∧ UpdQ P w w' := by
 obtain ⟨v,L,rs,k⟩ := h.dsk
 refine (dk_crash k ao n cap zs hI hap).mono ?_
 rintro e w' ⟨rfl,h1,q⟩
 exact ⟨rfl,⟨h1,h.sub,q.below w0 h.bel h.sub⟩,q⟩
end
section
variable (s : ByteArray) (b : List UInt8) (k : Nat) (o : Bool) (l : Int)
theorem Dk.one_has : has s [⟨s,b,k⟩] = true := by simp [has]
theorem Dk.one_spot : Dk.spot s [⟨s,b,k⟩] = 0 := by simp [Dk.spot,lt_irrefl]
theorem Dk.one_own : own s [⟨s,b,k⟩] = ⟨s,b,k⟩ := by
 unfold own
 rw [if_pos (one_has s b k),one_spot]
 rfl
theorem Dk.one_put (c : List UInt8) (m : Nat) : put ⟨s,c,m⟩ [⟨s,b,k⟩] = [⟨s,c,m⟩] := by
 unfold put
 rw [if_pos (one_has s b k),one_spot]
 rfl
theorem Dk.none_own : own s [] = ⟨s,[],0⟩ := rfl
end
def Dk.na : ByteArray := ⟨#[97]⟩
def Dk.tornD (pk : Nat) : List UInt8 := (tear ⟨na,[1,2,3,4,5],3⟩ pk).bs
theorem Dk.run_a1 (s : ByteArray) (hs : nameOk s = true) (zs : List UInt8) (hz : zs.length ≤ 1000) (l : Int) (hl : l ≠ 0) : appD ⟨[],false,l⟩ s zs = (0,⟨[⟨s,zs,0⟩],false,dec l⟩) := by
 unfold appD
 rw [if_neg Bool.false_ne_true,if_neg (by rw [hs]; exact fun z => by cases z),if_neg (by show ¬ 4194304 < 0 + zs.length; omega),if_neg hl,none_own]
 rfl
theorem Dk.run_a2 (s : ByteArray) (hs : nameOk s = true) (b zs : List UInt8) (k : Nat) (hz : b.length + zs.length ≤ 1000) (l : Int) (hl : l ≠ 0) : appD ⟨[⟨s,b,k⟩],false,l⟩ s zs = (0,⟨[⟨s,b ++ zs,k⟩],false,dec l⟩) := by
 unfold appD
 rw [if_neg Bool.false_ne_true,if_neg (by rw [hs]; exact fun z => by cases z),if_neg (by show ¬ 4194304 < (b.length + 0) + zs.length; omega),if_neg hl]
 simp only [one_own,one_put,with']
theorem Dk.run_s (s : ByteArray) (b : List UInt8) (k : Nat) (l : Int) (hl : l ≠ 0) : syncD ⟨[⟨s,b,k⟩],false,l⟩ s = (0,⟨[⟨s,b,b.length⟩],false,dec l⟩) := by
 unfold syncD
 rw [if_neg Bool.false_ne_true,if_neg (by rw [show has s _ = true from one_has s b k]; exact fun z => by cases z),if_neg hl]
 simp only [one_own,one_put,with']
theorem Dk.na_ok : nameOk na = true := by decide
end Go.Proofs.Ytegniklofhopeaa
namespace Go.Proofs.Ytegniklofhopeaa
open Go.RowKit
open Mem Dk
theorem Dk.ints_one (w : World) (x : Int) (hx : Fit x) : Ints (w.alloc (.cells #[.int .i64 x] 3)) (some ⟨w.heap.size,0,none⟩) 1 1 [x] :=
 ⟨rfl,Nat.le_refl _,by omega,.inr ⟨w.heap.size,0,rfl,fun k hk => by
  obtain rfl : k = 0 := by simpa using hk
  rw [cell_of_row _ _ _ _ _ _ (heap_alloc_new w _)]
  rfl⟩,fun z hz => by rw [List.mem_singleton.1 hz]; exact hx⟩
theorem Dk.run_c (pk : Nat) : crashD ⟨[⟨na,[1,2,3,4,5],3⟩],false,-1⟩ [(pk : Int)] = ⟨[tear ⟨na,[1,2,3,4,5],3⟩ pk],false,-1⟩ := rfl
set_option maxHeartbeats 2000000 in
theorem dk_torn (pk : Nat) (hp : pk ≤ 1000) (w : World) : Calls Try.prog 34 #[.int .i64 (pk : Int)] w fun e w' => ∃ g,e = .returned (.slice (some ⟨g,0,none⟩) (tornD pk).length (tornD pk).length) ∧ By.Block w' g (tornD pk) ∧ Below w.heap.size w w' := by
 have A1 : Hid (appD Dk.new na [1,2,3] = (0,⟨[⟨na,[1,2,3],0⟩],false,-1⟩)) := Lib.hid (run_a1 na na_ok [1,2,3] (by decide) (-1) (by decide))
 have A2 : Hid (syncD ⟨[⟨na,[1,2,3],0⟩],false,-1⟩ na = (0,⟨[⟨na,[1,2,3],3⟩],false,-1⟩)) := Lib.hid (run_s na [1,2,3] 0 (-1) (by decide))
 have A3 : Hid (appD ⟨[⟨na,[1,2,3],3⟩],false,-1⟩ na [4,5] = (0,⟨[⟨na,[1,2,3,4,5],3⟩],false,-1⟩)) := Lib.hid (run_a2 na na_ok [1,2,3] [4,5] 3 (by decide) (-1) (by decide))
 go_enter Try.func34,Try.ntmps34
 go_wp2_with (go_at_call 6; refine (s_new w).mono ?_)
 rintro e W1 ⟨p,rfl,h1⟩
 have C1 := Lib.hid (s_append_new h1 na (by decide) [1,2,3] 3 rfl (by decide) (by decide) _ rfl)
 rw [A1.out] at C1
 clear h1
 go_wp2_with (go_at_call 11; refine C1.out.mono ?_)
 rintro e W2 ⟨rfl,h2⟩
 have C2 := Lib.hid (s_sync h2 na)
 rw [A2.out] at C2
 clear h2 C1
 go_wp2_with (go_at_call 12; refine C2.out.mono ?_)
 rintro e W3 ⟨rfl,h3,-⟩
 have C3 := Lib.hid (s_append_new h3 na (by decide) [4,5] 2 rfl (by decide) (by show (1 : Nat) < 1000; decide) _ rfl)
 rw [A3.out] at C3
 clear h3 C2
 go_wp2_with (go_at_call 11; refine C3.out.mono ?_)
 rintro e W4 ⟨rfl,h4⟩
 have b4 : Below W4.heap.size W4 (W4.alloc (.cells #[.int .i64 (pk : Int)] 3)) := (Below.refl _ _).alloc (Nat.le_refl _) _
 have C4 := Lib.hid (s_crash (h4.tight.later b4) _ _ _ _ (ints_one W4 (pk : Int) ⟨by omega,by omega⟩) (fun _ ad e z => by cases e; exact Nat.lt_irrefl _ z.2))
 rw [run_c] at C4
 clear h4 C3 b4
 go_wp2_with (go_at_call 15; refine C4.out.mono ?_)
 rintro e W5 ⟨rfl,h5,-⟩
 have C5 := Lib.hid (s_read h5 na)
 have HB := Lib.hid h5.bel
 clear h5 C4
 go_wp2_with (go_at_call 16; refine C5.out.mono ?_)
 rintro e W6 ⟨b6,h6⟩
 have ho : Dk.own na [tear ⟨na,[1,2,3,4,5],3⟩ pk] = tear ⟨na,[1,2,3,4,5],3⟩ pk := one_own _ _ _
 have hh : has na [tear ⟨na,[1,2,3,4,5],3⟩ pk] = true := one_has _ _ _
 rcases h6 with ⟨h6,_⟩ | ⟨_,g,rfl,hb,hg⟩
 ·
  rw [show has na _ = true from hh] at h6
  cases h6
 ·
  simp only [ho] at hb ⊢
  have HO : Hid (By.Block W6 g (tornD pk) ∧ Below w.heap.size w W6) := Lib.hid ⟨hb,bchain HB.out b6⟩
  rw [show (tear ⟨na,[1,2,3,4,5],3⟩ pk).bs = tornD pk from rfl]
  clear hb hg b6 ho hh HB C5
  go_wp2_with fail
  go_ret
  exact ⟨g,rfl,HO.out.1,HO.out.2⟩
def Dk.nb : ByteArray := ⟨#[98]⟩
def Dk.nab : ByteArray := ⟨#[97,32,98]⟩
def Dk.nq : ByteArray := ⟨#[113]⟩
theorem Dk.nb_ok : nameOk nb = true := by decide
theorem Dk.nab_no : nameOk nab = false := by decide
theorem Dk.q_no : has nq [⟨na,[1],0⟩] = false := by decide
theorem Dk.b_no : has nb [⟨na,[1],0⟩] = false := by decide
theorem Dk.run_1 : renD ⟨[⟨na,[1],0⟩],false,-1⟩ na nab = (19,⟨[⟨na,[1],0⟩],false,-1⟩) := by
 unfold renD
 rw [if_neg Bool.false_ne_true,if_pos nab_no]
theorem Dk.run_2 : cutD ⟨[⟨na,[1],0⟩],false,-1⟩ na 99 = (1,⟨[⟨na,[1],0⟩],false,-1⟩) := by
 unfold cutD
 rw [if_neg Bool.false_ne_true,if_neg (by rw [show has na _ = true from one_has na [1] 0]; exact fun z => by cases z),if_pos (.inr (by simp only [one_own]; decide))]
theorem Dk.run_3 : syncD ⟨[⟨na,[1],0⟩],false,-1⟩ nq = (11,⟨[⟨na,[1],0⟩],false,-1⟩) := by
 unfold syncD
 rw [if_neg Bool.false_ne_true,if_pos q_no]
theorem Dk.run_4 : appD ⟨[⟨na,[1],0⟩],false,1⟩ nb [1] = (0,⟨put ⟨nb,[1],0⟩ [⟨na,[1],0⟩],false,0⟩) := by
 unfold appD
 rw [if_neg Bool.false_ne_true,if_neg (by rw [nb_ok]; exact fun z => by cases z),if_neg (by decide),if_neg (by decide)]
 simp only [own_no b_no,with',List.nil_append]
 rfl
theorem Dk.run_5 : syncD ⟨put ⟨nb,[1],0⟩ [⟨na,[1],0⟩],false,0⟩ nb = (18,⟨put ⟨nb,[1],0⟩ [⟨na,[1],0⟩],true,0⟩) := by
 unfold syncD
 have h := (put_spot (f := ⟨nb,[1],0⟩) (l := [⟨na,[1],0⟩]) (List.pairwise_singleton _ _)).2.1
 rw [if_neg Bool.false_ne_true,if_neg (by rw [show has nb _ = true from h]; exact fun z => by cases z),if_pos rfl]
 rfl
theorem Dk.run_6 : appD ⟨put ⟨nb,[1],0⟩ [⟨na,[1],0⟩],true,0⟩ nb [2] = (18,⟨put ⟨nb,[1],0⟩ [⟨na,[1],0⟩],true,0⟩) := by
 unfold appD
 rw [if_pos rfl]
theorem Dk.torn_1 : tornD 1 = [1,2,3,4] := by decide
theorem Dk.torn_4 : tornD 4 = [1,2,3,251] := by decide
theorem Dk.torn_5 : tornD 5 = [1,2,3,4,250] := by decide
theorem Dk.same_new (w : World) (g : Nat) (xs ys : List UInt8) (h : By.Block w g xs) (hx : xs.length ≤ 1000) (hy : ys.length ≤ 1000) (n m : Nat) (hn : n = xs.length) (hm : m = ys.length) (cs : Array Value) (hcs : cs = (ys.map By.bv).toArray) :
  Calls Try.prog 17 #[.slice (some ⟨g,0,none⟩) n n,.slice (some ⟨w.heap.size,0,none⟩) m m] (w.alloc (.cells cs 5)) fun e w' => e = .returned (.bool (decide (xs = ys))) ∧ Below w.heap.size w w' := by
 subst hn hm hcs
 have k : Below w.heap.size w (w.alloc (.cells (ys.map By.bv).toArray 5)) := (Below.refl _ _).alloc (Nat.le_refl _) _
 have hb : By.Block (w.alloc (.cells (ys.map By.bv).toArray 5)) w.heap.size ys := heap_alloc_new w _
 refine (By.same_any xs ys _ _ _ _ _ _ _ ((h.below k).ls (by omega)) (hb.ls (by omega))).mono ?_
 rintro e w' ⟨rfl,b⟩
 exact ⟨rfl,bchain k b⟩
set_option maxHeartbeats 4000000 in
theorem diskRuns_walk (w : World) : Calls Try.prog 10 #[] w fun e w' => e = .returned (.bool true) ∧ Below w.heap.size w w' := by
 have T1 : Hid (∀ u,Calls Try.prog 34 #[.int .i64 1] u fun e w' => ∃ g,e = .returned (.slice (some ⟨g,0,none⟩) 4 4) ∧ By.Block w' g [1,2,3,4] ∧ Below u.heap.size u w') := Lib.hid fun u => by
  have := dk_torn 1 (by decide) u
  rw [torn_1] at this
  exact this
 have T4 : Hid (∀ u,Calls Try.prog 34 #[.int .i64 4] u fun e w' => ∃ g,e = .returned (.slice (some ⟨g,0,none⟩) 4 4) ∧ By.Block w' g [1,2,3,251] ∧ Below u.heap.size u w') := Lib.hid fun u => by
  have := dk_torn 4 (by decide) u
  rw [torn_4] at this
  exact this
 have T5 : Hid (∀ u,Calls Try.prog 34 #[.int .i64 5] u fun e w' => ∃ g,e = .returned (.slice (some ⟨g,0,none⟩) 5 5) ∧ By.Block w' g [1,2,3,4,250] ∧ Below u.heap.size u w') := Lib.hid fun u => by
  have := dk_torn 5 (by decide) u
  rw [torn_5] at this
  exact this
 have A1 : Hid (appD Dk.new na [1] = (0,⟨[⟨na,[1],0⟩],false,-1⟩)) := Lib.hid (run_a1 na na_ok [1] (by decide) (-1) (by decide))
 have few : Hid ((put ⟨nb,[1],0⟩ [⟨na,[1],0⟩]).length < 1000) := Lib.hid (by have := put_len ⟨nb,[1],0⟩ [⟨na,[1],0⟩]; simp only [List.length_singleton] at this; omega)
 go_enter Try.func10,Try.ntmps10
 go_wp2_with (go_at_call 6; refine (s_new w).mono ?_)
 rintro e W0 ⟨p,rfl,h0⟩
 have H0 := Lib.hid h0
 clear h0
 go_wp2_with (go_at_call 34; refine (T1.out W0).mono ?_)
 rintro e W1 ⟨g1,rfl,k1,b1⟩
 have C1 := Lib.hid (same_new W1 g1 _ [1,2,3,4] k1 (by decide) (by decide) 4 4 rfl rfl _ rfl)
 have H1 := Lib.hid (H0.out.later b1)
 clear k1 b1 H0
 go_wp2_with (go_at_call 17; refine C1.out.mono ?_)
 rintro e W2 ⟨rfl,b2⟩
 have H2 := Lib.hid (H1.out.later b2)
 clear b2 H1 C1
 go_wp2_with (go_at_call 34; refine (T4.out W2).mono ?_)
 rintro e W3 ⟨g3,rfl,k3,b3⟩
 have C3 := Lib.hid (same_new W3 g3 _ [1,2,3,251] k3 (by decide) (by decide) 4 4 rfl rfl _ rfl)
 have H3 := Lib.hid (H2.out.later b3)
 clear k3 b3 H2
 go_wp2_with (go_at_call 17; refine C3.out.mono ?_)
 rintro e W4 ⟨rfl,b4⟩
 have H4 := Lib.hid (H3.out.later b4)
 clear b4 H3 C3
 go_wp2_with (go_at_call 34; refine (T5.out W4).mono ?_)
 rintro e W5 ⟨g5,rfl,k5,b5⟩
 have C5 := Lib.hid (same_new W5 g5 _ [1,2,3,4,250] k5 (by decide) (by decide) 5 5 rfl rfl _ rfl)
 have H5 := Lib.hid (H4.out.later b5)
 clear k5 b5 H4
 go_wp2_with (go_at_call 17; refine C5.out.mono ?_)
 rintro e W6 ⟨rfl,b6⟩
 have D6 := Lib.hid (s_append_new (H5.out.later b6) na (by decide) [1] 1 rfl (by decide) (by decide) _ rfl)
 rw [A1.out] at D6
 clear b6 H5 C5
 go_wp2_with (go_at_call 11; refine D6.out.mono ?_)
 rintro e W7 ⟨rfl,h7⟩
 have D7 := Lib.hid (s_rename h7 na nab (by decide))
 rw [run_1] at D7
 clear h7 D6
 go_wp2_with (go_at_call 13; refine D7.out.mono ?_)
 rintro e W8 ⟨rfl,h8,-⟩
 have D8 := Lib.hid (s_cut h8 na 99 ⟨by decide,by decide⟩)
 rw [run_2] at D8
 clear h8 D7
 go_wp2_with (go_at_call 22; refine D8.out.mono ?_)
 rintro e W9 ⟨rfl,h9,-⟩
 have D9 := Lib.hid (s_sync h9 nq)
 rw [run_3] at D9
 clear h9 D8
 go_wp2_with (go_at_call 12; refine D9.out.mono ?_)
 rintro e Wa ⟨rfl,ha,-⟩
 have Da := Lib.hid (s_arm ha 1 ⟨by decide,by decide⟩)
 clear ha D9
 go_wp2_with (go_at_call 26; refine Da.out.mono ?_)
 rintro e Wb ⟨rfl,hb,-⟩
 have Db := Lib.hid (s_append_new (d := ⟨[⟨na,[1],0⟩],false,1⟩) hb nb (by decide) [1] 1 rfl (by decide) (by show (1 : Nat) < 1000; decide) _ rfl)
 rw [run_4] at Db
 clear hb Da
 go_wp2_with (go_at_call 11; refine Db.out.mono ?_)
 rintro e Wc ⟨rfl,hc⟩
 have Dc := Lib.hid (s_sync hc nb)
 rw [run_5] at Dc
 clear hc Db
 go_wp2_with (go_at_call 12; refine Dc.out.mono ?_)
 rintro e Wd ⟨rfl,hd,-⟩
 have Dd := Lib.hid (s_off hd)
 have De := Lib.hid (s_append_new hd nb (by decide) [2] 1 rfl (by decide) few.out _ rfl)
 rw [run_6] at De
 clear hd Dc
 go_wp2_with (go_at_call 32; refine Dd.out.mono ?_; rintro e We ⟨rfl,rfl⟩)
 go_wp2_with (go_at_call 11; refine De.out.mono ?_)
 rintro e Wf ⟨rfl,hf⟩
 have HB := Lib.hid hf.bel
 clear hf
 go_wp2_with fail
 go_ret
 exact ⟨rfl,HB.out⟩
end Go.Proofs.Ytegniklofhopeaa
