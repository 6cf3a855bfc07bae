import Derived.Deep.RegionHeld3
import Derived.Test.YtlmjeackfepllaaGreatDoorShelf
import Derived.Lib.ItoaNum
import Derived.Test.YtlmjeackfepllaaGreatDoorZWk1
import Derived.Test.YtlmjeackfepllaaGreatDoorZWk4
import Derived.Test.YtlmjeackfepllaaGreatDoorZWk5
namespace Go.Proofs.YtlmjeackfepllaaGreatDoor
open Go.ChangeShapes Go.WideShapes Go.ChangeAt Go.RowKit
theorem cellsOfI : Tryz.prog.cellsOf 3 = 1 := by kernel_rfl
theorem bytesOfI : Tryz.prog.bytesOf 3 = 8 := by kernel_rfl
structure Ints (w : World) (ao : Option Addr) (n cap : Nat) (zs : List Int) : Prop where
 len : n = zs.length
 fits : n ≤ cap
 reach : cap ≤ 140737488351232
 seg : zs = [] ∨ ∃ b off,ao = some ⟨b,off,none⟩ ∧ ∀ k (hk : k < zs.length),w.cell? ⟨b,off + k,none⟩ = some (.int .i64 zs[k])
 wf : ∀ z ∈ zs,Fit z
theorem Ints.at {w : World} {ao : Option Addr} {n cap : Nat} {zs : List Int} (h : Ints w ao n cap zs) (k : Nat) (hk : k < n) : ∃ b off z,ao = some ⟨b,off,none⟩ ∧ w.cell? ⟨b,off + k,none⟩ = some (.int .i64 z) ∧ Fit z := by
 have hk' : k < zs.length := h.len ▸ hk
 rcases h.seg with e | ⟨b,off,e,hc⟩
 ·
  rw [e] at hk'
  simp at hk'
 · exact ⟨b,off,zs[k],e,hc k hk',h.wf _ (List.getElem_mem hk')⟩
theorem ints_in {H : Type} {enc : TypeId × Value → H} {W : World} {ao : Option Addr} {n cap : Nat} {d : DataW H} {p : List MemPlace} {ts : List TypeId} {ds : List (DataW H)} (j : Nat)
  (hj : DataW.Trod enc Tryz.prog W 0 (fun _ => true) true 46 (.slice ao n cap) d p)
  (hsz : (DataW.weightsEach Tryz.prog ts ds).all (· ≤ reachBytes) = true) (ht : ts[j]? = some 46) (hd : ds[j]? = some d) : ∃ zs,Ints W ao n cap zs := by
 obtain ⟨fuel,hf⟩ := hj
 rcases open_ints Tryz.underlying46 Tryz.underlying3 cellsOfI hf with ⟨hcs,_⟩ | ⟨x,l,c,zs,hcs,_,hl,hm,hz,hx,hcell,hwz⟩
 ·
  simp [Value.cells] at hcs
  obtain ⟨rfl,rfl,rfl⟩ := hcs
  exact ⟨[],rfl,by omega,by omega,.inl rfl,by simp⟩
 ·
  simp [Value.cells] at hcs
  obtain ⟨rfl,rfl,rfl⟩ := hcs
  simp only [if_true] at hz
  have hd' := congrArg Prod.fst hx
  simp only at hd'
  rw [hd'] at hd
  have hr := sized_slice hsz ht hd Tryz.underlying46
  rw [bytesOfI] at hr
  simp only [lits,List.length_map,List.length_take,List.length_drop,reachBytes] at hr
  refine ⟨zs.take n,by simp; omega,hl,by omega,?_,?_⟩
  ·
   by_cases h0 : 0 < zs.length
   ·
    obtain ⟨b,off,rfl,hc⟩ := ints_at hcell h0
    refine .inr ⟨b,off,rfl,fun k hk => ?_⟩
    simp only [List.length_take] at hk
    rw [hc k (by omega),List.getElem_take]
    rw [List.getD_eq_getElem?_getD,List.getElem?_eq_getElem (by omega)]
    rfl
   ·
    refine .inl ?_
    have : zs = [] := List.length_eq_zero_iff.1 (by omega)
    simp [this]
  ·
   intro z hz
   have hw := hwz z (List.mem_of_mem_take hz)
   exact fit_in hw
end Go.Proofs.YtlmjeackfepllaaGreatDoor
set_option maxRecDepth 100000
set_option linter.unusedVariables false
namespace Go.Proofs.YtlmjeackfepllaaGreatDoor.Wl
open Go.RowKit
open Mem Pk
def nums : List Int → List UInt8
 | [] => []
 | n :: l => nm n ++ nums l
theorem nums_app : ∀ a b : List Int,nums (a ++ b) = nums a ++ nums b
 | [],_ => rfl
 | x :: l,b => by rw [List.cons_append,nums,nums,nums_app l b,List.append_assoc]
theorem nums_len : ∀ l : List Int,(nums l).length ≤ 10 * l.length
 | [] => Nat.le_refl _
 | x :: l => by
  rw [nums,List.length_append,List.length_cons]
  have := nums_len l
  have := nm_len x
  omega
theorem nums_take {l : List Int} {k : Nat} (h : k < l.length) : nums (l.take (k + 1)) = nums (l.take k) ++ nm l[k] := by
 rw [List.take_succ_eq_append_getElem h,nums_app]
 simp [nums]
def Ob (w0 w : World) (v : Value) (bs : List UInt8) : Prop := (v = .slice none 0 0 ∧ bs = []) ∨ ∃ g,v = .slice (some ⟨g,0,none⟩) bs.length bs.length ∧ By.Block w g bs ∧ w0.heap.size ≤ g
theorem Ob.ls {w0 w : World} {v : Value} {bs : List UInt8} (h : Ob w0 w v bs) (hm : bs.length ≤ 1000000000000) : ∃ ao n cap,v = .slice ao n cap ∧ By.Ls w ao n cap bs ∧ n ≤ 1000000000000 := by
 rcases h with ⟨rfl,rfl⟩ | ⟨g,rfl,hb,_⟩
 · exact ⟨none,0,0,rfl,By.ls_nil w,by omega⟩
 · exact ⟨_,_,_,rfl,hb.ls (by omega),hm⟩
def RecE (w : World) (l : List Int) (e : Ending) (w' : World) : Prop := ∃ v,e = .returned v ∧ Ob w w' v (nums l) ∧ Below w.heap.size w w'
set_option maxHeartbeats 2000000 in
theorem wl_record (ao : Option Addr) (n cap : Nat) (l : List Int) (w : World) (hI : Ints w ao n cap l) (hl : l.length ≤ 1000) :
  Calls Tryz.prog 130 #[.slice ao n cap] w (RecE w l) := by
 have HI := Lib.hid hI
 have hf := hI.fits
 have hr := hI.reach
 have HN := Lib.hid hI.len
 have hn : n ≤ 1000 := by
  have := hI.len
  omega
 clear hI
 go_enter Tryz.func130,Tryz.ntmps130
 go_wp2
 go_loopw [3,8] (fun t i wr => ∃ k : Nat,k ≤ n ∧ i = .int .i64 k ∧ Hid (Ob w wr t (nums (l.take k))) ∧ Hid (Below w.heap.size w wr)) (fun _ i _ => n - (intOf i).toNat)
 case atStart => exact ⟨0,by omega,rfl,Lib.hid (.inl ⟨rfl,rfl⟩),Lib.hid (Below.refl _ _)⟩
 case round =>
  rename World => wz
  obtain ⟨k,hk,rfl,HO,HB⟩ := hrel
  obtain ⟨to,tn,tc,rfl,hT,htn⟩ := HO.out.ls (by have := nums_len (l.take k); rw [List.length_take] at this; omega)
  by_cases hlt : k < n
  ·
   have hkl : k < l.length := HN.out ▸ hlt
   obtain ⟨b,off,z,rfl,hc,hz⟩ := HI.out.at k hlt
   have hc' := ((bcell HB.out).1 _ _ (cell_lt hc)).trans hc
   have HZ : Hid (l[k] = z) := Lib.hid (by
    rcases HI.out.seg with q | ⟨b',off',q,hcs⟩
    ·
     rw [q] at hkl
     simp at hkl
    ·
     cases q
     have := hcs k hkl
     rw [hc] at this
     cases this
     rfl)
   have C := Lib.hid (pack_num (nums (l.take k)) z hz to tn tc wz hT htn)
   have HTn := Lib.hid hT.len
   clear hc hT
   go_wp2_with fail
   refine C.out.mono ?_
   rintro e w2 ⟨⟨g,rfl,hg,hb⟩,b2⟩
   have e2 : nums (l.take (k + 1)) = nums (l.take k) ++ vb (zz z) := by rw [nums_take hkl,HZ.out]; rfl
   have HO2 : Hid (Ob w w2 (.slice (some ⟨g,0,none⟩) (tn + wd (zz z)) (tn + wd (zz z))) (nums (l.take (k + 1)))) := Lib.hid (.inr ⟨g,by rw [e2,List.length_append,← HTn.out]; rfl,by rw [e2]; exact hb,Nat.le_trans HB.out.size hg⟩)
   have HB2 := Lib.hid (bchain HB.out b2)
   clear hg hb b2 e2 C
   go_wp2_with fail
   go_roundw
   case rel => exact ⟨k + 1,by omega,by go_num,HO2,HB2⟩
   case measure => simp [intOf]; omega
  ·
   obtain rfl : k = n := by omega
   have HE : Hid (Ob w wz (.slice to tn tc) (nums l)) := Lib.hid (by
    have := HO.out
    rw [List.take_of_length_le (by have := HN.out; omega)] at this
    exact this)
   clear hT HO
   go_wp2_with fail
   go_ret
   exact ⟨_,rfl,HE.out,HB.out⟩
theorem sq_row {w : World} {B : Nat} {v : Value} {xs : List (Nat × List UInt8)} (h : Sq.Own w B v xs) : ∃ ao cap,v = .slice ao xs.length cap ∧ xs.length ≤ cap ∧ cap ≤ 9223372036854775807 ∧ ∀ k (hk : k < xs.length),∃ g,ao = some ⟨g,0,none⟩ ∧ w.cell? ⟨g,k,none⟩ = some (Sq.val xs[k]) := by
 rcases h.2 with ⟨h',h2⟩ | ⟨g,cap,cur,h',hb,hg,hnc,hcm,hcs,htake⟩
 ·
  have e : xs = [] := List.length_eq_zero_iff.1 h2
  subst e
  exact ⟨none,0,h',Nat.le_refl _,by omega,fun k hk => by simp at hk⟩
 ·
  refine ⟨some ⟨g,0,none⟩,cap,h',hnc,hcm,fun k hk => ⟨g,rfl,?_⟩⟩
  rw [cell_of_row w g _ _ _ _ hg]
  have h1 : (cur.toList.take (xs.length * 1))[k]? = (xs.map Sq.val)[k]? := by rw [htake]
  rw [List.getElem?_take_of_lt (by omega),List.getElem?_map,List.getElem?_eq_getElem hk] at h1
  rw [← Array.getElem?_toList]
  exact h1
def Recs (w0 w : World) (v : Value) (ps : List (List UInt8)) : Prop := ∃ gs,Sq.Own w w0.heap.size v gs ∧ gs.map Prod.snd = ps ∧ ∀ q ∈ gs,By.Block w q.1 q.2 ∧ w0.heap.size ≤ q.1 ∧ v.ownBlock ≠ some q.1
theorem Recs.below {w0 w u : World} {v : Value} {ps : List (List UInt8)} (h : Recs w0 w v ps) (k : Below w.heap.size w u) : Recs w0 u v ps := by
 obtain ⟨gs,a,b,c⟩ := h
 exact ⟨gs,rows_keep a fun g hg => k.block g (World.ownsRow.lt a g hg).2,b,fun q hq => ⟨(c q hq).1.below k,(c q hq).2⟩⟩
theorem Recs.row {w0 w : World} {v : Value} {ps : List (List UInt8)} (h : Recs w0 w v ps) : ∃ ao cap,v = .slice ao ps.length cap ∧ ps.length ≤ cap ∧ cap ≤ 9223372036854775807 ∧ ∀ k (hk : k < ps.length),∃ g q,ao = some ⟨g,0,none⟩ ∧ w.cell? ⟨g,k,none⟩ = some (.slice (some ⟨q,0,none⟩) ps[k].length ps[k].length) ∧ By.Block w q ps[k] := by
 obtain ⟨gs,a,rfl,c⟩ := h
 obtain ⟨ao,cap,e,h1,h2,h3⟩ := sq_row a
 have hlm : (gs.map Prod.snd).length = gs.length := List.length_map _
 refine ⟨ao,cap,by rw [hlm]; exact e,by rw [hlm]; exact h1,h2,fun k hk => ?_⟩
 obtain ⟨g,e1,e2⟩ := h3 k (hlm ▸ hk)
 rw [List.getElem_map]
 exact ⟨g,gs[k].1,e1,e2,(c _ (List.getElem_mem (hlm ▸ hk : k < gs.length))).1⟩
theorem frames_app : ∀ a b : List (List UInt8),frames (a ++ b) = frames a ++ frames b
 | [],_ => rfl
 | x :: l,b => by rw [List.cons_append,frames,frames,frames_app l b,List.append_assoc]
theorem frame_len (p : List UInt8) : (Fm.frame p).length = p.length + 8 := by
 unfold Fm.frame
 rw [List.length_append,List.length_append,Fm.four_len,Fm.four_len]
 omega
theorem frames_len : ∀ ps : List (List UInt8),(∀ p ∈ ps,p.length ≤ 2000) → (frames ps).length ≤ 2008 * ps.length
 | [],_ => Nat.le_refl _
 | x :: l,h => by
  rw [frames,List.length_append,frame_len,List.length_cons]
  have := frames_len l fun p hp => h p (List.mem_cons_of_mem _ hp)
  have := h x List.mem_cons_self
  omega
theorem frames_take {l : List (List UInt8)} {k : Nat} (h : k < l.length) : frames (l.take (k + 1)) = frames (l.take k) ++ Fm.frame l[k] := by
 rw [List.take_succ_eq_append_getElem h,frames_app]
 simp [frames]
def Fine (ps : List (List UInt8)) : Prop := ps.length ≤ 1000 ∧ ∀ p ∈ ps,1 ≤ p.length ∧ p.length ≤ 2000
def FrmE (w : World) (ps : List (List UInt8)) (e : Ending) (w' : World) : Prop := ∃ v,e = .returned v ∧ By.Own w' w.heap.size v (frames ps) ∧ Below w.heap.size w w'
set_option maxHeartbeats 2000000 in
theorem wl_framed (v : Value) (ps : List (List UInt8)) (w0 w : World) (hR : Recs w0 w v ps) (hF : Fine ps) :
  Calls Tryz.prog 133 #[v] w (FrmE w ps) := by
 have HR := Lib.hid hR
 have HF := Lib.hid hF
 obtain ⟨ao,cap,rfl,h1,h2,_⟩ := hR.row
 obtain ⟨n,hn⟩ : ∃ n,ps.length = n := ⟨_,rfl⟩
 have hn1 : n ≤ 1000 := hn ▸ hF.1
 have HN := Lib.hid hn
 rw [hn] at h1 HR ⊢
 clear hR hF hn
 go_enter Tryz.func133,Tryz.ntmps133
 go_wp2
 go_loopw [3,8] (fun t i wr => ∃ k : Nat,k ≤ n ∧ i = .int .i64 k ∧ Hid (By.Own wr w.heap.size t (frames (ps.take k))) ∧ Hid (Below w.heap.size w wr)) (fun _ i _ => n - (intOf i).toNat)
 case atStart => exact ⟨0,by omega,rfl,Lib.hid (By.own_nil _ _),Lib.hid (Below.refl _ _)⟩
 case round =>
  rename World => wz
  obtain ⟨k,hk,rfl,HO,HB⟩ := hrel
  by_cases hlt : k < n
  ·
   have hkl : k < ps.length := HN.out ▸ hlt
   obtain ⟨ao',cap',e1,_,_,hrow⟩ := (HR.out.below HB.out).row
   simp only [Value.slice.injEq] at e1
   obtain ⟨g,q,e2,hc,hq⟩ := hrow k hkl
   obtain rfl : ao = some ⟨g,0,none⟩ := e1.1.trans e2
   have HFk := Lib.hid (HF.out.2 _ (List.getElem_mem hkl))
   have HSt := Lib.hid (frames_take hkl)
   obtain ⟨p,hp⟩ : ∃ p,ps[k] = p := ⟨_,rfl⟩
   rw [hp] at hc hq HFk HSt
   obtain ⟨m,hm⟩ : ∃ m,p.length = m := ⟨_,rfl⟩
   rw [hm] at hc
   have hm1 : 1 ≤ m ∧ m ≤ 2000 := hm ▸ HFk.out
   have hls : By.Ls wz (some ⟨q,0,none⟩) m m p := by
    have := hq.ls (by omega)
    rw [hm] at this
    exact this
   have C := Lib.hid (fm_put none 0 0 [] (some ⟨q,0,none⟩) m m p wz (By.ls_nil wz) hls (by omega))
   have HPut : Hid (Fm.put [] p = Fm.frame p) := Lib.hid (by
    unfold Fm.put
    rw [if_neg (by omega),List.nil_append])
   have HFl : Hid ((Fm.frame p).length = m + 8) := Lib.hid (by rw [frame_len,hm])
   have HLn : Hid ((frames (ps.take k)).length ≤ 2008000) := Lib.hid (by
    have := frames_len (ps.take k) fun x hx => (HF.out.2 x (List.mem_of_mem_take hx)).2
    rw [List.length_take] at this
    omega)
   clear e1 e2 hrow hq hls hp hm
   go_wp2_with fail
   refine C.out.mono ?_
   rintro e w2 ⟨gf,rfl,hb,hg,b2⟩
   rw [HPut.out] at hb ⊢
   have hsg := (hb.ls (by rw [HFl.out]; omega)).seg
   have HOb := Lib.hid (By.own_below HO.out b2)
   have HB2 := Lib.hid (bchain HB.out b2)
   obtain ⟨fl,hfl⟩ : ∃ fl,(Fm.frame p).length = fl := ⟨_,rfl⟩
   rw [hfl]
   have HSg := Lib.hid hsg
   have HFl2 := Lib.hid hfl
   have hflb : fl ≤ 3000 := by
    have := HFl.out
    omega
   clear hb hg b2 C hsg hfl hc
   go_wp2_with (at_builtin; go_must (refine By.wpList_append w2 rfl (.tmp 12) (.tmp 14) rfl w.heap.size _ (frames (ps.take k)) rfl HOb.out (some ⟨gf,0,none⟩) fl fl (Fm.frame p) rfl HFl2.out.symm (fun z => by cases z) HSg.out (by have := HLn.out; omega) HB2.out.size ?_))
   intro v' w3 ho gr hat
   have HO3 : Hid (By.Own w3 w.heap.size v' (frames (ps.take (k + 1)))) := Lib.hid (by rw [HSt.out]; exact ho)
   have HB3 : Hid (Below w.heap.size w w3) := Lib.hid (HB2.out.grown gr HB2.out.size (By.own_ge HOb.out))
   clear ho gr hat
   go_wp2_with fail
   go_roundw
   case rel => exact ⟨k + 1,by omega,by go_num,HO3,HB3⟩
   case measure => simp [intOf]; omega
  ·
   obtain rfl : k = n := by omega
   have HE : Hid (By.Own wz w.heap.size _ (frames ps)) := Lib.hid (by
    have := HO.out
    rw [List.take_of_length_le (by have := HN.out; omega)] at this
    exact this)
   clear HO
   go_wp2_with fail
   go_ret
   exact ⟨_,rfl,HE.out,HB.out⟩
end Go.Proofs.YtlmjeackfepllaaGreatDoor.Wl
namespace Go.Proofs.YtlmjeackfepllaaGreatDoor.Wl
open Go.RowKit
open Mem Pk
open Go.Sort (grow)
theorem upd_nw {P : Nat → Prop} {w u : World} (h : UpdQ (nw P w) w u) : UpdQ P w u :=
 ⟨h.size,fun b hb hp => h.block b hb fun z => z.elim hp fun z => by omega,fun w0 a c => h.below w0 a fun b z => z.elim (c b) fun z => Nat.le_trans a.size z⟩
theorem runAll_take (s : Sg) : ∀ (ps : List (List UInt8)) (k : Nat) (h : k < ps.length),runAll s (ps.take (k + 1)) = (take (runAll s (ps.take k)) ps[k]).getD (runAll s (ps.take k)) := by
 intro ps
 induction ps generalizing s with
 | nil => intro k h; simp at h
 | cons p l ih =>
  intro k h
  cases k with
  | zero => rfl
  | succ k => exact ih _ k (by simpa using h)
set_option maxHeartbeats 2000000 in
theorem wl_takeAll {P : Nat → Prop} {w0 w : World} {g o : Nat} {ty : TypeId} {pre post : List Value} {s : Sg} (h : In P w g o ty pre post s) (v : Value) (ps : List (List UInt8)) (hR : Recs w0 w v ps) (hP : ∀ b,P b → b < w0.heap.size) (hF : Fine ps) :
  Calls Tryz.prog 97 #[.pointer (some ⟨g,o,none⟩),v] w fun e w' => e = .returned (.tuple #[]) ∧ In (nw P w) w' g o ty pre post (runAll s ps) ∧ UpdQ P w w' := by
 have HR := Lib.hid hR
 have HF := Lib.hid hF
 have HP := Lib.hid hP
 have H0 := Lib.hid h
 obtain ⟨ao,cap,rfl,h1,h2,_⟩ := hR.row
 obtain ⟨n,hn⟩ : ∃ n,ps.length = n := ⟨_,rfl⟩
 have hn1 : n ≤ 1000 := hn ▸ hF.1
 have HN := Lib.hid hn
 rw [hn] at h1 HR ⊢
 clear hR hF hn hP h
 go_enter Tryz.func97,Tryz.ntmps97
 go_wp2
 go_loopw [5,8] (fun _ i wr => ∃ k : Nat,k ≤ n ∧ i = .int .i64 k ∧ Hid (In (nw P w) wr g o ty pre post (runAll s (ps.take k))) ∧ Hid (UpdQ (nw P w) w wr)) (fun _ i _ => n - (intOf i).toNat)
 case atStart => exact ⟨0,by omega,rfl,Lib.hid (H0.out.mono fun b z => .inl z),Lib.hid (UpdQ.refl _ _)⟩
 case round =>
  rename World => wz
  obtain ⟨k,hk,rfl,HS,HU⟩ := hrel
  by_cases hlt : k < n
  ·
   have hkl : k < ps.length := HN.out ▸ hlt
   have hkeep : ∃ q,wz.cell? ⟨(match ao with | some a => a.block | none => 0),k,none⟩ = some (.slice (some ⟨q,0,none⟩) ps[k].length ps[k].length) ∧ By.Block wz q ps[k] ∧ ∃ g,ao = some ⟨g,0,none⟩ := by
    obtain ⟨gs,a,b,c⟩ := HR.out
    obtain ⟨ao',cap',e1,_,_,hrow⟩ := HR.out.row
    simp only [Value.slice.injEq] at e1
    obtain ⟨g1,q,e2,hc,hq⟩ := hrow k hkl
    obtain rfl : ao = some ⟨g1,0,none⟩ := e1.1.trans e2
    have hg1 : w0.heap.size ≤ g1 := (World.ownsRow.lt a g1 rfl).1
    have hnp : ∀ b,w0.heap.size ≤ b → b < w.heap.size → ¬ nw P w b := fun b z1 z2 z => z.elim (fun z => by have := HP.out b z; omega) fun z => by omega
    have hq0 : w0.heap.size ≤ q := by
     have hk' : k < gs.length := by rw [← b,List.length_map] at hkl; exact hkl
     have hz := (c _ (List.getElem_mem hk')).2.1
     obtain ⟨ao3,cap3,e3,_,_,h3⟩ := sq_row a
     simp only [Value.slice.injEq] at e3
     obtain ⟨g3,e4,e5⟩ := h3 k hk'
     rw [← e3.1] at e4
     simp only [Option.some.injEq,Addr.mk.injEq] at e4
     rw [← e4.1,hc] at e5
     unfold Sq.val at e5
     simp only [Option.some.injEq,Value.slice.injEq,Addr.mk.injEq] at e5
     rw [e5.1.1]
     exact hz
    have hlq := hq.lt
    refine ⟨q,?_,(HU.out.block q hlq (hnp q hq0 hlq)).trans hq,g1,rfl⟩
    exact (Hd.cell_same (HU.out.block g1 (cell_lt hc) (hnp g1 hg1 (cell_lt hc))) k).trans hc
   obtain ⟨q,hc,hq,g1,rfl⟩ := hkeep
   have HSt := Lib.hid (runAll_take s ps k hkl)
   have hpl := HF.out.2 _ (List.getElem_mem hkl)
   obtain ⟨p,hp⟩ : ∃ p,ps[k] = p := ⟨_,rfl⟩
   rw [hp] at hc hq HSt hpl
   obtain ⟨m,hm⟩ : ∃ m,p.length = m := ⟨_,rfl⟩
   rw [hm] at hc
   have hls : By.Ls wz (some ⟨q,0,none⟩) m m p := by
    have := hq.ls (by omega)
    rw [hm] at this
    exact this
   have C := Lib.hid (sg_take HS.out (some ⟨q,0,none⟩) m m p hls (by omega))
   clear hls hq hp hm hpl
   dsimp only at hc
   go_wp2_with fail
   refine C.out.mono ?_
   rintro e w2 ⟨rfl,h2,u2⟩
   have HS2 : Hid (In (nw P w) w2 g o ty pre post (runAll s (ps.take (k + 1)))) := Lib.hid (by
    rw [HSt.out]
    exact h2.mono fun b z => z.elim id fun z => .inr (Nat.le_trans HU.out.size z))
   have HU2 := Lib.hid (HU.out.trans u2)
   clear h2 u2 C hc
   go_wp2_with fail
   go_roundw
   case rel => exact ⟨k + 1,by omega,by go_num,HS2,HU2⟩
   case measure => simp [intOf]; omega
  ·
   obtain rfl : k = n := by omega
   have HE : Hid (In (nw P w) wz g o ty pre post (runAll s ps)) := Lib.hid (by
    have := HS.out
    rw [List.take_of_length_le (by have := HN.out; omega)] at this
    exact this)
   clear HS
   go_wp2_with fail
   go_end0
   exact ⟨rfl,HE.out,upd_nw HU.out⟩
end Go.Proofs.YtlmjeackfepllaaGreatDoor.Wl
namespace Go.Proofs.YtlmjeackfepllaaGreatDoor.Wl
open Go.RowKit
open Mem Pk
open Go.Sort (grow)
theorem begun_step {a b : List Et.T} {k : Nat} (h : k < a.length) (j : k < b.length) : begun (a.drop k) (b.drop k) = if a[k].term = b[k].term ∧ a[k].mem = b[k].mem ∧ a[k].data = b[k].data then begun (a.drop (k + 1)) (b.drop (k + 1)) + 1 else 0 := by
 rw [List.drop_eq_getElem_cons h,List.drop_eq_getElem_cons j,begun]
theorem begun_end {a b : List Et.T} {k : Nat} (h : a.length ≤ k ∨ b.length ≤ k) : begun (a.drop k) (b.drop k) = 0 := by
 rcases h with h | h
 ·
  rw [List.drop_eq_nil_of_le h]
  rfl
 ·
  rw [List.drop_eq_nil_of_le h]
  cases a.drop k <;> rfl
theorem begun_le : ∀ a b : List Et.T,begun a b ≤ a.length ∧ begun a b ≤ b.length
 | [],b => ⟨Nat.le_refl _,Nat.zero_le _⟩
 | x :: a,[] => ⟨Nat.zero_le _,Nat.le_refl _⟩
 | x :: a,y :: b => by
  rw [begun]
  have := begun_le a b
  split
  ·
   simp only [List.length_cons]
   omega
  · exact ⟨Nat.zero_le _,Nat.zero_le _⟩
set_option maxHeartbeats 4000000 in
theorem wl_begun (ao bo : Option Addr) (n m ca cb : Nat) (a b : List Et.T) (w : World) (hA : Et.Ls w ao n ca a) (hB : Et.Ls w bo m cb b) :
  Calls Tryz.prog 131 #[.slice ao n ca,.slice bo m cb] w fun e w' => e = .returned (.int .i64 (begun a b : Nat)) ∧ Below w.heap.size w w' := by
 have HA := Lib.hid hA
 have HBb := Lib.hid hB
 have hca := hA.reach
 have hfa := hA.fits
 have hcb := hB.reach
 have hfb := hB.fits
 have HN := Lib.hid hA.len
 have HM := Lib.hid hB.len
 clear hA hB
 go_enter Tryz.func131,Tryz.ntmps131
 go_wp2
 go_loopw [5] (fun i wr => ∃ k : Nat,k ≤ n ∧ i = .int .i64 k ∧ Hid (k + begun (a.drop k) (b.drop k) = begun a b) ∧ Hid (Below w.heap.size w wr)) (fun i _ => n - (intOf i).toNat)
 case atStart => exact ⟨0,Nat.zero_le _,rfl,Lib.hid (Nat.zero_add _),Lib.hid (Below.refl _ _)⟩
 case round =>
  rename World => wz
  obtain ⟨k,hk,rfl,HK,HB⟩ := hrel
  by_cases h1 : k < n
  ·
   have d1 : decide ((k : Int) < (n : Int)) = true := decide_eq_true (by omega)
   by_cases h2 : k < m
   ·
    have d2 : decide ((k : Int) < (m : Int)) = true := decide_eq_true (by omega)
    obtain ⟨g,og,rfl⟩ := HA.out.at (by omega)
    obtain ⟨f,of,rfl⟩ := HBb.out.at (by omega)
    have hka : k < a.length := HN.out ▸ h1
    have hkb : k < b.length := HM.out ▸ h2
    have hra := (HA.out.row k hka).below HB.out
    have hrb := (HBb.out.row k hkb).below HB.out
    have HS := Lib.hid (begun_step hka hkb)
    obtain ⟨x,hx⟩ : ∃ x,a[k] = x := ⟨_,rfl⟩
    obtain ⟨y,hy⟩ : ∃ y,b[k] = y := ⟨_,rfl⟩
    rw [hx] at hra HS
    rw [hy] at hrb HS
    clear hx hy
    obtain ⟨a0,a1,a2⟩ := hra
    obtain ⟨b0,b1,b2⟩ := hrb
    have a0' := cell_regrown a0
    have a1' := cell_regrown a1
    have a2' := cell_regrown a2
    have b0' := cell_regrown b0
    have b1' := cell_regrown b1
    have b2' := cell_regrown b2
    clear a0 a1 a2 b0 b1 b2
    by_cases e0 : x.term = y.term
    ·
     have q0 : (x.term == y.term) = true := beq_iff_eq.2 e0
     by_cases e1 : x.mem = y.mem
     ·
      have q1 : (x.mem == y.mem) = true := beq_iff_eq.2 e1
      by_cases e2 : x.data = y.data
      ·
       have q2 : (x.data.toList == y.data.toList) = true := beq_iff_eq.2 (by rw [e2])
       have HR : Hid (begun (a.drop k) (b.drop k) = begun (a.drop (k + 1)) (b.drop (k + 1)) + 1) := Lib.hid (by rw [HS.out,if_pos ⟨e0,e1,e2⟩])
       clear e0 e1 e2 HS
       go_wp2_with fail
       refine wp_region_quiet_below (by kernel_rfl) (by kernel_rfl) ?_
       repeat (first | go_big_quiet_step (fail) | quiet_step (fail))
       refine wpQuiet_nil ?_
       intro _ hw'
       obtain ⟨⟨dq,osq⟩,hw''⟩ := hw'
       subst hw''
       have HBv := Lib.hid (bchain HB.out (below_regrown wz dq osq))
       go_wp2_with fail
       go_roundw
       case rel => exact ⟨k + 1,by omega,by go_num,Lib.hid (by rw [← HK.out,HR.out]; omega),HBv⟩
       case measure => simp [intOf]; omega
      ·
       have q2 : (x.data.toList == y.data.toList) = false := beq_eq_false_iff_ne.2 fun h => e2 (txt_ext (by rw [← tl,← tl]; exact h))
       have HR : Hid (begun a b = k) := Lib.hid (by rw [← HK.out,HS.out,if_neg fun z => e2 z.2.2]; rfl)
       clear e0 e1 e2 HS HK
       go_wp2_with fail
       refine wp_region_quiet_below (by kernel_rfl) (by kernel_rfl) ?_
       repeat (first | go_big_quiet_step (fail) | quiet_step (fail))
       refine wpQuiet_nil ?_
       intro _ hw'
       obtain ⟨⟨dq,osq⟩,hw''⟩ := hw'
       subst hw''
       have HBv := Lib.hid (bchain HB.out (below_regrown wz dq osq))
       go_wp2_with fail
       go_ret
       exact ⟨ret_int (by rw [HR.out]),HBv.out⟩
     ·
      have q1 : (x.mem == y.mem) = false := beq_eq_false_iff_ne.2 e1
      have HR : Hid (begun a b = k) := Lib.hid (by rw [← HK.out,HS.out,if_neg fun z => e1 z.2.1]; rfl)
      clear e0 e1 HS HK
      go_wp2_with fail
      refine wp_region_quiet_below (by kernel_rfl) (by kernel_rfl) ?_
      repeat (first | go_big_quiet_step (fail) | quiet_step (fail))
      refine wpQuiet_nil ?_
      intro _ hw'
      obtain ⟨⟨dq,osq⟩,hw''⟩ := hw'
      subst hw''
      have HBv := Lib.hid (bchain HB.out (below_regrown wz dq osq))
      go_wp2_with fail
      go_ret
      exact ⟨ret_int (by rw [HR.out]),HBv.out⟩
    ·
     have q0 : (x.term == y.term) = false := beq_eq_false_iff_ne.2 e0
     have HR : Hid (begun a b = k) := Lib.hid (by rw [← HK.out,HS.out,if_neg fun z => e0 z.1]; rfl)
     clear e0 HS HK
     go_wp2_with fail
     refine wp_region_quiet_below (by kernel_rfl) (by kernel_rfl) ?_
     repeat (first | go_big_quiet_step (fail) | quiet_step (fail))
     refine wpQuiet_nil ?_
     intro _ hw'
     obtain ⟨⟨dq,osq⟩,hw''⟩ := hw'
     subst hw''
     have HBv := Lib.hid (bchain HB.out (below_regrown wz dq osq))
     go_wp2_with fail
     go_ret
     exact ⟨ret_int (by rw [HR.out]),HBv.out⟩
   ·
    have d2 : decide ((k : Int) < (m : Int)) = false := decide_eq_false (by omega)
    have HS : Hid (begun (a.drop k) (b.drop k) = 0) := Lib.hid (begun_end (.inr (by have := HM.out; omega)))
    have HR : Hid (begun a b = k) := Lib.hid (by rw [← HK.out,HS.out]; rfl)
    clear HK HS
    go_wp2_with fail
    refine wp_region_quiet_below (by kernel_rfl) (by kernel_rfl) ?_
    repeat (first | go_big_quiet_step (fail) | quiet_step (fail))
    refine wpQuiet_nil ?_
    intro _ hw'
    obtain ⟨⟨dq,osq⟩,hw''⟩ := hw'
    subst hw''
    have HBv := Lib.hid (bchain HB.out (below_regrown wz dq osq))
    go_wp2_with fail
    go_ret
    exact ⟨ret_int (by rw [HR.out]),HBv.out⟩
  ·
   have d1 : decide ((k : Int) < (n : Int)) = false := decide_eq_false (by omega)
   have HS : Hid (begun (a.drop k) (b.drop k) = 0) := Lib.hid (begun_end (.inl (by have := HN.out; omega)))
   have HR : Hid (begun a b = k) := Lib.hid (by rw [← HK.out,HS.out]; rfl)
   clear HK HS
   go_wp2_with fail
   refine wp_region_quiet_below (by kernel_rfl) (by kernel_rfl) ?_
   repeat (first | go_big_quiet_step (fail) | quiet_step (fail))
   refine wpQuiet_nil ?_
   intro _ hw'
   obtain ⟨⟨dq,osq⟩,hw''⟩ := hw'
   subst hw''
   have HBv := Lib.hid (bchain HB.out (below_regrown wz dq osq))
   go_wp2_with fail
   go_ret
   exact ⟨ret_int (by rw [HR.out]),HBv.out⟩
end Go.Proofs.YtlmjeackfepllaaGreatDoor.Wl
namespace Go.Proofs.YtlmjeackfepllaaGreatDoor.Wl
open Go.RowKit
open Mem Pk
theorem sq_len {xs : List (Nat × List UInt8)} : (xs.map Sq.val).length = xs.length := List.length_map _
theorem recs_wp {o : Oper} {a : Act} {K : Act → World → Prop} {Q : Exit → Act → World → Prop} {w0 : World} (X : World) (s t : Operand)
  (ho : o.op = .call { callee := .builtin .append,args := #[s,t],argTypes := #[126,126] })
  (v : Value) (ps : List (List UInt8)) (hs : a.eval s = v) (hR : Recs w0 X v ps) (hX : Below w0.heap.size w0 X)
  (ao : Option Addr) (n cap : Nat) (zs : List (Nat × List UInt8)) (ht : a.eval t = .slice ao n cap) (hn : n = zs.length) (hnil : ao = none → cap = 0) (hsrc : zs = [] ∨ ∃ b,ao = some ⟨b,0,none⟩ ∧ ∀ k (hk : k < zs.length),X.cell? ⟨b,k,none⟩ = some (Sq.val zs[k]))
  (hz : ∀ q ∈ zs,By.Block X q.1 q.2 ∧ w0.heap.size ≤ q.1 ∧ v.ownBlock ≠ some q.1) (few : ps.length + n ≤ 100000)
  (h : ∀ v' w1,Recs w0 w1 v' (ps ++ zs.map Prod.snd) → Below w0.heap.size w0 w1 → X.grownBy w1 v.ownBlock → K (a.put o.dst v') w1) : o.wp Tryz.prog a X K Q := by
 obtain ⟨gs,hO,rfl,hE⟩ := hR
 rw [List.length_map] at few
 obtain ⟨i0,hi,hz0,hz1,hz2⟩ := info_parts Sq.info
 have hmx : maxLen = 9223372036854775807 := rfl
 have empty : zs = [] → K (a.put o.dst v) X := fun e => h v X ⟨gs,hO,by rw [e]; simp,hE⟩ hX ⟨rfl,rfl,rfl,Nat.le_refl _,fun _ _ _ => rfl⟩
 cases ao with
 | none =>
  obtain rfl : cap = 0 := hnil rfl
  rcases hsrc with e | ⟨b,e,_⟩
  ·
   obtain rfl : n = 0 := by rw [hn,e]; rfl
   have hrun := run_append_owned_none (P := Tryz.prog) (w := X) w0.heap.size 126 o.type 59 i0 1 Tryz.underlying126 hi v _ _ hO
   unfold Oper.wp
   simp [execOp,ho,resolve,invoke,builtin,hs,ht,hrun,Result.andThen]
   exact empty e
  · cases e
 | some ad =>
  obtain ⟨v',w',hr,h2,h3,_,h5⟩ := run_append_own_at (P := Tryz.prog) X w0.heap.size 126 o.type 59 i0 (.slice none 0 0) 1 24 Tryz.underlying126 hi hz0 hz1 hz2 rfl (by omega) v gs.length (gs.map Sq.val) hO ad n cap (zs.map Sq.val) (by rw [sq_len,hn,Nat.mul_one]) (by
   intro j z hj
   rcases hsrc with e | ⟨b,e,hc⟩
   ·
    rw [e] at hj
    simp at hj
   ·
    cases e
    obtain ⟨hj1,e2⟩ := List.getElem?_eq_some_iff.1 hj
    rw [sq_len] at hj1
    rw [List.getElem_map] at e2
    have := hc j hj1
    rw [e2] at this
    rw [Go.WideShapes.add_plain,Nat.zero_add]
    exact this) (fun z hz => by obtain ⟨q,_,rfl⟩ := List.mem_map.1 hz; rfl) (by omega) (by omega) hX.size
  unfold Oper.wp execOp
  simp only [ho,resolve,invoke,builtin,Sem.run_bind,Sem.run_pure,Result.andThen_ok,List.map_toArray,List.map_cons,List.map_nil,hs,ht,hr]
  have hkeep : ∀ q : Nat × List UInt8,By.Block X q.1 q.2 ∧ w0.heap.size ≤ q.1 ∧ v.ownBlock ≠ some q.1 → By.Block w' q.1 q.2 ∧ w0.heap.size ≤ q.1 ∧ v'.ownBlock ≠ some q.1 := fun (q : Nat × List UInt8) ⟨b1,b2,b3⟩ => by
   refine ⟨(h3.block q.1 b1.lt fun z => b3 z.symm).trans b1,b2,fun z => ?_⟩
   rcases h5 with z2 | z2
   · exact b3 (z2 ▸ z)
   ·
    rw [z2] at z
    have : X.heap.size = q.1 := Option.some.inj z
    have := b1.lt
    omega
  refine h v' w' ⟨gs ++ zs,?_,by rw [List.map_append],fun q hq => (List.mem_append.1 hq).elim (fun z => hkeep q (hE q z)) fun z => hkeep q (hz q z)⟩ (hX.grown h3 hX.size fun k e => (World.ownsRow.lt hO k e).1) h3
  unfold Sq.Own
  rw [List.map_append,List.length_append,← hn]
  exact h2
theorem recs_step {ops : Array Oper} {o : Oper} {a : Act} {K : Act → World → Prop} {Q : Exit → Act → World → Prop} {E : Prop} {w0 : World} (X : World) (hgd : o.guard = none) (s t : Operand)
  (ho : o.op = .call { callee := .builtin .append,args := #[s,t],argTypes := #[126,126] })
  (v : Value) (ps : List (List UInt8)) (hs : a.eval s = v) (hR : Recs w0 X v ps) (hX : Below w0.heap.size w0 X)
  (ao : Option Addr) (n cap : Nat) (zs : List (Nat × List UInt8)) (ht : a.eval t = .slice ao n cap) (hn : n = zs.length) (hnil : ao = none → cap = 0) (hsrc : zs = [] ∨ ∃ b,ao = some ⟨b,0,none⟩ ∧ ∀ k (hk : k < zs.length),X.cell? ⟨b,k,none⟩ = some (Sq.val zs[k]))
  (hz : ∀ q ∈ zs,By.Block X q.1 q.2 ∧ w0.heap.size ≤ q.1 ∧ v.ownBlock ≠ some q.1) (few : ps.length + n ≤ 100000)
  (h : ∀ v' w1,Recs w0 w1 v' (ps ++ zs.map Prod.snd) → Below w0.heap.size w0 w1 → X.grownBy w1 v.ownBlock → K (a.put o.dst v') w1) :
  if Region.wanted o (yielded ops a.tmps) = true then Oper.wp Tryz.prog o a X K Q else E := by
 have hw : Region.wanted o (yielded ops a.tmps) = true := by simp [Region.wanted,hgd]
 rw [if_pos hw]
 exact recs_wp X s t ho v ps hs hR hX ao n cap zs ht hn hnil hsrc hz few h
theorem recs_list {ops : Array Oper} {rest : List Oper} {o : Oper} {a : Act} {Q : Exit → Act → World → Prop} {w0 : World} (X : World) (hgd : o.guard = none) (s t : Operand)
  (ho : o.op = .call { callee := .builtin .append,args := #[s,t],argTypes := #[126,126] })
  (v : Value) (ps : List (List UInt8)) (hs : a.eval s = v) (hR : Recs w0 X v ps) (hX : Below w0.heap.size w0 X)
  (ao : Option Addr) (n cap : Nat) (zs : List (Nat × List UInt8)) (ht : a.eval t = .slice ao n cap) (hn : n = zs.length) (hnil : ao = none → cap = 0) (hsrc : zs = [] ∨ ∃ b,ao = some ⟨b,0,none⟩ ∧ ∀ k (hk : k < zs.length),X.cell? ⟨b,k,none⟩ = some (Sq.val zs[k]))
  (hz : ∀ q ∈ zs,By.Block X q.1 q.2 ∧ w0.heap.size ≤ q.1 ∧ v.ownBlock ≠ some q.1) (few : ps.length + n ≤ 100000)
  (h : ∀ v' w1,Recs w0 w1 v' (ps ++ zs.map Prod.snd) → Below w0.heap.size w0 w1 → X.grownBy w1 v.ownBlock → wpList Tryz.prog ops Q rest (a.put o.dst v') w1) : wpList Tryz.prog ops Q (o :: rest) a X :=
 wpList_plain hgd fun _ hK => recs_wp X s t ho v ps hs hR hX ao n cap zs ht hn hnil hsrc hz few fun v' w1 h1 h2 h3 => hK _ _ (h v' w1 h1 h2 h3)
theorem ints_block {W : World} {b : Nat} {zs : List Int} (h : W.heap[b]? = some (.cells (zs.map (Value.int .i64)).toArray 3 (0,0))) (hf : ∀ z ∈ zs,Fit z) (hl : zs.length ≤ 1000) : Ints W (some ⟨b,0,none⟩) zs.length zs.length zs :=
 ⟨rfl,Nat.le_refl _,by omega,.inr ⟨b,0,rfl,fun k hk => by
  rw [cell_of_row W b _ _ _ _ h,Nat.zero_add]
  simp [hk]⟩,hf⟩
theorem wl_record1 (ao : Option Addr) (n cap : Nat) (l : List Int) (w : World) (hI : Ints w ao n cap l) (hl : l.length ≤ 1000) (h0 : l ≠ []) :
  Calls Tryz.prog 130 #[.slice ao n cap] w fun e w' => ∃ g L,e = .returned (.slice (some ⟨g,0,none⟩) L L) ∧ L = (nums l).length ∧ By.Block w' g (nums l) ∧ w.heap.size ≤ g ∧ Below w.heap.size w w' := by
 refine (wl_record ao n cap l w hI hl).mono ?_
 rintro e w' ⟨v,rfl,⟨rfl,h⟩ | ⟨g,rfl,hb,hg⟩,b⟩
 ·
  exfalso
  cases l with
  | nil => exact h0 rfl
  | cons x l =>
   have := congrArg List.length h
   rw [nums,List.length_append,List.length_nil] at this
   have := nm_pos x
   omega
 · exact ⟨g,_,rfl,rfl,hb,hg,b⟩
theorem pay_ent (x : Et.T) : nums [2,x.term,x.mem] ++ vb (zz (x.data.size : Int)) ++ txt x.data = pay (.ent x) := by
 unfold pay tx nm
 simp [nums,nm]
theorem ents_take {l : List Et.T} {k : Nat} (h : k < l.length) : pays (ents (l.take (k + 1))) = pays (ents (l.take k)) ++ [pay (.ent l[k])] := by
 unfold pays ents
 rw [List.take_succ_eq_append_getElem h,List.map_append,List.map_append]
 rfl
theorem Recs.own_lt {w0 w : World} {v : Value} {ps : List (List UInt8)} (h : Recs w0 w v ps) (b : Nat) (e : v.ownBlock = some b) : b < w.heap.size := by
 obtain ⟨gs,a,_⟩ := h
 exact (World.ownsRow.lt a b e).2
theorem nums3_len (a b c : Int) : (nums [a,b,c]).length ≤ 30 := nums_len _
def EntsE (w : World) (l : List Et.T) (e : Ending) (w' : World) : Prop := ∃ v,e = .returned v ∧ Recs w w' v (pays (ents l)) ∧ Below w.heap.size w w'
set_option maxHeartbeats 8000000 in
theorem wl_entries (ao : Option Addr) (n cap : Nat) (l : List Et.T) (w : World) (hL : Et.Ls w ao n cap l) (hd : ∀ e ∈ l,e.data.size ≤ 1100) (hn : n ≤ 1000) :
  Calls Tryz.prog 132 #[.slice ao n cap] w (EntsE w l) := by
 have HL := Lib.hid hL
 have HD := Lib.hid hd
 have hf := hL.fits
 have hr := hL.reach
 have HN := Lib.hid hL.len
 clear hL hd
 go_enter Tryz.func132,Tryz.ntmps132
 go_wp2
 go_loopw [3,5,8] (fun t _ i wr => ∃ k : Nat,k ≤ n ∧ i = .int .i64 k ∧ Hid (Recs w wr t (pays (ents (l.take k)))) ∧ Hid (Below w.heap.size w wr)) (fun _ _ i _ => n - (intOf i).toNat)
 case atStart => exact ⟨0,by omega,rfl,Lib.hid ⟨[],Sq.own_nil _ _,rfl,fun q hq => (by cases hq)⟩,Lib.hid (Below.refl _ _)⟩
 case round =>
  rename World => wz
  obtain ⟨k,hk,rfl,HR,HB⟩ := hrel
  by_cases hlt : k < n
  ·
   have hkl : k < l.length := HN.out ▸ hlt
   obtain ⟨b,off,rfl⟩ := HL.out.at (by omega)
   have hrow := (HL.out.row k hkl).below HB.out
   have HSh := Lib.hid (HL.out.short _ (List.getElem_mem hkl))
   have HDk := Lib.hid (HD.out _ (List.getElem_mem hkl))
   have HSt := Lib.hid (ents_take hkl)
   obtain ⟨x,hx⟩ : ∃ x,l[k] = x := ⟨_,rfl⟩
   rw [hx] at hrow HSh HDk HSt
   clear hx
   obtain ⟨g0,g1,g2⟩ := hrow
   obtain ⟨W,hW,hbW,hC⟩ := Et.boxed1 wz x
   have HBW := Lib.hid (bchain HB.out hbW)
   have HRW := Lib.hid (HR.out.below hbW)
   have HC := Lib.hid hC
   have HFew : Hid ((pays (ents (l.take k))).length + 1 ≤ 100000) := Lib.hid (by
    unfold pays ents
    rw [List.length_map,List.length_map,List.length_take]
    omega)
   unfold Et.C at hC
   obtain ⟨a0,a1,a2⟩ := hC
   have lx : Hid (∀ u,Below W.heap.size W u → u.cell? ⟨wz.heap.size,0,none⟩ = some (.int .i64 x.term) ∧ u.cell? ⟨wz.heap.size,1,none⟩ = some (.int .i64 x.mem) ∧ u.cell? ⟨wz.heap.size,2,none⟩ = some (.string x.data)) := Lib.hid fun u k => HC.out.below k
   obtain ⟨to,tn,tc,rfl⟩ : ∃ to tn tc,u3 = .slice to tn tc := by
    obtain ⟨ao',cap',e,_⟩ := HR.out.row
    exact ⟨_,_,_,e⟩
   have HRz := Lib.hid HR.out
   clear hbW HR
   go_wp2_with fail
   have HFt : Hid (∀ z ∈ [2,x.term,x.mem],Fit z) := Lib.hid (by
    intro z hz
    simp only [List.mem_cons,List.not_mem_nil,or_false] at hz
    rcases hz with rfl | rfl | rfl
    · exact ⟨by decide,by decide⟩
    · exact HSh.out.1
    · exact HSh.out.2.1)
   have lb1 : Hid (∀ q,Below W.heap.size W (W.alloc q).drew) := Lib.hid fun q => ((Below.refl _ _).alloc (Nat.le_refl _) _).drew
   have lb2 : Hid (∀ q,Below W.heap.size W (W.drew.alloc q)) := Lib.hid fun q => (Below.refl _ _).drew.alloc (Nat.le_refl _) _
   have HTx : Hid (∀ (u : World) (g L : Nat),Below W.heap.size W u → L = (nums [2,x.term,x.mem]).length → By.Block u g (nums [2,x.term,x.mem]) → Calls Tryz.prog 149 #[.slice (some ⟨g,0,none⟩) L L,.string x.data] u fun e u' => ∃ g2 N2,e = .returned (.slice (some ⟨g2,0,none⟩) N2 N2) ∧ (Below W.heap.size W u' ∧ ∀ q,q = .slice (some ⟨g2,0,none⟩) N2 N2 → Recs w (u'.alloc (.cells #[q] 59)) (.slice to tn tc) (pays (ents (l.take k))) ∧ Below w.heap.size w (u'.alloc (.cells #[q] 59)) ∧ (∀ k (hk : k < [(g2,pay (.ent x))].length),(u'.alloc (.cells #[q] 59)).cell? ⟨u'.heap.size,k,none⟩ = some (Sq.val [(g2,pay (.ent x))][k])) ∧ ∀ z ∈ [(g2,pay (.ent x))],By.Block (u'.alloc (.cells #[q] 59)) z.1 z.2 ∧ w.heap.size ≤ z.1 ∧ (Value.slice to tn tc).ownBlock ≠ some z.1)) := Lib.hid fun u g L bu hL hb => by
    subst hL
    have hl30 := nums3_len 2 x.term x.mem
    refine (pack_text _ x.data (by have := HDk.out; omega) (some ⟨g,0,none⟩) _ _ u (hb.ls (by omega)) (by omega)).mono ?_
    rintro e u' ⟨⟨g2,N2,rfl,hN2,hg2,hb2⟩,b2⟩
    rw [pay_ent] at hN2 hb2
    have bu' := bchain bu b2
    refine ⟨g2,N2,rfl,bu',fun q hq => ?_⟩
    have ba : Below u'.heap.size u' (u'.alloc (.cells #[q] 59)) := (Below.refl _ _).alloc (Nat.le_refl _) _
    refine ⟨HRW.out.below (bchain bu' ba),bchain HBW.out (bchain bu' ba),fun k hk => ?_,fun z hz => ?_⟩
    ·
     obtain rfl : k = 0 := by simpa using hk
     rw [cell_of_row _ _ _ _ _ _ (heap_alloc_new u' _),hq]
     show some (Value.slice _ _ _) = some (Value.slice (some ⟨g2,0,none⟩) (pay (.ent x)).length (pay (.ent x)).length)
     rw [← hN2]
    ·
     obtain rfl := List.mem_singleton.1 hz
     refine ⟨hb2.below ba,Nat.le_trans (Nat.le_trans HBW.out.size bu.size) hg2,fun e => ?_⟩
     have := HRW.out.own_lt _ e
     have := bu.size
     show False
     omega
   have lz : ∀ u,Below W.heap.size W u → u.cell? ⟨wz.heap.size,0,none⟩ = some (.int .i64 x.term) ∧ u.cell? ⟨wz.heap.size,1,none⟩ = some (.int .i64 x.mem) ∧ u.cell? ⟨wz.heap.size,2,none⟩ = some (.string x.data) := fun u k => lx.out u k
   have HOwn : Hid (∀ b,(Value.slice to tn tc).ownBlock = some b → b ≠ wz.heap.size) := Lib.hid fun b e => by
    have := HRz.out.own_lt b e
    omega
   have HLz : Hid (wz.heap.size < W.heap.size) := Lib.hid (cell_lt a0)
   have HGr : Hid (∀ X y : World,Below W.heap.size W X → X.grownBy y (Value.slice to tn tc).ownBlock → y.cell? ⟨wz.heap.size,0,none⟩ = some (.int .i64 x.term) ∧ y.cell? ⟨wz.heap.size,1,none⟩ = some (.int .i64 x.mem) ∧ y.cell? ⟨wz.heap.size,2,none⟩ = some (.string x.data)) := Lib.hid fun X y bX gr => by
    have hb := gr.block wz.heap.size (Nat.lt_of_lt_of_le HLz.out bX.size) fun z => HOwn.out _ z.symm rfl
    obtain ⟨m0,m1,m2⟩ := lx.out X bX
    exact ⟨(Hd.cell_same hb _).trans m0,(Hd.cell_same hb _).trans m1,(Hd.cell_same hb _).trans m2⟩
   go_region_held3 (fun y => y.cell? ⟨wz.heap.size,0,none⟩ = some (.int .i64 x.term) ∧ y.cell? ⟨wz.heap.size,1,none⟩ = some (.int .i64 x.mem) ∧ y.cell? ⟨wz.heap.size,2,none⟩ = some (.string x.data)) (first | with_reducible assumption | (apply lz; repeat (first | with_reducible assumption | with_reducible apply below_box | with_reducible apply Below.drew | with_reducible exact Below.refl _ _ | omega)) | fail) (first | (go_at_call 130; refine (wl_record1 (some ⟨W.heap.size,0,none⟩) 3 3 [2,x.term,x.mem] _ (ints_block (b := W.heap.size) (by exact heap_alloc_new W _) HFt.out (by simp)) (by simp) (by simp)).mono ?_; rintro e u1 ⟨gr,L,rfl,hL,hb,hg,b1⟩; have s1 := bchain (by first | exact lb1.out _ | exact lb2.out _) b1; have t1 := lz _ s1; have C2 := Lib.hid (fun u (k : Below u1.heap.size u1 u) => HTx.out u gr L (bchain s1 k) hL (hb.below k)); clear hL hb hg b1) | (go_at_call 149; refine (C2.out _ (by first | exact Below.refl _ _ | assumption)).mono ?_; rintro e u2 ⟨g2,N2,rfl,b2,hz⟩; have HZ := Lib.hid (hz _ rfl); have s2 := below_box b2; have t2 := lz _ b2; clear hz C2) | (refine recs_step _ (by rfl) (.tmp 12) (.tmp 22) (by rfl) (.slice to tn tc) _ (by rfl) HZ.out.1 HZ.out.2.1 (some ⟨u2.heap.size,0,none⟩) 1 1 [(g2,pay (.ent x))] (by rfl) rfl (fun z => by cases z) (.inr ⟨_,rfl,HZ.out.2.2.1⟩) HZ.out.2.2.2 HFew.out ?_; intro v' y hR' hB' gr'; have HR' := Lib.hid hR'; have HB' := Lib.hid hB'; have t3 := HGr.out _ y (s2 _) gr'; clear hR' hB' gr') | fail)
   all_goals
    have HR2 : Hid (Recs w y v' (pays (ents (l.take (k + 1))))) := Lib.hid (by rw [HSt.out]; exact HR'.out)
    go_wp2
    go_roundw
    case rel => exact ⟨k + 1,by omega,by go_num,HR2,HB'⟩
    case measure => simp [intOf]; omega
  ·
   obtain rfl : k = n := by omega
   have HE : Hid (Recs w wz u3 (pays (ents l))) := Lib.hid (by
    have := HR.out
    rw [List.take_of_length_le (by have := HN.out; omega)] at this
    exact this)
   clear HR
   go_wp2_with fail
   go_ret
   exact ⟨_,rfl,HE.out,HB.out⟩
end Go.Proofs.YtlmjeackfepllaaGreatDoor.Wl
namespace Go.Proofs.YtlmjeackfepllaaGreatDoor.Wl
open Go.RowKit
open Mem Pk
theorem rec_one {u : World} (zs : List Int) (hf : ∀ z ∈ zs,Fit z) (hl : zs.length ≤ 100) (h0 : zs ≠ []) (p : List UInt8) (hp : nums zs = p) (n : Nat) (hn : n = zs.length) (cs : Array Value) (hcs : cs = (zs.map (Value.int .i64)).toArray) :
  Calls Tryz.prog 130 #[.slice (some ⟨u.heap.size,0,none⟩) n n] (u.alloc (.cells cs 3)) fun e u' => ∃ g L,e = .returned (.slice (some ⟨g,0,none⟩) L L) ∧ Below u.heap.size u u' ∧ ∀ q,q = .slice (some ⟨g,0,none⟩) L L →
   (u'.alloc (.cells #[q] 59)).heap[u'.heap.size]? = some (.cells #[Sq.val (g,p)] 59 (0,0)) ∧ By.Block (u'.alloc (.cells #[q] 59)) g p ∧ u.heap.size ≤ g ∧ g < u'.heap.size ∧ Below u.heap.size u (u'.alloc (.cells #[q] 59)) := by
 subst hp hn hcs
 have b0 : Below u.heap.size u (u.alloc (.cells (zs.map (Value.int .i64)).toArray 3)) := (Below.refl _ _).alloc (Nat.le_refl _) _
 refine (wl_record1 _ _ _ zs _ (ints_block (heap_alloc_new u _) hf (by omega)) (by omega) h0).mono ?_
 rintro e u' ⟨g,L,rfl,hL,hb,hg,b⟩
 have bu := bchain b0 b
 have ba : Below u'.heap.size u' (u'.alloc (.cells #[Sq.val (g,nums zs)] 59)) := (Below.refl _ _).alloc (Nat.le_refl _) _
 refine ⟨g,L,rfl,bu,fun q hq => ?_⟩
 have e : q = Sq.val (g,nums zs) := by
  rw [hq,hL]
  rfl
 rw [e]
 exact ⟨heap_alloc_new u' _,hb.below ba,Nat.le_trans b0.size hg,hb.lt,bchain bu ba⟩
theorem recs_lit {w X : World} {b g : Nat} {p : List UInt8} (hb : X.heap[b]? = some (.cells #[Sq.val (g,p)] 59 (0,0))) (hB : w.heap.size ≤ b) (hg : By.Block X g p) (hwg : w.heap.size ≤ g) (hne : g < b) : Recs w X (.slice (some ⟨b,0,none⟩) 1 1) [p] :=
 ⟨[(g,p)],⟨rfl,.inr ⟨b,1,#[Sq.val (g,p)],rfl,hB,hb,Nat.le_refl _,by have : maxLen = 9223372036854775807 := rfl; omega,rfl,rfl⟩⟩,rfl,fun q hq => by
  obtain rfl := List.mem_singleton.1 hq
  exact ⟨hg,hwg,fun z => by simp only [Value.ownBlock,Option.some.injEq] at z; omega⟩⟩
theorem recs_nil (w X : World) : Recs w X (.slice none 0 0) [] := ⟨[],Sq.own_nil _ _,rfl,fun q hq => (by cases hq)⟩
theorem one_src {X : World} {b g : Nat} {p : List UInt8} (hb : X.heap[b]? = some (.cells #[Sq.val (g,p)] 59 (0,0))) : ∀ k (hk : k < [(g,p)].length),X.cell? ⟨b,k,none⟩ = some (Sq.val [(g,p)][k]) := fun k hk => by
 obtain rfl : k = 0 := by simpa using hk
 rw [cell_of_row X b _ _ _ _ hb]
 rfl
theorem recs_src {w X : World} {v : Value} {qs : List (List UInt8)} (h : Recs w X v qs) : ∃ (ao : Option Addr) (n cap : Nat) (zs : List (Nat × List UInt8)),v = .slice ao n cap ∧ n = zs.length ∧ (ao = none → cap = 0) ∧ (zs = [] ∨ ∃ b,ao = some ⟨b,0,none⟩ ∧ ∀ k (hk : k < zs.length),X.cell? ⟨b,k,none⟩ = some (Sq.val zs[k])) ∧ zs.map Prod.snd = qs ∧ ∀ q ∈ zs,By.Block X q.1 q.2 ∧ w.heap.size ≤ q.1 := by
 obtain ⟨gs,a,b,c⟩ := h
 obtain ⟨ao,cap,e,h1,h2,h3⟩ := sq_row a
 refine ⟨ao,gs.length,cap,gs,e,rfl,fun z => ?_,?_,b,fun q hq => ⟨(c q hq).1,(c q hq).2.1⟩⟩
 ·
  subst z
  rcases a.2 with ⟨h',_⟩ | ⟨g,cap',cur,h',_⟩
  ·
   rw [e] at h'
   simp only [Value.slice.injEq] at h'
   exact h'.2.2
  ·
   rw [e] at h'
   simp at h'
 ·
  by_cases z : gs = []
  · exact .inl z
  ·
   refine .inr ?_
   have h0 : 0 < gs.length := List.length_pos_iff.2 z
   obtain ⟨g,e1,_⟩ := h3 0 h0
   refine ⟨g,e1,fun k hk => ?_⟩
   obtain ⟨g',e2,hc⟩ := h3 k hk
   rw [e1] at e2
   cases e2
   exact hc
theorem pays_app (a b : List Rec) : pays (a ++ b) = pays a ++ pays b := List.map_append
theorem ents_len (l : List Et.T) : (pays (ents l)).length = l.length := by
 unfold pays ents
 rw [List.length_map,List.length_map]
def PaysE (w : World) (l : List Rec) (e : Ending) (w' : World) : Prop := ∃ v,e = .returned v ∧ Recs w w' v (pays l) ∧ Below w.heap.size w w'
theorem pay_beg (t v b c m : Int) : nums [1,t,v,b,c,m] = pay (.beg t v b c m) := by simp [nums,pay]
theorem pay_rdy : nums [3] = pay .rdy := by simp [nums,pay]
theorem pay_vot (t v : Int) : nums [4,t,v] = pay (.vot t v) := by simp [nums,pay]
theorem pay_cut (n : Int) : nums [5,n] = pay (.cut n) := by simp [nums,pay]
def HFit (r : Hd.T) : Prop := Fit r.term ∧ Fit r.vote ∧ Fit r.base ∧ Fit r.bt ∧ Fit r.mem
set_option maxHeartbeats 4000000 in
theorem wl_whole (r : Hd.T) (l : List Et.T) (w : World) (hl : Et.Ls w r.log.ao r.log.n r.log.cap l) (hd : ∀ e ∈ l,e.data.size ≤ 1100) (hn : l.length ≤ 1000) (hf : HFit r) :
  Calls Tryz.prog 98 #[Hd.val r] w (PaysE w (whole (Hd.h r l))) := by
 obtain ⟨⟨ao,n,cap⟩,hlog⟩ : ∃ s,r.log = s := ⟨_,rfl⟩
 rw [hlog] at hl
 dsimp only at hl
 have HL := Lib.hid hl
 have HD := Lib.hid hd
 have HN : Hid (n = l.length ∧ l.length ≤ 1000) := Lib.hid ⟨hl.len,hn⟩
 have hnn : n ≤ 1000 := by have := hl.len; omega
 have HW : Hid (whole (Hd.h r l) = [.beg r.term r.vote r.base r.bt r.mem] ++ ents l ++ [.rdy]) := Lib.hid (by unfold whole Hd.h; simp)
 have HZ : Hid (∀ z ∈ [1,r.term,r.vote,r.base,r.bt,r.mem],Fit z) := Lib.hid (by
  intro z hz
  obtain ⟨f1,f2,f3,f4,f5⟩ := hf
  simp only [List.mem_cons,List.not_mem_nil,or_false] at hz
  rcases hz with rfl | rfl | rfl | rfl | rfl | rfl
  · exact ⟨by decide,by decide⟩
  all_goals assumption)
 have HZ3 : Hid (∀ z ∈ [(3 : Int)],Fit z) := Lib.hid (by
  intro z hz
  rw [List.mem_singleton.1 hz]
  exact ⟨by decide,by decide⟩)
 obtain ⟨W,hW,hbW,hC⟩ := Hd.boxed1 w r
 have HBW := Lib.hid hbW
 have HC := Lib.hid hC
 have HLg := Lib.hid hlog
 unfold Hd.C at hC
 rw [hlog] at hC hW
 dsimp only at hC hW
 obtain ⟨a0,a1,a2,a3,a4,a5,a6⟩ := hC
 unfold Hd.val
 rw [hlog]
 dsimp only
 clear hl hd hn hf hlog hbW
 go_enter Tryz.func98,Tryz.ntmps98
 go_wp2_with fail
 refine (rec_one (u := W) [1,r.term,r.vote,r.base,r.bt,r.mem] HZ.out (by simp) (by simp) _ (pay_beg _ _ _ _ _) 6 rfl _ rfl).mono ?_
 rintro e u1 ⟨g1,L1,rfl,b1,h1⟩
 obtain ⟨k1,k2,k3,k4,k5⟩ := h1 _ rfl
 have HR1 := Lib.hid (recs_lit (w := w) k1 (Nat.le_trans HBW.out.size b1.size) k2 (Nat.le_trans HBW.out.size k3) k4)
 have HX1 := Lib.hid (bchain HBW.out k5)
 have hC1 := HC.out.below k5
 unfold Hd.C at hC1
 rw [HLg.out] at hC1
 dsimp only at hC1
 obtain ⟨d0,d1,d2,d3,d4,d5,d6⟩ := hC1
 have CE := Lib.hid (wl_entries ao n cap l _ (HL.out.below HX1.out) HD.out hnn)
 clear k1 k2 k3 k4 k5 h1 b1 a0 a1 a2 a3 a4 a5 a6 hW
 go_wp2_with fail
 refine CE.out.mono ?_
 rintro e u2 ⟨v2,rfl,r2,b2⟩
 obtain ⟨ao2,n2,cap2,zs,rfl,e2,e3,e4,e5,e6⟩ := recs_src r2
 have HR2 := Lib.hid (HR1.out.below b2)
 have HX2 := Lib.hid (bchain HX1.out b2)
 have HS2 := Lib.hid (And.intro e2 (And.intro e3 e4))
 have HE5 := Lib.hid e5
 have HE6 : Hid (∀ q ∈ zs,By.Block u2 q.1 q.2 ∧ w.heap.size ≤ q.1 ∧ (Value.slice (some ⟨u1.heap.size,0,none⟩) 1 1).ownBlock ≠ some q.1) := Lib.hid fun q hq => by
  obtain ⟨x1,x2⟩ := e6 q hq
  refine ⟨x1,Nat.le_trans HX1.out.size x2,fun z => ?_⟩
  have := HR1.out.own_lt _ z
  omega
 have HFw : Hid (([pay (.beg r.term r.vote r.base r.bt r.mem)] : List (List UInt8)).length + n2 ≤ 100000) := Lib.hid (by
  have h1 := congrArg List.length HE5.out
  rw [List.length_map,ents_len] at h1
  have := HN.out.2
  rw [HS2.out.1,h1]
  simp only [List.length_singleton]
  omega)
 clear r2 b2 e2 e3 e4 e5 e6 CE d0 d1 d2 d3 d4 d5 d6
 go_wp2_with (at_builtin; go_must (refine recs_list u2 rfl (.tmp 17) (.tmp 20) rfl (.slice (some ⟨u1.heap.size,0,none⟩) 1 1) _ rfl HR2.out HX2.out ao2 n2 cap2 zs rfl HS2.out.1 HS2.out.2.1 HS2.out.2.2 HE6.out HFw.out ?_))
 intro v3 u3 r3 b3 _
 rw [HE5.out] at r3
 have HR3 := Lib.hid r3
 have HX3 := Lib.hid b3
 clear r3 b3
 go_wp2_with fail
 refine (rec_one (u := u3) [3] HZ3.out (by simp) (by simp) _ pay_rdy 1 rfl _ rfl).mono ?_
 rintro e u4 ⟨g4,L4,rfl,b4,h4⟩
 obtain ⟨k1,k2,k3,k4,k5⟩ := h4 _ rfl
 have HR4 := Lib.hid (HR3.out.below k5)
 have HX4 := Lib.hid (bchain HX3.out k5)
 have HS4 := Lib.hid (one_src k1)
 have HE4 : Hid (∀ q ∈ [(g4,pay .rdy)],By.Block (u4.alloc (.cells #[.slice (some ⟨g4,0,none⟩) L4 L4] 59)) q.1 q.2 ∧ w.heap.size ≤ q.1 ∧ v3.ownBlock ≠ some q.1) := Lib.hid fun q hq => by
  obtain rfl := List.mem_singleton.1 hq
  refine ⟨k2,Nat.le_trans HX3.out.size k3,fun z => ?_⟩
  have := HR3.out.own_lt _ z
  omega
 have HF4 : Hid (([pay (.beg r.term r.vote r.base r.bt r.mem)] ++ pays (ents l)).length + 1 ≤ 100000) := Lib.hid (by
  rw [List.length_append,ents_len]
  have := HN.out.2
  simp only [List.length_singleton]
  omega)
 clear k1 k2 k3 k4 k5 h4 b4
 go_wp2_with (at_builtin; go_must (refine recs_list _ rfl (.tmp 22) (.tmp 25) rfl v3 _ rfl HR4.out HX4.out (some ⟨u4.heap.size,0,none⟩) 1 1 [(g4,pay .rdy)] rfl rfl (fun z => by cases z) (.inr ⟨_,rfl,HS4.out⟩) HE4.out HF4.out ?_))
 intro v5 u5 r5 b5 _
 have HR5 : Hid (PaysE w (whole (Hd.h r l)) (.returned v5) u5) := Lib.hid ⟨v5,rfl,by rw [HW.out,pays_app,pays_app]; exact r5,b5⟩
 clear r5 b5
 go_wp2_with fail
 go_ret
 exact HR5.out
end Go.Proofs.YtlmjeackfepllaaGreatDoor.Wl
namespace Go.Proofs.YtlmjeackfepllaaGreatDoor.Wl
open Go.RowKit
open Mem Pk
theorem Recs.since {w W u : World} {v : Value} {ps : List (List UInt8)} (h : Recs W u v ps) (k : w.heap.size ≤ W.heap.size) : Recs w u v ps := by
 obtain ⟨gs,a,b,c⟩ := h
 refine ⟨gs,?_,b,fun q hq => ⟨(c q hq).1,Nat.le_trans k (c q hq).2.1,(c q hq).2.2⟩⟩
 obtain ⟨h1,h2⟩ := a
 refine ⟨h1,?_⟩
 rcases h2 with h2 | ⟨g,cap,cur,h',hb,h3⟩
 · exact .inl h2
 · exact .inr ⟨g,cap,cur,h',by omega,h3⟩
set_option maxHeartbeats 8000000 in
theorem wl_change (r r' : Hd.T) (l l' : List Et.T) (w : World) (hl : Et.Ls w r.log.ao r.log.n r.log.cap l) (hl' : Et.Ls w r'.log.ao r'.log.n r'.log.cap l') (hd : ∀ e ∈ l',e.data.size ≤ 1100) (hn : l.length ≤ 1000) (hn' : l'.length ≤ 1000) (hf : HFit r') (hb : 0 ≤ r'.base ∧ r'.base ≤ 1099511627776) :
  Calls Tryz.prog 95 #[Hd.val r,Hd.val r'] w (PaysE w (change (Hd.h r l) (Hd.h r' l'))) := by
 obtain ⟨⟨ao,n,cap⟩,hlog⟩ : ∃ s,r.log = s := ⟨_,rfl⟩
 obtain ⟨⟨ao',n',cap'⟩,hlog'⟩ : ∃ s,r'.log = s := ⟨_,rfl⟩
 rw [hlog] at hl
 rw [hlog'] at hl'
 dsimp only at hl hl'
 have HL := Lib.hid hl
 have HL' := Lib.hid hl'
 have HD := Lib.hid hd
 have HN : Hid ((n = l.length ∧ l.length ≤ 1000) ∧ n' = l'.length ∧ l'.length ≤ 1000) := Lib.hid ⟨⟨hl.len,hn⟩,hl'.len,hn'⟩
 have hnn : n ≤ 1000 := by have := hl.len; omega
 have hnn' : n' ≤ 1000 := by have := hl'.len; omega
 have hcap' := hl'.reach
 have hfit' := hl'.fits
 obtain ⟨al,hal⟩ : ∃ al,begun l l' = al := ⟨_,rfl⟩
 have hle := begun_le l l'
 rw [hal] at hle
 have hal1 : al ≤ n := by have := hl.len; omega
 have hal2 : al ≤ n' := by have := hl'.len; omega
 have HW : Hid (change (Hd.h r l) (Hd.h r' l') = (if r'.term ≠ r.term ∨ r'.vote ≠ r.vote then [.vot r'.term r'.vote] else []) ++ ((if al < n then [.cut (r'.base + (al : Int))] else []) ++ ents (l'.drop al))) := Lib.hid (by
  unfold change Hd.h
  simp only [hal]
  rw [hl.len])
 have HZv : Hid (∀ z ∈ [4,r'.term,r'.vote],Fit z) := Lib.hid (by
  intro z hz
  obtain ⟨f1,f2,_⟩ := hf
  simp only [List.mem_cons,List.not_mem_nil,or_false] at hz
  rcases hz with rfl | rfl | rfl
  · exact ⟨by decide,by decide⟩
  all_goals assumption)
 have hsum : IntKind.i64.wrap (r'.base + (al : Int)) = r'.base + (al : Int) := by rw [IntKind.wrap_i64]; omega
 have HZc : Hid (∀ z ∈ [5,r'.base + (al : Int)],Fit z) := Lib.hid (by
  intro z hz
  simp only [List.mem_cons,List.not_mem_nil,or_false] at hz
  rcases hz with rfl | rfl
  · exact ⟨by decide,by decide⟩
  · exact ⟨by omega,by omega⟩)
 obtain ⟨ao2,cap2,hsl,hL2⟩ := hl'.from al hal2
 have hcap2 := hL2.reach
 have hfit2 := hL2.fits
 obtain ⟨j,hj⟩ : ∃ j,n' - al = j := ⟨_,rfl⟩
 rw [hj] at hsl hL2 hfit2
 have hj1 : j ≤ 1000 := by omega
 have HL2 := Lib.hid hL2
 have HD2 : Hid (∀ e ∈ l'.drop al,e.data.size ≤ 1100) := Lib.hid fun e he => HD.out e (List.mem_of_mem_drop he)
 obtain ⟨W0,hW0,hbW0,hC0⟩ := Hd.boxed1 w r
 obtain ⟨W,hW,hbW,hC'⟩ := Hd.boxed1 W0 r'
 have hC := hC0.below hbW
 have HBW := Lib.hid (bchain hbW0 hbW)
 have HC := Lib.hid hC
 have HC' := Lib.hid hC'
 have HLg := Lib.hid hlog
 have HLg' := Lib.hid hlog'
 have CB := Lib.hid (fun u (k : Below w.heap.size w u) => wl_begun ao ao' n n' cap cap' l l' u (hl.below k) (hl'.below k))
 rw [hal] at CB
 unfold Hd.C at hC hC'
 rw [hlog] at hC hW0
 rw [hlog'] at hC' hW
 dsimp only at hC hC' hW hW0
 obtain ⟨a0,a1,a2,a3,a4,a5,a6⟩ := hC
 obtain ⟨b0,b1,b2,b3,b4,b5,b6⟩ := hC'
 unfold Hd.val
 rw [hlog,hlog']
 dsimp only
 have HAl : Hid (al ≤ l.length ∧ al ≤ l'.length) := Lib.hid hle
 clear hl hl' hd hn hn' hf hlog hlog' hbW hbW0 hC0 hL2 hle hal hb
 by_cases ht : r'.term = r.term
 ·
  have q1 : (r'.term != r.term) = false := by rw [ht]; exact bne_self_eq_false _
  by_cases hv : r'.vote = r.vote
  ·
   have q2 : (r'.vote != r.vote) = false := by rw [hv]; exact bne_self_eq_false _
   have HCd : Hid (¬ (r'.term ≠ r.term ∨ r'.vote ≠ r.vote)) := Lib.hid fun z => z.elim (fun z => z ht) fun z => z hv
   clear ht hv
   go_enter Tryz.func95,Tryz.ntmps95
   go_wp2_with fail
   refine (CB.out W (bchain HBW.out (Below.refl W.heap.size W))).mono ?_
   rintro e uB ⟨rfl,bq⟩
   have HXB := Lib.hid (bchain (Below.refl W.heap.size W) bq)
   have hB := HC.out.below HXB.out
   have kB := HC'.out.below HXB.out
   unfold Hd.C at hB kB
   rw [HLg.out] at hB
   rw [HLg'.out] at kB
   dsimp only at hB kB
   obtain ⟨mB0,mB1,mB2,mB3,mB4,mB5,mB6⟩ := hB
   obtain ⟨nB0,nB1,nB2,nB3,nB4,nB5,nB6⟩ := kB
   have HRB := Lib.hid (Recs.below (recs_nil W W) bq)
   clear bq
   by_cases hc : al < n
   ·
    go_wp2_with fail
    refine (rec_one (u := uB) [5,r'.base + (al : Int)] HZc.out (by simp) (by simp) _ (pay_cut _) 2 rfl _ rfl).mono ?_
    rintro e yC ⟨gC,LC,rfl,bbC,hC⟩
    obtain ⟨k1,k2,k3,k4,k5⟩ := hC _ rfl
    have HRaC := Lib.hid (Recs.below HRB.out k5)
    have HXaC := Lib.hid (bchain HXB.out k5)
    have HSaC := Lib.hid (one_src k1)
    have HEaC : Hid (∀ q ∈ [(gC,pay (Rec.cut (r'.base + (al : Int))))],By.Block (yC.alloc (.cells #[.slice (some ⟨gC,0,none⟩) LC LC] 59)) q.1 q.2 ∧ W.heap.size ≤ q.1 ∧ (.slice none 0 0 : Value).ownBlock ≠ some q.1) := Lib.hid fun q hq => by
     obtain rfl := List.mem_singleton.1 hq
     have hs2 := Below.size HXB.out
     refine ⟨k2,by omega,fun z => ?_⟩
     have := Recs.own_lt HRB.out _ z
     omega
    clear k1 k2 k3 k4 k5 hC bbC
    go_wp2_with (at_builtin; go_must (refine recs_list _ rfl (.tmp 38) (.tmp 45) rfl (.slice none 0 0) _ rfl HRaC.out HXaC.out (some ⟨yC.heap.size,0,none⟩) 1 1 [(gC,pay (Rec.cut (r'.base + (al : Int))))] rfl rfl (fun z => by cases z) (.inr ⟨_,rfl,HSaC.out⟩) HEaC.out (by simp) ?_))
    intro vC uC rC bC _
    have HRC := Lib.hid rC
    have HXC := Lib.hid bC
    clear rC bC
    have hC := HC.out.below HXC.out
    have kC := HC'.out.below HXC.out
    unfold Hd.C at hC kC
    rw [HLg.out] at hC
    rw [HLg'.out] at kC
    dsimp only at hC kC
    obtain ⟨mC0,mC1,mC2,mC3,mC4,mC5,mC6⟩ := hC
    obtain ⟨nC0,nC1,nC2,nC3,nC4,nC5,nC6⟩ := kC
    clear mB0 mB1 mB2 mB3 mB4 mB5 mB6 nB0 nB1 nB2 nB3 nB4 nB5 nB6
    have CE := Lib.hid (wl_entries ao2 j cap2 (l'.drop al) uC (HL2.out.below (bchain HBW.out HXC.out)) HD2.out hj1)
    go_wp2_with fail
    refine CE.out.mono ?_
    rintro e uE ⟨vE,rfl,rE,bE⟩
    obtain ⟨ao3,n3,cap3,zs,rfl,e2,e3,e4,e5,e6⟩ := recs_src rE
    have HRE := Lib.hid (Recs.below HRC.out bE)
    have HXE := Lib.hid (bchain HXC.out bE)
    have HSE := Lib.hid (And.intro e2 (And.intro e3 e4))
    have HE5 := Lib.hid e5
    have HE6 : Hid (∀ q ∈ zs,By.Block uE q.1 q.2 ∧ W.heap.size ≤ q.1 ∧ (vC : Value).ownBlock ≠ some q.1) := Lib.hid fun q hq => by
     obtain ⟨x1,x2⟩ := e6 q hq
     refine ⟨x1,Nat.le_trans (Below.size HXC.out) x2,fun z => ?_⟩
     have := Recs.own_lt HRC.out _ z
     omega
    have HFw : Hid ((([] : List (List UInt8)) ++ List.map Prod.snd [(gC,pay (Rec.cut (r'.base + (al : Int))))] : List (List UInt8)).length + n3 ≤ 100000) := Lib.hid (by
     have h1 := congrArg List.length HE5.out
     rw [List.length_map,ents_len,List.length_drop] at h1
     have := HN.out.2
     rw [HSE.out.1,h1]
     simp
     omega)
    clear rE bE e2 e3 e4 e5 e6 CE
    go_wp2_with (at_builtin; go_must (refine recs_list uE rfl (.tmp 47) (.tmp 52) rfl (vC) _ rfl HRE.out HXE.out ao3 n3 cap3 zs rfl HSE.out.1 HSE.out.2.1 HSE.out.2.2 HE6.out HFw.out ?_))
    intro vF uF rF bF _
    rw [HE5.out] at rF
    have HRF : Hid (PaysE w (change (Hd.h r l) (Hd.h r' l')) (.returned vF) uF) := Lib.hid ⟨vF,rfl,Recs.since (by rw [HW.out,if_neg HCd.out,if_pos hc]; simpa [pays] using rF) HBW.out.size,bchain HBW.out bF⟩
    clear rF bF
    go_wp2_with fail
    go_ret
    exact HRF.out
   ·
    have CE := Lib.hid (wl_entries ao2 j cap2 (l'.drop al) uB (HL2.out.below (bchain HBW.out HXB.out)) HD2.out hj1)
    go_wp2_with fail
    refine CE.out.mono ?_
    rintro e uE ⟨vE,rfl,rE,bE⟩
    obtain ⟨ao3,n3,cap3,zs,rfl,e2,e3,e4,e5,e6⟩ := recs_src rE
    have HRE := Lib.hid (Recs.below HRB.out bE)
    have HXE := Lib.hid (bchain HXB.out bE)
    have HSE := Lib.hid (And.intro e2 (And.intro e3 e4))
    have HE5 := Lib.hid e5
    have HE6 : Hid (∀ q ∈ zs,By.Block uE q.1 q.2 ∧ W.heap.size ≤ q.1 ∧ (.slice none 0 0 : Value).ownBlock ≠ some q.1) := Lib.hid fun q hq => by
     obtain ⟨x1,x2⟩ := e6 q hq
     refine ⟨x1,Nat.le_trans (Below.size HXB.out) x2,fun z => ?_⟩
     have := Recs.own_lt HRB.out _ z
     omega
    have HFw : Hid ((([] : List (List UInt8)) : List (List UInt8)).length + n3 ≤ 100000) := Lib.hid (by
     have h1 := congrArg List.length HE5.out
     rw [List.length_map,ents_len,List.length_drop] at h1
     have := HN.out.2
     rw [HSE.out.1,h1]
     simp
     omega)
    clear rE bE e2 e3 e4 e5 e6 CE
    go_wp2_with (at_builtin; go_must (refine recs_list uE rfl (.tmp 47) (.tmp 52) rfl (.slice none 0 0) _ rfl HRE.out HXE.out ao3 n3 cap3 zs rfl HSE.out.1 HSE.out.2.1 HSE.out.2.2 HE6.out HFw.out ?_))
    intro vF uF rF bF _
    rw [HE5.out] at rF
    have HRF : Hid (PaysE w (change (Hd.h r l) (Hd.h r' l')) (.returned vF) uF) := Lib.hid ⟨vF,rfl,Recs.since (by rw [HW.out,if_neg HCd.out,if_neg hc]; simpa [pays] using rF) HBW.out.size,bchain HBW.out bF⟩
    clear rF bF
    go_wp2_with fail
    go_ret
    exact HRF.out
  ·
   have q2 : (r'.vote != r.vote) = true := bne_iff_ne.2 hv
   have HCd : Hid (r'.term ≠ r.term ∨ r'.vote ≠ r.vote) := Lib.hid (.inr hv)
   clear ht hv
   go_enter Tryz.func95,Tryz.ntmps95
   go_wp2_with fail
   refine (rec_one (u := W) [4,r'.term,r'.vote] HZv.out (by simp) (by simp) _ (pay_vot _ _) 3 rfl _ rfl).mono ?_
   rintro e yV ⟨gV,LV,rfl,bbV,hV⟩
   obtain ⟨k1,k2,k3,k4,k5⟩ := hV _ rfl
   have HRaV := Lib.hid (Recs.below (recs_nil W W) k5)
   have HXaV := Lib.hid (bchain (Below.refl W.heap.size W) k5)
   have HSaV := Lib.hid (one_src k1)
   have HEaV : Hid (∀ q ∈ [(gV,pay (Rec.vot r'.term r'.vote))],By.Block (yV.alloc (.cells #[.slice (some ⟨gV,0,none⟩) LV LV] 59)) q.1 q.2 ∧ W.heap.size ≤ q.1 ∧ (.slice none 0 0 : Value).ownBlock ≠ some q.1) := Lib.hid fun q hq => by
    obtain rfl := List.mem_singleton.1 hq
    have hs2 := Below.size (Below.refl W.heap.size W)
    refine ⟨k2,by omega,fun z => ?_⟩
    have := Recs.own_lt (recs_nil W W) _ z
    omega
   clear k1 k2 k3 k4 k5 hV bbV
   go_wp2_with (at_builtin; go_must (refine recs_list _ rfl (.tmp 19) (.tmp 26) rfl (.slice none 0 0) [] rfl HRaV.out HXaV.out (some ⟨yV.heap.size,0,none⟩) 1 1 [(gV,pay (Rec.vot r'.term r'.vote))] rfl rfl (fun z => by cases z) (.inr ⟨_,rfl,HSaV.out⟩) HEaV.out (by simp) ?_))
   intro vV uV rV bV _
   have HRV := Lib.hid rV
   have HXV := Lib.hid bV
   clear rV bV
   have hV := HC.out.below HXV.out
   have kV := HC'.out.below HXV.out
   unfold Hd.C at hV kV
   rw [HLg.out] at hV
   rw [HLg'.out] at kV
   dsimp only at hV kV
   obtain ⟨mV0,mV1,mV2,mV3,mV4,mV5,mV6⟩ := hV
   obtain ⟨nV0,nV1,nV2,nV3,nV4,nV5,nV6⟩ := kV
   clear a0 a1 a2 a3 a4 a5 a6 b0 b1 b2 b3 b4 b5 b6 hW hW0
   go_wp2_with fail
   refine (CB.out uV (bchain HBW.out HXV.out)).mono ?_
   rintro e uB ⟨rfl,bq⟩
   have HXB := Lib.hid (bchain HXV.out bq)
   have hB := HC.out.below HXB.out
   have kB := HC'.out.below HXB.out
   unfold Hd.C at hB kB
   rw [HLg.out] at hB
   rw [HLg'.out] at kB
   dsimp only at hB kB
   obtain ⟨mB0,mB1,mB2,mB3,mB4,mB5,mB6⟩ := hB
   obtain ⟨nB0,nB1,nB2,nB3,nB4,nB5,nB6⟩ := kB
   have HRB := Lib.hid (Recs.below HRV.out bq)
   clear bq
   by_cases hc : al < n
   ·
    go_wp2_with fail
    refine (rec_one (u := uB) [5,r'.base + (al : Int)] HZc.out (by simp) (by simp) _ (pay_cut _) 2 rfl _ rfl).mono ?_
    rintro e yC ⟨gC,LC,rfl,bbC,hC⟩
    obtain ⟨k1,k2,k3,k4,k5⟩ := hC _ rfl
    have HRaC := Lib.hid (Recs.below HRB.out k5)
    have HXaC := Lib.hid (bchain HXB.out k5)
    have HSaC := Lib.hid (one_src k1)
    have HEaC : Hid (∀ q ∈ [(gC,pay (Rec.cut (r'.base + (al : Int))))],By.Block (yC.alloc (.cells #[.slice (some ⟨gC,0,none⟩) LC LC] 59)) q.1 q.2 ∧ W.heap.size ≤ q.1 ∧ (vV : Value).ownBlock ≠ some q.1) := Lib.hid fun q hq => by
     obtain rfl := List.mem_singleton.1 hq
     have hs2 := Below.size HXB.out
     refine ⟨k2,by omega,fun z => ?_⟩
     have := Recs.own_lt HRB.out _ z
     omega
    clear k1 k2 k3 k4 k5 hC bbC
    go_wp2_with (at_builtin; go_must (refine recs_list _ rfl (.tmp 38) (.tmp 45) rfl (vV) _ rfl HRaC.out HXaC.out (some ⟨yC.heap.size,0,none⟩) 1 1 [(gC,pay (Rec.cut (r'.base + (al : Int))))] rfl rfl (fun z => by cases z) (.inr ⟨_,rfl,HSaC.out⟩) HEaC.out (by simp) ?_))
    intro vC uC rC bC _
    have HRC := Lib.hid rC
    have HXC := Lib.hid bC
    clear rC bC
    have hC := HC.out.below HXC.out
    have kC := HC'.out.below HXC.out
    unfold Hd.C at hC kC
    rw [HLg.out] at hC
    rw [HLg'.out] at kC
    dsimp only at hC kC
    obtain ⟨mC0,mC1,mC2,mC3,mC4,mC5,mC6⟩ := hC
    obtain ⟨nC0,nC1,nC2,nC3,nC4,nC5,nC6⟩ := kC
    clear mB0 mB1 mB2 mB3 mB4 mB5 mB6 nB0 nB1 nB2 nB3 nB4 nB5 nB6
    have CE := Lib.hid (wl_entries ao2 j cap2 (l'.drop al) uC (HL2.out.below (bchain HBW.out HXC.out)) HD2.out hj1)
    go_wp2_with fail
    refine CE.out.mono ?_
    rintro e uE ⟨vE,rfl,rE,bE⟩
    obtain ⟨ao3,n3,cap3,zs,rfl,e2,e3,e4,e5,e6⟩ := recs_src rE
    have HRE := Lib.hid (Recs.below HRC.out bE)
    have HXE := Lib.hid (bchain HXC.out bE)
    have HSE := Lib.hid (And.intro e2 (And.intro e3 e4))
    have HE5 := Lib.hid e5
    have HE6 : Hid (∀ q ∈ zs,By.Block uE q.1 q.2 ∧ W.heap.size ≤ q.1 ∧ (vC : Value).ownBlock ≠ some q.1) := Lib.hid fun q hq => by
     obtain ⟨x1,x2⟩ := e6 q hq
     refine ⟨x1,Nat.le_trans (Below.size HXC.out) x2,fun z => ?_⟩
     have := Recs.own_lt HRC.out _ z
     omega
    have HFw : Hid ((([] ++ List.map Prod.snd [(gV,pay (Rec.vot r'.term r'.vote))]) ++ List.map Prod.snd [(gC,pay (Rec.cut (r'.base + (al : Int))))] : List (List UInt8)).length + n3 ≤ 100000) := Lib.hid (by
     have h1 := congrArg List.length HE5.out
     rw [List.length_map,ents_len,List.length_drop] at h1
     have := HN.out.2
     rw [HSE.out.1,h1]
     simp
     omega)
    clear rE bE e2 e3 e4 e5 e6 CE
    go_wp2_with (at_builtin; go_must (refine recs_list uE rfl (.tmp 47) (.tmp 52) rfl (vC) _ rfl HRE.out HXE.out ao3 n3 cap3 zs rfl HSE.out.1 HSE.out.2.1 HSE.out.2.2 HE6.out HFw.out ?_))
    intro vF uF rF bF _
    rw [HE5.out] at rF
    have HRF : Hid (PaysE w (change (Hd.h r l) (Hd.h r' l')) (.returned vF) uF) := Lib.hid ⟨vF,rfl,Recs.since (by rw [HW.out,if_pos HCd.out,if_pos hc]; simpa [pays] using rF) HBW.out.size,bchain HBW.out bF⟩
    clear rF bF
    go_wp2_with fail
    go_ret
    exact HRF.out
   ·
    have CE := Lib.hid (wl_entries ao2 j cap2 (l'.drop al) uB (HL2.out.below (bchain HBW.out HXB.out)) HD2.out hj1)
    go_wp2_with fail
    refine CE.out.mono ?_
    rintro e uE ⟨vE,rfl,rE,bE⟩
    obtain ⟨ao3,n3,cap3,zs,rfl,e2,e3,e4,e5,e6⟩ := recs_src rE
    have HRE := Lib.hid (Recs.below HRB.out bE)
    have HXE := Lib.hid (bchain HXB.out bE)
    have HSE := Lib.hid (And.intro e2 (And.intro e3 e4))
    have HE5 := Lib.hid e5
    have HE6 : Hid (∀ q ∈ zs,By.Block uE q.1 q.2 ∧ W.heap.size ≤ q.1 ∧ (vV : Value).ownBlock ≠ some q.1) := Lib.hid fun q hq => by
     obtain ⟨x1,x2⟩ := e6 q hq
     refine ⟨x1,Nat.le_trans (Below.size HXB.out) x2,fun z => ?_⟩
     have := Recs.own_lt HRB.out _ z
     omega
    have HFw : Hid ((([] ++ List.map Prod.snd [(gV,pay (Rec.vot r'.term r'.vote))]) : List (List UInt8)).length + n3 ≤ 100000) := Lib.hid (by
     have h1 := congrArg List.length HE5.out
     rw [List.length_map,ents_len,List.length_drop] at h1
     have := HN.out.2
     rw [HSE.out.1,h1]
     simp
     omega)
    clear rE bE e2 e3 e4 e5 e6 CE
    go_wp2_with (at_builtin; go_must (refine recs_list uE rfl (.tmp 47) (.tmp 52) rfl (vV) _ rfl HRE.out HXE.out ao3 n3 cap3 zs rfl HSE.out.1 HSE.out.2.1 HSE.out.2.2 HE6.out HFw.out ?_))
    intro vF uF rF bF _
    rw [HE5.out] at rF
    have HRF : Hid (PaysE w (change (Hd.h r l) (Hd.h r' l')) (.returned vF) uF) := Lib.hid ⟨vF,rfl,Recs.since (by rw [HW.out,if_pos HCd.out,if_neg hc]; simpa [pays] using rF) HBW.out.size,bchain HBW.out bF⟩
    clear rF bF
    go_wp2_with fail
    go_ret
    exact HRF.out
 ·
  have q1 : (r'.term != r.term) = true := bne_iff_ne.2 ht
  have HCd : Hid (r'.term ≠ r.term ∨ r'.vote ≠ r.vote) := Lib.hid (.inl ht)
  clear ht
  go_enter Tryz.func95,Tryz.ntmps95
  go_wp2_with fail
  refine (rec_one (u := W) [4,r'.term,r'.vote] HZv.out (by simp) (by simp) _ (pay_vot _ _) 3 rfl _ rfl).mono ?_
  rintro e yV ⟨gV,LV,rfl,bbV,hV⟩
  obtain ⟨k1,k2,k3,k4,k5⟩ := hV _ rfl
  have HRaV := Lib.hid (Recs.below (recs_nil W W) k5)
  have HXaV := Lib.hid (bchain (Below.refl W.heap.size W) k5)
  have HSaV := Lib.hid (one_src k1)
  have HEaV : Hid (∀ q ∈ [(gV,pay (Rec.vot r'.term r'.vote))],By.Block (yV.alloc (.cells #[.slice (some ⟨gV,0,none⟩) LV LV] 59)) q.1 q.2 ∧ W.heap.size ≤ q.1 ∧ (.slice none 0 0 : Value).ownBlock ≠ some q.1) := Lib.hid fun q hq => by
   obtain rfl := List.mem_singleton.1 hq
   have hs2 := Below.size (Below.refl W.heap.size W)
   refine ⟨k2,by omega,fun z => ?_⟩
   have := Recs.own_lt (recs_nil W W) _ z
   omega
  clear k1 k2 k3 k4 k5 hV bbV
  go_wp2_with (at_builtin; go_must (refine recs_list _ rfl (.tmp 19) (.tmp 26) rfl (.slice none 0 0) [] rfl HRaV.out HXaV.out (some ⟨yV.heap.size,0,none⟩) 1 1 [(gV,pay (Rec.vot r'.term r'.vote))] rfl rfl (fun z => by cases z) (.inr ⟨_,rfl,HSaV.out⟩) HEaV.out (by simp) ?_))
  intro vV uV rV bV _
  have HRV := Lib.hid rV
  have HXV := Lib.hid bV
  clear rV bV
  have hV := HC.out.below HXV.out
  have kV := HC'.out.below HXV.out
  unfold Hd.C at hV kV
  rw [HLg.out] at hV
  rw [HLg'.out] at kV
  dsimp only at hV kV
  obtain ⟨mV0,mV1,mV2,mV3,mV4,mV5,mV6⟩ := hV
  obtain ⟨nV0,nV1,nV2,nV3,nV4,nV5,nV6⟩ := kV
  clear a0 a1 a2 a3 a4 a5 a6 b0 b1 b2 b3 b4 b5 b6 hW hW0
  go_wp2_with fail
  refine (CB.out uV (bchain HBW.out HXV.out)).mono ?_
  rintro e uB ⟨rfl,bq⟩
  have HXB := Lib.hid (bchain HXV.out bq)
  have hB := HC.out.below HXB.out
  have kB := HC'.out.below HXB.out
  unfold Hd.C at hB kB
  rw [HLg.out] at hB
  rw [HLg'.out] at kB
  dsimp only at hB kB
  obtain ⟨mB0,mB1,mB2,mB3,mB4,mB5,mB6⟩ := hB
  obtain ⟨nB0,nB1,nB2,nB3,nB4,nB5,nB6⟩ := kB
  have HRB := Lib.hid (Recs.below HRV.out bq)
  clear bq
  by_cases hc : al < n
  ·
   go_wp2_with fail
   refine (rec_one (u := uB) [5,r'.base + (al : Int)] HZc.out (by simp) (by simp) _ (pay_cut _) 2 rfl _ rfl).mono ?_
   rintro e yC ⟨gC,LC,rfl,bbC,hC⟩
   obtain ⟨k1,k2,k3,k4,k5⟩ := hC _ rfl
   have HRaC := Lib.hid (Recs.below HRB.out k5)
   have HXaC := Lib.hid (bchain HXB.out k5)
   have HSaC := Lib.hid (one_src k1)
   have HEaC : Hid (∀ q ∈ [(gC,pay (Rec.cut (r'.base + (al : Int))))],By.Block (yC.alloc (.cells #[.slice (some ⟨gC,0,none⟩) LC LC] 59)) q.1 q.2 ∧ W.heap.size ≤ q.1 ∧ (vV : Value).ownBlock ≠ some q.1) := Lib.hid fun q hq => by
    obtain rfl := List.mem_singleton.1 hq
    have hs2 := Below.size HXB.out
    refine ⟨k2,by omega,fun z => ?_⟩
    have := Recs.own_lt HRB.out _ z
    omega
   clear k1 k2 k3 k4 k5 hC bbC
   go_wp2_with (at_builtin; go_must (refine recs_list _ rfl (.tmp 38) (.tmp 45) rfl (vV) _ rfl HRaC.out HXaC.out (some ⟨yC.heap.size,0,none⟩) 1 1 [(gC,pay (Rec.cut (r'.base + (al : Int))))] rfl rfl (fun z => by cases z) (.inr ⟨_,rfl,HSaC.out⟩) HEaC.out (by simp) ?_))
   intro vC uC rC bC _
   have HRC := Lib.hid rC
   have HXC := Lib.hid bC
   clear rC bC
   have hC := HC.out.below HXC.out
   have kC := HC'.out.below HXC.out
   unfold Hd.C at hC kC
   rw [HLg.out] at hC
   rw [HLg'.out] at kC
   dsimp only at hC kC
   obtain ⟨mC0,mC1,mC2,mC3,mC4,mC5,mC6⟩ := hC
   obtain ⟨nC0,nC1,nC2,nC3,nC4,nC5,nC6⟩ := kC
   clear mB0 mB1 mB2 mB3 mB4 mB5 mB6 nB0 nB1 nB2 nB3 nB4 nB5 nB6
   have CE := Lib.hid (wl_entries ao2 j cap2 (l'.drop al) uC (HL2.out.below (bchain HBW.out HXC.out)) HD2.out hj1)
   go_wp2_with fail
   refine CE.out.mono ?_
   rintro e uE ⟨vE,rfl,rE,bE⟩
   obtain ⟨ao3,n3,cap3,zs,rfl,e2,e3,e4,e5,e6⟩ := recs_src rE
   have HRE := Lib.hid (Recs.below HRC.out bE)
   have HXE := Lib.hid (bchain HXC.out bE)
   have HSE := Lib.hid (And.intro e2 (And.intro e3 e4))
   have HE5 := Lib.hid e5
   have HE6 : Hid (∀ q ∈ zs,By.Block uE q.1 q.2 ∧ W.heap.size ≤ q.1 ∧ (vC : Value).ownBlock ≠ some q.1) := Lib.hid fun q hq => by
    obtain ⟨x1,x2⟩ := e6 q hq
    refine ⟨x1,Nat.le_trans (Below.size HXC.out) x2,fun z => ?_⟩
    have := Recs.own_lt HRC.out _ z
    omega
   have HFw : Hid ((([] ++ List.map Prod.snd [(gV,pay (Rec.vot r'.term r'.vote))]) ++ List.map Prod.snd [(gC,pay (Rec.cut (r'.base + (al : Int))))] : List (List UInt8)).length + n3 ≤ 100000) := Lib.hid (by
    have h1 := congrArg List.length HE5.out
    rw [List.length_map,ents_len,List.length_drop] at h1
    have := HN.out.2
    rw [HSE.out.1,h1]
    simp
    omega)
   clear rE bE e2 e3 e4 e5 e6 CE
   go_wp2_with (at_builtin; go_must (refine recs_list uE rfl (.tmp 47) (.tmp 52) rfl (vC) _ rfl HRE.out HXE.out ao3 n3 cap3 zs rfl HSE.out.1 HSE.out.2.1 HSE.out.2.2 HE6.out HFw.out ?_))
   intro vF uF rF bF _
   rw [HE5.out] at rF
   have HRF : Hid (PaysE w (change (Hd.h r l) (Hd.h r' l')) (.returned vF) uF) := Lib.hid ⟨vF,rfl,Recs.since (by rw [HW.out,if_pos HCd.out,if_pos hc]; simpa [pays] using rF) HBW.out.size,bchain HBW.out bF⟩
   clear rF bF
   go_wp2_with fail
   go_ret
   exact HRF.out
  ·
   have CE := Lib.hid (wl_entries ao2 j cap2 (l'.drop al) uB (HL2.out.below (bchain HBW.out HXB.out)) HD2.out hj1)
   go_wp2_with fail
   refine CE.out.mono ?_
   rintro e uE ⟨vE,rfl,rE,bE⟩
   obtain ⟨ao3,n3,cap3,zs,rfl,e2,e3,e4,e5,e6⟩ := recs_src rE
   have HRE := Lib.hid (Recs.below HRB.out bE)
   have HXE := Lib.hid (bchain HXB.out bE)
   have HSE := Lib.hid (And.intro e2 (And.intro e3 e4))
   have HE5 := Lib.hid e5
   have HE6 : Hid (∀ q ∈ zs,By.Block uE q.1 q.2 ∧ W.heap.size ≤ q.1 ∧ (vV : Value).ownBlock ≠ some q.1) := Lib.hid fun q hq => by
    obtain ⟨x1,x2⟩ := e6 q hq
    refine ⟨x1,Nat.le_trans (Below.size HXB.out) x2,fun z => ?_⟩
    have := Recs.own_lt HRB.out _ z
    omega
   have HFw : Hid ((([] ++ List.map Prod.snd [(gV,pay (Rec.vot r'.term r'.vote))]) : List (List UInt8)).length + n3 ≤ 100000) := Lib.hid (by
    have h1 := congrArg List.length HE5.out
    rw [List.length_map,ents_len,List.length_drop] at h1
    have := HN.out.2
    rw [HSE.out.1,h1]
    simp
    omega)
   clear rE bE e2 e3 e4 e5 e6 CE
   go_wp2_with (at_builtin; go_must (refine recs_list uE rfl (.tmp 47) (.tmp 52) rfl (vV) _ rfl HRE.out HXE.out ao3 n3 cap3 zs rfl HSE.out.1 HSE.out.2.1 HSE.out.2.2 HE6.out HFw.out ?_))
   intro vF uF rF bF _
   rw [HE5.out] at rF
   have HRF : Hid (PaysE w (change (Hd.h r l) (Hd.h r' l')) (.returned vF) uF) := Lib.hid ⟨vF,rfl,Recs.since (by rw [HW.out,if_pos HCd.out,if_neg hc]; simpa [pays] using rF) HBW.out.size,bchain HBW.out bF⟩
   clear rF bF
   go_wp2_with fail
   go_ret
   exact HRF.out
end Go.Proofs.YtlmjeackfepllaaGreatDoor.Wl
namespace Go.Proofs.YtlmjeackfepllaaGreatDoor.Wl
open Go.RowKit
open Mem
def pre4 : List UInt8 := [119,97,108,46]
def wname (n : Nat) : ByteArray := ⟨(pre4 ++ Lib.decDigits n).toArray⟩
theorem dec_len {n : Nat} (h : n < 100) : 1 ≤ (Lib.decDigits n).length ∧ (Lib.decDigits n).length ≤ 2 := by
 by_cases h1 : n < 10
 ·
  rw [Lib.decDigits_one h1]
  simp
 ·
  rw [Lib.decDigits_two h1 h]
  simp
theorem wname_size {n : Nat} (h : n < 100) : (wname n).size ≤ 6 := by
 unfold wname
 rw [size_mk,List.length_append]
 have := (dec_len h).2
 show 4 + _ ≤ 6
 omega
theorem wl_name (n : Nat) (hn : n < 100) (w : World) : Calls Tryz.prog 43 #[.int .i64 (n : Int)] w fun e w' => e = .returned (.string (wname n)) ∧ w' = w := by
 have hadd := add_lists pre4 (Lib.decDigits n) (by have := (dec_len hn).2; show 4 + _ ≤ 100; omega)
 have HN : Hid ((⟨(pre4 ++ Lib.decDigits n).toArray⟩ : ByteArray) = wname n) := Lib.hid rfl
 obtain ⟨t,ht⟩ : ∃ t : ByteArray,⟨(Lib.decDigits n).toArray⟩ = t := ⟨_,rfl⟩
 obtain ⟨x,hx⟩ : ∃ x : ByteArray,⟨(pre4 ++ Lib.decDigits n).toArray⟩ = x := ⟨_,rfl⟩
 rw [ht,hx] at hadd
 rw [hx] at HN
 have C := Lib.hid (Tryz.strconv_Itoa_small n hn w)
 rw [ht] at C
 have hadd' : (Op.stringOp .add ⟨#[119,97,108,46]⟩ t).run Tryz.prog w = .ok (.string x) w := hadd w
 clear ht hx hadd
 go_enter Tryz.func43,Tryz.ntmps43
 go_wp2_with (go_at_call 90; refine C.out.mono ?_; rintro e u ⟨rfl,rfl⟩)
 go_ret
 exact ⟨by rw [← HN.out]; rfl,rfl⟩
def dval (t : List UInt8) : Nat := t.foldl (fun n c => 10 * n + (c.toNat - 48)) 0
def isDig (c : UInt8) : Bool := decide (48 ≤ c.toNat ∧ c.toNat ≤ 57)
def numOf (s : List UInt8) : Option Nat :=
 if Lib.hasPrefix s pre4 = false then none else if (s.drop 4).length < 1 ∨ 14 < (s.drop 4).length then none else if (s.drop 4)[0]? = some 48 ∧ 1 < (s.drop 4).length then none else
 if (s.drop 4).all isDig = true then some (dval (s.drop 4)) else none
def numE (o : Option Nat) : Ending := .returned (.tuple #[.int .i64 ((o.getD 0 : Nat) : Int),.bool o.isSome])
theorem dval_take {t : List UInt8} {k : Nat} (h : k < t.length) : dval (t.take (k + 1)) = 10 * dval (t.take k) + (t[k].toNat - 48) := by
 unfold dval
 rw [List.take_succ_eq_append_getElem h,List.foldl_append]
 rfl
theorem fold_lt : ∀ (t : List UInt8) (n : Nat),t.all isDig = true → t.foldl (fun n c => 10 * n + (c.toNat - 48)) n < (n + 1) * 10 ^ t.length
 | [],n,_ => by simp
 | c :: l,n,h => by
  rw [List.all_cons,Bool.and_eq_true] at h
  have h2 : isDig c = true := h.1
  unfold isDig at h2
  have h3 := of_decide_eq_true h2
  have h1 := fold_lt l (10 * n + (c.toNat - 48)) h.2
  rw [List.foldl_cons,List.length_cons,Nat.pow_succ]
  refine Nat.lt_of_lt_of_le h1 ?_
  rw [Nat.mul_comm (10 ^ l.length) 10,← Nat.mul_assoc]
  exact Nat.mul_le_mul_right _ (by omega)
theorem dval_lt (t : List UInt8) (h : t.all isDig = true) : dval t < 10 ^ t.length := by
 have := fold_lt t 0 h
 rw [Nat.zero_add,Nat.one_mul] at this
 exact this
theorem dval_small {t : List UInt8} {k : Nat} (h : (t.take k).all isDig = true) (hl : t.length ≤ 14) : dval (t.take k) < 100000000000000 := by
 refine Nat.lt_of_lt_of_le (dval_lt _ h) ?_
 have : (t.take k).length ≤ 14 := by rw [List.length_take]; omega
 exact Nat.pow_le_pow_right (by decide) this
theorem all_take {t : List UInt8} {k : Nat} (h : k < t.length) : (t.take (k + 1)).all isDig = ((t.take k).all isDig && isDig t[k]) := by
 rw [List.take_succ_eq_append_getElem h,List.all_append]
 simp
theorem all_no {t : List UInt8} {k : Nat} (h : k < t.length) (hd : isDig t[k] = false) : t.all isDig = false := by
 rw [List.all_eq_false]
 exact ⟨t[k],List.getElem_mem h,by rw [hd]; exact Bool.false_ne_true⟩
set_option maxHeartbeats 2000000 in
theorem wl_number (s : ByteArray) (w : World) (hs : s.size ≤ 140737488355328) : Calls Tryz.prog 85 #[.string s] w fun e w' => e = numE (numOf (txt s)) ∧ w' = w := by
 have C := Lib.hid (Tryz.strings_CutPrefix s ⟨#[119,97,108,46]⟩ w)
 rw [show (⟨#[119,97,108,46]⟩ : ByteArray).data.toList = pre4 from rfl,show s.data.toList = txt s from rfl] at C
 cases hp : Lib.hasPrefix (txt s) pre4
 ·
  have HE : Hid (numOf (txt s) = none) := Lib.hid (by unfold numOf; rw [if_pos hp])
  rw [hp] at C
  obtain ⟨t,ht⟩ : ∃ t : ByteArray,⟨(Lib.trimPrefix (txt s) pre4).toArray⟩ = t := ⟨_,rfl⟩
  rw [ht] at C
  clear hp ht
  go_enter Tryz.func85,Tryz.ntmps85
  go_wp2_with (go_at_call 123; refine C.out.mono ?_; rintro e u ⟨rfl,rfl⟩)
  go_ret2
  exact ⟨by rw [HE.out]; rfl,rfl⟩
 rw [hp] at C
 obtain ⟨t,ht⟩ : ∃ t : ByteArray,⟨(Lib.trimPrefix (txt s) pre4).toArray⟩ = t := ⟨_,rfl⟩
 have htx : (txt s).drop 4 = txt t := by
  rw [← ht]
  show (txt s).drop 4 = Lib.trimPrefix (txt s) pre4
  unfold Lib.trimPrefix
  rw [if_pos hp]
  rfl
 have hN : numOf (txt s) = if (txt t).length < 1 ∨ 14 < (txt t).length then none else if (txt t)[0]? = some 48 ∧ 1 < (txt t).length then none else if (txt t).all isDig = true then some (dval (txt t)) else none := by
  unfold numOf
  rw [if_neg (by rw [hp]; simp),htx]
 rw [ht] at C
 have hsz : (txt t).length = t.size := txt_len t
 rw [hsz] at hN
 have hts : t.size ≤ 140737488355328 := by
  have := congrArg List.length htx
  rw [List.length_drop,txt_len,txt_len] at this
  omega
 have HSz := Lib.hid hsz
 clear hp ht htx hsz
 by_cases h1 : t.size < 1
 ·
  have HE : Hid (numOf (txt s) = none) := Lib.hid (by rw [hN,if_pos (.inl h1)])
  clear hN
  go_enter Tryz.func85,Tryz.ntmps85
  go_wp2_with (go_at_call 123; refine C.out.mono ?_; rintro e u ⟨rfl,rfl⟩)
  go_ret2
  exact ⟨by rw [HE.out]; rfl,rfl⟩
 by_cases h2 : 14 < t.size
 ·
  have HE : Hid (numOf (txt s) = none) := Lib.hid (by rw [hN,if_pos (.inr h2)])
  clear hN
  go_enter Tryz.func85,Tryz.ntmps85
  go_wp2_with (go_at_call 123; refine C.out.mono ?_; rintro e u ⟨rfl,rfl⟩)
  go_ret2
  exact ⟨by rw [HE.out]; rfl,rfl⟩
 rw [if_neg (by omega)] at hN
 have h0 : 0 < t.size := by omega
 have hg0 : (txt t)[0]? = some t[0] := Dk.txt_get t 0 h0
 rw [hg0] at hN
 by_cases h3 : t[0] = 48 ∧ 1 < t.size
 ·
  have HE : Hid (numOf (txt s) = none) := Lib.hid (by rw [hN,if_pos ⟨by rw [h3.1],h3.2⟩])
  have q1 : ((t[0].toNat : Int) == 48) = true := by rw [h3.1]; rfl
  have h4 := h3.2
  clear hN h3 hg0
  go_enter Tryz.func85,Tryz.ntmps85
  go_wp2_with (go_at_call 123; refine C.out.mono ?_; rintro e u ⟨rfl,rfl⟩)
  go_ret2
  exact ⟨by rw [HE.out]; rfl,rfl⟩
 rw [if_neg (fun z => h3 ⟨Option.some.inj z.1,z.2⟩)] at hN
 have HN := Lib.hid hN
 have hb : ((t[0].toNat : Int) == 48) = false ∨ ((t[0].toNat : Int) == 48) = true ∧ ¬ 1 < t.size := by
  by_cases z : t[0] = 48
  · exact .inr ⟨by rw [z]; rfl,fun k => h3 ⟨z,k⟩⟩
  · exact .inl (beq_eq_false_iff_ne.2 fun k => z (UInt8.toNat_inj.1 (by show t[0].toNat = 48; omega)))
 clear hN h3 hg0
 rcases hb with q1 | ⟨q1,q2⟩
 ·
  go_enter Tryz.func85,Tryz.ntmps85
  go_wp2_with (go_at_call 123; refine C.out.mono ?_; rintro e u ⟨rfl,rfl⟩)
  clear q1
  go_loop [6,7,35] (fun v _ i => ∃ k : Nat,k ≤ t.size ∧ i = .int .i64 k ∧ ∃ d : Nat,v = .int .i64 d ∧ Hid (d = dval ((txt t).take k) ∧ ((txt t).take k).all isDig = true)) (fun _ _ i => t.size - (intOf i).toNat)
  case atStart => exact ⟨0,Nat.zero_le _,rfl,0,rfl,Lib.hid ⟨rfl,rfl⟩⟩
  case round =>
   obtain ⟨k,hk,rfl,d,rfl,HD⟩ := hrel
   have hdb : d < 100000000000000 := by
    obtain ⟨e1,e2⟩ := HD.out
    have := dval_small e2 (by have := HSz.out; omega)
    omega
   by_cases hlt : k < t.size
   ·
    have hkl : k < (txt t).length := HSz.out ▸ hlt
    have HG : Hid ((txt t)[k] = t[k]) := Lib.hid (Option.some.inj ((List.getElem?_eq_getElem hkl).symm.trans (Dk.txt_get t k hlt)))
    by_cases a1 : (t[k].toNat : Int) < 48
    ·
     have HE : Hid (numOf (txt s) = none) := Lib.hid (by
      rw [HN.out,all_no hkl (by rw [HG.out]; exact decide_eq_false (by omega)),if_neg Bool.false_ne_true])
     clear HD
     go_wp2
     go_ret2
     exact ⟨by rw [HE.out]; rfl,rfl⟩
    ·
     by_cases a2 : (57 : Int) < (t[k].toNat : Int)
     ·
      have HE : Hid (numOf (txt s) = none) := Lib.hid (by
       rw [HN.out,all_no hkl (by rw [HG.out]; exact decide_eq_false (by omega)),if_neg Bool.false_ne_true])
      clear HD
      go_wp2
      go_ret2
      exact ⟨by rw [HE.out]; rfl,rfl⟩
     ·
      obtain ⟨x,hx⟩ : ∃ x,10 * d + (t[k].toNat - 48) = x := ⟨_,rfl⟩
      have HD2 : Hid (x = dval ((txt t).take (k + 1)) ∧ ((txt t).take (k + 1)).all isDig = true) := Lib.hid (by
       obtain ⟨e1,e2⟩ := HD.out
       refine ⟨by rw [dval_take hkl,HG.out,← e1]; exact hx.symm,?_⟩
       rw [all_take hkl,e2,HG.out,Bool.true_and]
       exact decide_eq_true (by omega))
      have hsub : (t[k].toNat : Int) - 48 = ((t[k].toNat - 48 : Nat) : Int) := by omega
      have hxe : 10 * (d : Int) + ((t[k].toNat : Int) - 48) = (x : Int) := by omega
      clear HD
      go_wp2
      go_round
      case rel => exact ⟨k + 1,by omega,by go_num,x,by first | rfl | go_num,HD2⟩
      case measure => simp [intOf]; omega
   ·
    obtain rfl : k = t.size := by omega
    have HE : Hid (numOf (txt s) = some d) := Lib.hid (by
     obtain ⟨e1,e2⟩ := HD.out
     rw [List.take_of_length_le (by have := HSz.out; omega)] at e1 e2
     rw [HN.out,if_pos e2,e1])
    clear HD
    go_wp2
    go_ret2
    exact ⟨by rw [HE.out]; rfl,rfl⟩
 ·
  go_enter Tryz.func85,Tryz.ntmps85
  go_wp2_with (go_at_call 123; refine C.out.mono ?_; rintro e u ⟨rfl,rfl⟩)
  clear q1 q2
  go_loop [6,7,35] (fun v _ i => ∃ k : Nat,k ≤ t.size ∧ i = .int .i64 k ∧ ∃ d : Nat,v = .int .i64 d ∧ Hid (d = dval ((txt t).take k) ∧ ((txt t).take k).all isDig = true)) (fun _ _ i => t.size - (intOf i).toNat)
  case atStart => exact ⟨0,Nat.zero_le _,rfl,0,rfl,Lib.hid ⟨rfl,rfl⟩⟩
  case round =>
   obtain ⟨k,hk,rfl,d,rfl,HD⟩ := hrel
   have hdb : d < 100000000000000 := by
    obtain ⟨e1,e2⟩ := HD.out
    have := dval_small e2 (by have := HSz.out; omega)
    omega
   by_cases hlt : k < t.size
   ·
    have hkl : k < (txt t).length := HSz.out ▸ hlt
    have HG : Hid ((txt t)[k] = t[k]) := Lib.hid (Option.some.inj ((List.getElem?_eq_getElem hkl).symm.trans (Dk.txt_get t k hlt)))
    by_cases a1 : (t[k].toNat : Int) < 48
    ·
     have HE : Hid (numOf (txt s) = none) := Lib.hid (by
      rw [HN.out,all_no hkl (by rw [HG.out]; exact decide_eq_false (by omega)),if_neg Bool.false_ne_true])
     clear HD
     go_wp2
     go_ret2
     exact ⟨by rw [HE.out]; rfl,rfl⟩
    ·
     by_cases a2 : (57 : Int) < (t[k].toNat : Int)
     ·
      have HE : Hid (numOf (txt s) = none) := Lib.hid (by
       rw [HN.out,all_no hkl (by rw [HG.out]; exact decide_eq_false (by omega)),if_neg Bool.false_ne_true])
      clear HD
      go_wp2
      go_ret2
      exact ⟨by rw [HE.out]; rfl,rfl⟩
     ·
      obtain ⟨x,hx⟩ : ∃ x,10 * d + (t[k].toNat - 48) = x := ⟨_,rfl⟩
      have HD2 : Hid (x = dval ((txt t).take (k + 1)) ∧ ((txt t).take (k + 1)).all isDig = true) := Lib.hid (by
       obtain ⟨e1,e2⟩ := HD.out
       refine ⟨by rw [dval_take hkl,HG.out,← e1]; exact hx.symm,?_⟩
       rw [all_take hkl,e2,HG.out,Bool.true_and]
       exact decide_eq_true (by omega))
      have hsub : (t[k].toNat : Int) - 48 = ((t[k].toNat - 48 : Nat) : Int) := by omega
      have hxe : 10 * (d : Int) + ((t[k].toNat : Int) - 48) = (x : Int) := by omega
      clear HD
      go_wp2
      go_round
      case rel => exact ⟨k + 1,by omega,by go_num,x,by first | rfl | go_num,HD2⟩
      case measure => simp [intOf]; omega
   ·
    obtain rfl : k = t.size := by omega
    have HE : Hid (numOf (txt s) = some d) := Lib.hid (by
     obtain ⟨e1,e2⟩ := HD.out
     rw [List.take_of_length_le (by have := HSz.out; omega)] at e1 e2
     rw [HN.out,if_pos e2,e1])
    clear HD
    go_wp2
    go_ret2
    exact ⟨by rw [HE.out]; rfl,rfl⟩
end Go.Proofs.YtlmjeackfepllaaGreatDoor.Wl
namespace Go.Proofs.YtlmjeackfepllaaGreatDoor.Dk
theorem del_mem {s : ByteArray} {l : List F} {f : F} (h : f ∈ del s l) : f ∈ l := by
 unfold del at h
 rcases List.mem_append.1 h with h | h
 · exact List.mem_of_mem_take h
 · exact List.mem_of_mem_drop h
theorem put_mem {f g : F} {l : List F} (h : g ∈ put f l) : g = f ∨ g ∈ l := by
 unfold put at h
 split at h
 · exact (List.mem_or_eq_of_mem_set h).symm
 ·
  unfold ins at h
  rcases List.mem_append.1 h with h | h
  · exact .inr (List.mem_of_mem_take h)
  ·
   rcases List.mem_cons.1 h with h | h
   · exact .inl h
   · exact .inr (List.mem_of_mem_drop h)
theorem total_del_le (s : ByteArray) (l : List F) : total (del s l) ≤ total l := by
 by_cases h : spot s l < l.length
 ·
  have := total_del h
  omega
 ·
  unfold del
  have e1 : total l = total (l.take (spot s l) ++ l.drop (spot s l)) := congrArg total (List.take_append_drop _ _).symm
  have e2 : l.drop (spot s l + 1) = [] := List.drop_eq_nil_of_le (by omega)
  rw [e1,total_app,total_app,e2]
  have : total [] = 0 := rfl
  omega
theorem total_put {f : F} {l : List F} (hs : Sorted l) : total (put f l) + (own f.name l).bs.length = total l + f.bs.length := by
 unfold put
 cases h : has f.name l
 ·
  rw [if_neg (by simp),total_ins,own_no h]
  rfl
 ·
  rw [if_pos rfl,own_at hs h]
  exact total_set (spot_lt hs h) f
theorem del_len {s : ByteArray} {l : List F} (hs : Sorted l) (h : has s l = true) : (del s l).length + 1 = l.length := by
 have := spot_lt hs h
 unfold del
 rw [List.length_append,List.length_take,List.length_drop,Nat.min_eq_left (by omega)]
 omega
theorem put_len (f : F) (l : List F) : (put f l).length ≤ l.length + 1 := by
 unfold put
 split
 ·
  rw [List.length_set]
  omega
 ·
  have := spot_le f.name l
  unfold ins
  rw [List.length_append,List.length_cons,List.length_take,List.length_drop,Nat.min_eq_left (by omega)]
  omega
theorem put_len_has {f : F} {l : List F} (h : has f.name l = true) : (put f l).length = l.length := by
 unfold put
 rw [if_pos h,List.length_set]
theorem put_set {f : F} {l : List F} (hs : Sorted l) (h : has f.name l = true) : put f l = l.take (spot f.name l) ++ ([f] ++ l.drop (spot f.name l + 1)) := by
 unfold put
 rw [if_pos h,List.set_eq_take_append_cons_drop,if_pos (spot_lt hs h)]
 rfl
theorem put_ins {f : F} {l : List F} (h : has f.name l = false) : put f l = l.take (spot f.name l) ++ ([f] ++ l.drop (spot f.name l)) := by
 unfold put
 rw [if_neg (by rw [h]; exact Bool.false_ne_true)]
 rfl
theorem del_ok {d : D} (h : Ok d) (s : ByteArray) : Ok ⟨del s d.fs,d.off,d.left⟩ :=
 ⟨del_sorted h.sorted,fun f k => h.kept f (del_mem k),Nat.le_trans (total_del_le _ _) h.room,fun f k => h.names f (del_mem k),h.left⟩
theorem put_ok {d : D} (h : Ok d) {f : F} (hk : f.kept ≤ f.bs.length) (hn : f.name.size ≤ 24) (hr : total (put f d.fs) ≤ 4194304) : Ok ⟨put f d.fs,d.off,d.left⟩ :=
 ⟨put_sorted h.sorted,fun g k => (put_mem k).elim (fun e => e ▸ hk) (h.kept g),hr,fun g k => (put_mem k).elim (fun e => e ▸ hn) (h.names g),h.left⟩
theorem own_mem {s : ByteArray} {l : List F} (hs : Sorted l) (h : has s l = true) : own s l ∈ l := by
 rw [own_at hs h]
 exact List.getElem_mem _
theorem own_kept {d : D} (h : Ok d) (s : ByteArray) : (own s d.fs).kept ≤ (own s d.fs).bs.length := by
 cases k : has s d.fs
 ·
  rw [own_no k]
  exact Nat.le_refl _
 · exact h.kept _ (own_mem h.sorted k)
theorem own_room {d : D} (h : Ok d) (s : ByteArray) : (own s d.fs).bs.length ≤ total d.fs := by
 cases k : has s d.fs
 ·
  rw [own_no k]
  exact Nat.zero_le _
 · exact total_mem (own_mem h.sorted k)
theorem name_size {s : ByteArray} (h : nameOk s = true) : s.size ≤ 24 := by
 unfold nameOk at h
 rw [Bool.and_eq_true,decide_eq_true_eq] at h
 exact h.1.2
theorem spent_ok {d : D} (h : Ok d) : Ok (spent d) := ⟨h.sorted,h.kept,h.room,h.names,dec_ok h.left⟩
end Go.Proofs.YtlmjeackfepllaaGreatDoor.Dk
namespace Go.Proofs.YtlmjeackfepllaaGreatDoor.Dk
open Go.RowKit
open Mem
def Ap (a b : Fl.T) : Prop := ∀ g,(sl a.bytes).ownBlock = some g → (sl b.bytes).ownBlock ≠ some g
theorem Ap.symm {a b : Fl.T} (h : Ap a b) : Ap b a := fun g hb ha => h g ha hb
def Pb (P : Nat → Prop) (p : Nat) (v : Value) (r : Fl.T) : Prop := ∀ b,(sl r.bytes).ownBlock = some b → P b ∧ b ≠ p ∧ v.ownBlock ≠ some b
structure One (w : World) (r : Fl.T) (f : F) : Prop where
 name : r.name = f.name
 kept : r.kept = (f.kept : Int)
 own : By.Own w 0 (sl r.bytes) f.bs
section
variable {P Q : Nat → Prop} {w u : World} {p : Nat} {d : D} {v v' : Sl} {L : Int} {rs mr : List Fl.T} {fs mf : List F}
theorem EachF.one (h : EachF w rs fs) {i : Nat} {r : Fl.T} {f : F} (hr : rs[i]? = some r) (hf : fs[i]? = some f) : One w r f := by
 obtain ⟨h1,rfl⟩ := List.getElem?_eq_some_iff.1 hr
 obtain ⟨h2,rfl⟩ := List.getElem?_eq_some_iff.1 hf
 exact ⟨h.name i h1,h.kept i h1,h.own i h1⟩
theorem EachF.of (hl : rs.length = fs.length) (h : ∀ (i : Nat) r f,rs[i]? = some r → fs[i]? = some f → One w r f) : EachF w rs fs := by
 have k : ∀ i (hi : i < rs.length),One w rs[i] (fs[i]'(hl ▸ hi)) := fun i hi => h i _ _ (List.getElem?_eq_getElem hi) (List.getElem?_eq_getElem _)
 exact ⟨hl,fun i hi => (k i hi).name,fun i hi => (k i hi).kept,fun i hi => (k i hi).own⟩
theorem EachF.nil : EachF w [] [] := EachF.of rfl fun i r f hr => (by simp at hr)
theorem EachF.single {r : Fl.T} {f : F} (h : One w r f) : EachF w [r] [f] := EachF.of rfl fun i a b ha hb => by
 rcases i with _ | i
 ·
  cases ha
  cases hb
  exact h
 · simp at ha
theorem EachF.app (h : EachF w rs fs) (k : EachF w mr mf) : EachF w (rs ++ mr) (fs ++ mf) := by
 refine EachF.of (by rw [List.length_append,List.length_append,h.len,k.len]) fun i r f hr hf => ?_
 rw [List.getElem?_append] at hr hf
 rw [h.len] at hr
 split at hr
 ·
  rename_i c
  rw [if_pos c] at hf
  exact h.one hr hf
 ·
  rename_i c
  rw [if_neg c] at hf
  exact k.one hr hf
theorem EachF.take (h : EachF w rs fs) (n : Nat) : EachF w (rs.take n) (fs.take n) := by
 refine EachF.of (by rw [List.length_take,List.length_take,h.len]) fun i r f hr hf => ?_
 rw [List.getElem?_take] at hr hf
 split at hr
 ·
  rename_i c
  rw [if_pos c] at hf
  exact h.one hr hf
 · cases hr
theorem EachF.drop (h : EachF w rs fs) (n : Nat) : EachF w (rs.drop n) (fs.drop n) := by
 refine EachF.of (by rw [List.length_drop,List.length_drop,h.len]) fun i r f hr hf => ?_
 rw [List.getElem?_drop] at hr hf
 exact h.one hr hf
theorem aps_cut (h : rs.Pairwise Ap) {i j : Nat} (hij : i ≤ j) (hm : mr.Pairwise Ap) (hx : ∀ m ∈ mr,∀ x ∈ rs.take i ++ rs.drop j,Ap m x) : (rs.take i ++ (mr ++ rs.drop j)).Pairwise Ap := by
 rw [List.pairwise_append]
 refine ⟨h.sublist (List.take_sublist _ _),List.pairwise_append.2 ⟨hm,h.sublist (List.drop_sublist _ _),fun m k x z => hx m k x (List.mem_append_right _ z)⟩,fun x k y z => ?_⟩
 rcases List.mem_append.1 z with z | z
 · exact (hx y z x (List.mem_append_left _ k)).symm
 ·
  have h2 : (rs.take j ++ rs.drop j).Pairwise Ap := by rw [List.take_append_drop]; exact h
  have e : rs.take i = (rs.take j).take i := by rw [List.take_take,Nat.min_eq_left hij]
  rw [e] at k
  exact (List.pairwise_append.1 h2).2.2 x (List.mem_of_mem_take k) y z
theorem At.pbs (h : At P w p d v L rs) : ∀ r ∈ rs,Pb P p (sl v) r := fun r hr b e => by
 obtain ⟨i,hi,rfl⟩ := List.getElem_of_mem hr
 exact h.pb i hi b e
theorem At.aps (h : At P w p d v L rs) : rs.Pairwise Ap := List.pairwise_iff_getElem.2 fun i j hi hj hij => h.ap i j hi hj hij
theorem cut_mem {i j : Nat} {x : Fl.T} (h : x ∈ rs.take i ++ rs.drop j) : x ∈ rs := by
 rcases List.mem_append.1 h with h | h
 · exact List.mem_of_mem_take h
 · exact List.mem_of_mem_drop h
theorem At.turn (h : At P w p d v L rs) {L' : Int} {off : Bool} {left : Int} {i j : Nat} (hij : i ≤ j) (box : Box u p v' off (decide (0 ≤ left)) L') (arm : 0 ≤ left → L' = left) (rows : Fl.Own u 0 (sl v') (rs.take i ++ (mr ++ rs.drop j)))
  (kp : ∀ r ∈ rs.take i ++ rs.drop j,∀ g,(sl r.bytes).ownBlock = some g → u.heap[g]? = w.heap[g]?) (mid : EachF u mr mf) (hP : ∀ b,P b → Q b)
  (pv : ∀ b,(sl v').ownBlock = some b → Q b ∧ b ≠ p) (vv : ∀ b,(sl v').ownBlock = some b → (sl v).ownBlock = some b ∨ w.heap.size ≤ b)
  (mpb : ∀ r ∈ mr,Pb Q p (sl v') r) (map : mr.Pairwise Ap) (mx : ∀ m ∈ mr,∀ x ∈ rs.take i ++ rs.drop j,Ap m x)
  (ok : Ok ⟨d.fs.take i ++ (mf ++ d.fs.drop j),off,left⟩) (few : (d.fs.take i ++ (mf ++ d.fs.drop j)).length ≤ 1000) : At Q u p ⟨d.fs.take i ++ (mf ++ d.fs.drop j),off,left⟩ v' L' (rs.take i ++ (mr ++ rs.drop j)) := by
 have k1 : EachF u (rs.take i) (d.fs.take i) := (h.each.take i).keep fun a ha g e => kp _ (List.mem_append_left _ (List.getElem_mem ha)) g e
 have k2 : EachF u (rs.drop j) (d.fs.drop j) := (h.each.drop j).keep fun a ha g e => kp _ (List.mem_append_right _ (List.getElem_mem ha)) g e
 have hpb : ∀ r ∈ rs.take i ++ (mr ++ rs.drop j),Pb Q p (sl v') r := by
  have old : ∀ r ∈ rs,Pb Q p (sl v') r := fun r hr b e => by
   obtain ⟨a,b1,c⟩ := h.pbs r hr b e
   refine ⟨hP b a,b1,fun z => ?_⟩
   rcases vv b z with z | z
   · exact c z
   ·
    obtain ⟨n,hn,rfl⟩ := List.getElem_of_mem hr
    have := (World.ownsRow.lt (h.each.own n hn) b e).2
    omega
  intro r hr
  rcases List.mem_append.1 hr with k | k
  · exact old r (List.mem_of_mem_take k)
  ·
   rcases List.mem_append.1 k with k | k
   · exact mpb r k
   · exact old r (List.mem_of_mem_drop k)
 have hap := aps_cut h.aps hij map mx
 exact ⟨box,arm,rows,k1.app (mid.app k2),hP p h.pp,pv,fun n hn b e => hpb _ (List.getElem_mem hn) b e,fun a b ha hb hab => List.pairwise_iff_getElem.1 hap a b ha hb hab,ok,few⟩
theorem own_sl {x : Value} {B : Nat} {M : List Fl.T} (h : Fl.Own w B x M) : ∃ s : Sl,x = sl s := by
 rcases h.2 with ⟨e,_⟩ | ⟨g,cap,cur,e,_⟩
 · exact ⟨⟨none,0,0⟩,e⟩
 · exact ⟨⟨_,_,_⟩,e⟩
theorem Box.keep {off armed : Bool} (h : Box w p v off armed L) (k : u.heap[p]? = w.heap[p]?) : Box u p v off armed L := k.trans h
theorem Box.slice {off armed : Bool} (h : Box w p v off armed L) (v' : Sl) : Box (w.setCell ⟨p,0,none⟩ (sl v')) p v' off armed L := (h.set 0 _).trans rfl
end
end Go.Proofs.YtlmjeackfepllaaGreatDoor.Dk
namespace Go.Proofs.YtlmjeackfepllaaGreatDoor
open Go.RowKit
open Mem Dk
section
variable {P : Nat → Prop} {w : World} {p : Nat} {d : D} {v : Sl} {L : Int} {rs : List Fl.T}
def Dk.DropE (P : Nat → Prop) (w : World) (p : Nat) (d : D) (v : Sl) (L : Int) (rs : List Fl.T) (s : ByteArray) (e : Ending) (w' : World) : Prop :=
 e = .returned (.tuple #[]) ∧ ∃ v',At P w' p ⟨del s d.fs,d.off,d.left⟩ v' L (rs.take (spot s d.fs) ++ rs.drop (spot s d.fs + 1)) ∧ (sl v').ownBlock = (sl v).ownBlock ∧ UpdQ (fun b => b = p ∨ (sl v).ownBlock = some b) w w'
theorem dk_drop (h : At P w p d v L rs) (s : ByteArray) (hh : has s d.fs = true) : Calls Tryz.prog 84 #[.pointer (some ⟨p,0,none⟩),.int .i64 (spot s d.fs : Nat)] w (Dk.DropE P w p d v L rs s) := by
 have hn := h.n
 have hsp := spot_lt h.ok.sorted hh
 have HC := Lib.hid (Fl.delete_one w v.ao v.n v.cap (spot s d.fs) rs h.rows (by omega) (by rw [hn.1]; exact h.few))
 obtain ⟨c0,c1,c2,c3⟩ := h.box.cells
 have HE : Hid (∀ u (x : Sl),Fl.Own u 0 (sl x) (rs.take (spot s d.fs) ++ rs.drop (spot s d.fs + 1)) → (sl x).ownBlock = (sl v).ownBlock → UpdQ (fun b => (sl v).ownBlock = some b) w u → (u.frozen? ⟨p,0,none⟩ = false ∧ (∃ c,u.cell? ⟨p,0,none⟩ = some c)) ∧ Dk.DropE P w p d v L rs s (.returned (.tuple #[])) (u.setCell ⟨p,0,none⟩ (sl x))) := Lib.hid fun u x ho hx hu => by
  have hp : ¬ (sl v).ownBlock = some p := fun z => (h.pv p z).2 rfl
  have hb := h.box.keep (hu.block p h.box.lt hp)
  have k : UpdQ (fun b => b = p ∨ (sl v).ownBlock = some b) u (u.setCell ⟨p,0,none⟩ (sl x)) := UpdQ.set (Q := fun b => b = p ∨ (sl v).ownBlock = some b) u (.inl rfl) 0 _
  have k2 : UpdQ (fun b => b = p) u (u.setCell ⟨p,0,none⟩ (sl x)) := UpdQ.set (Q := fun b => b = p) u rfl 0 _
  have hq := (hu.mono (R := fun b => b = p ∨ (sl v).ownBlock = some b) fun b z => .inr z).trans k
  refine ⟨⟨hb.frozen 0,⟨_,hb.cells.1⟩⟩,rfl,x,?_,hx,hq⟩
  have hdl := del_len h.ok.sorted hh
  refine At.turn h (mr := []) (mf := []) (i := spot s d.fs) (j := spot s d.fs + 1) (Nat.le_succ _) (hb.slice x) h.arm (k2.rows ho fun b e z => ?_) (fun r hr g e => ?_) EachF.nil (fun b z => z) (fun b e => h.pv b (hx ▸ e)) (fun b e => .inl (hx ▸ e)) (fun r hr => by cases hr) List.Pairwise.nil (fun m hm => by cases hm) (del_ok h.ok s) ?_
  · exact hp (by rw [← hx,e,z])
  ·
   obtain ⟨n,hn',rfl⟩ := List.getElem_of_mem (cut_mem hr)
   have h1 := h.pb n hn' g e
   exact hq.block g (World.ownsRow.lt (h.each.own n hn') g e).2 fun z => z.elim h1.2.1 h1.2.2
  ·
   have : (del s d.fs).length ≤ 1000 := by have := h.few; omega
   exact this
 have hsm : spot s d.fs < 1000 := by have := h.few; omega
 clear hsp
 generalize spot s d.fs = sp at HC HE hsm ⊢
 clear h hn hh
 go_enter Tryz.func84,Tryz.ntmps84
 go_wp2_with (go_at_call 122; refine HC.out.mono ?_)
 rintro e w1 ⟨v',rfl,ho,hx,hu⟩
 obtain ⟨x,rfl⟩ := own_sl ho
 obtain ⟨⟨e1,c,e2⟩,e3⟩ := HE.out w1 x ho hx hu
 have HF := Lib.hid e3
 clear ho hx hu e3 c0 c1 c2 c3
 unfold sl at HF ⊢
 go_wp2_with fail
 go_end0
 exact HF.out
end
end Go.Proofs.YtlmjeackfepllaaGreatDoor
