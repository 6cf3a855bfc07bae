import Derived.Deep.RegionHeld3
import Derived.Deep.RegionLaw
import Derived.Deep.DeepCutAuto
import Derived.Deep.CutBlock
import Derived.Lib.Overlaps
import Derived.Lib.JoinLaws
import Derived.Test.YtjpfpojbalepeaaGreatZG1
import Derived.Test.YtjpfpojbalepeaaGreatZG3
import Derived.Test.YtjpfpojbalepeaaGreatZG6
import Derived.Test.YtjpfpojbalepeaaGreatZG8
set_option maxRecDepth 100000
set_option linter.unusedVariables false
namespace Go.Proofs.YtjpfpojbalepeaaGreat.Pt
open Go.RowKit
open Mem
theorem slice_from (g n c k l c' : Nat) (x : Int) (hx : x = (k : Int)) (hk : k + l = n) (hc : k + c' = c) (hl : 0 < c') (hn : n ≤ c) (h63 : c ≤ 1000) (u : World) :
  (Instr.slice 62 (.slice (some ⟨g,0,none⟩) n c) (some (.int .i64 x)) none none).run Tryz.prog u = .ok (.slice (some ⟨g,k * 4,none⟩) l c') u := by
 subst hx
 rw [run_slice_l u 62 (some ⟨g,0,none⟩) n c und .i64 k (by omega) (by omega),size]
 have e1 : n - k = l := by omega
 have e2 : c - k = c' := by omega
 have e3 : ¬ c = k := by omega
 simp [Result.andThen,sliced,e1,e2,e3,Addr.add]
 intro h
 exact h.symm
theorem slice_to (g n c k : Nat) (x : Int) (hx : x = (k : Int)) (hk : k ≤ c) (h63 : c ≤ 1000) (u : World) :
  (Instr.slice 62 (.slice (some ⟨g,0,none⟩) n c) none (some (.int .i64 x)) none).run Tryz.prog u = .ok (.slice (some ⟨g,0,none⟩) k c) u := by
 subst hx
 rw [run_slice_h u 62 (some ⟨g,0,none⟩) n c und .i64 k (by omega) (by omega),size]
 simp [Result.andThen,sliced,Addr.add]
def laid (M rs : List T) (o : Nat) : List T := M.take o ++ rs ++ M.drop (o + rs.length)
def cells (M : List T) : Array Value := (M.flatMap rv).toArray
theorem flat_take : ∀ (M : List T) (o : Nat),(M.flatMap rv).take (o * 4) = (M.take o).flatMap rv
 | [],o => by simp
 | a :: l,0 => by simp
 | a :: l,o + 1 => by
  rw [List.flatMap_cons,List.take_succ_cons,List.flatMap_cons,show (o + 1) * 4 = (rv a).length + o * 4 by rw [rv_len]; omega,List.take_length_add_append,flat_take l o]
theorem flat_drop : ∀ (M : List T) (o : Nat),(M.flatMap rv).drop (o * 4) = (M.drop o).flatMap rv
 | [],o => by simp
 | a :: l,0 => by simp
 | a :: l,o + 1 => by
  rw [List.flatMap_cons,List.drop_succ_cons,show (o + 1) * 4 = (rv a).length + o * 4 by rw [rv_len]; omega,List.drop_length_add_append,flat_drop l o]
theorem block_laid {u : World} {g : Nat} {M : List T} (h : Block u g M) (N : List T) : Block (u.setRow g (cells N)) g N := setRow_heap u g _ _ 105 _ h
theorem copy_at (u : World) (g : Nat) (M : List T) (o dl dc b so sl sc : Nat) (rs : List T) (hb : Block u g M) (hk : rs.length = Nat.min sl dl) (ho : o + rs.length ≤ M.length) (hs : ∀ (k : Nat) (hk : k < rs.length),At u b (so + k * 4) rs[k]) (ty : TypeId) :
  (Builtin.copy_ #[62,62] ty #[.slice (some ⟨g,o * 4,none⟩) dl dc,.slice (some ⟨b,so,none⟩) sl sc]).run Tryz.prog u = .ok (goInt rs.length) (u.setRow g (cells (laid M rs o))) := by
 obtain ⟨i0,hi,hiK⟩ := Option.map_eq_some_iff.1 sizeZ
 have hl := run_loadCells_list (P := Tryz.prog) u ⟨b,so,none⟩ (rs.flatMap rv) (fun j v hv => news_of hs j v hv)
 have hst := run_storeCells_at Tryz.prog g (o * 4) 105 (rs.flatMap rv) 0 _ u hb (by rw [List.size_toArray,flat_len,flat_len]; omega) (one_cell rs)
 have hlen : (rs.flatMap rv).length = rs.length * 4 := flat_len rs
 have e : ((M.flatMap rv).toArray.toList.take (o * 4 + 0) ++ rs.flatMap rv ++ (M.flatMap rv).toArray.toList.drop (o * 4 + 0 + (rs.flatMap rv).length)) = (laid M rs o).flatMap rv := by
  rw [List.toList_toArray,Nat.add_zero,hlen,flat_take,show o * 4 + rs.length * 4 = (o + rs.length) * 4 by omega,flat_drop]
  unfold laid
  rw [List.flatMap_append,List.flatMap_append]
 rw [e] at hst
 rw [hlen] at hl
 unfold cells
 simp [Builtin.copy_,run_underlying Tryz.underlying62,Builtin.lenOf,Builtin.firstCells,sizeOf,typeInfo,hi,hiK,← hk,hl,hst]
theorem Block.drew {u : World} {g : Nat} {M : List T} (h : Block u g M) : Block u.drew g M := h
theorem Block.shape {u : World} {g : Nat} {M : List T} (h : Block u g M) : u.shape? g = some (105,M.length * 4) := by
 unfold World.shape?
 rw [h]
 simp only [List.size_toArray,flat_len]
theorem own_front {w : World} {B g n c : Nat} {M Z : List T} (h : Block w g (M ++ Z)) (hB : B ≤ g) (hn : n = M.length) (hc : c = (M ++ Z).length) (hm : c ≤ 1000) : Own w B (.slice (some ⟨g,0,none⟩) n c) M := by
 subst hn hc
 refine ⟨by rw [flat_len],.inr ⟨g,_,_,rfl,hB,h,by rw [List.length_append]; omega,by have : maxLen = 9223372036854775807 := rfl; omega,by rw [List.size_toArray,flat_len],?_⟩⟩
 rw [List.flatMap_append,List.toList_toArray,List.take_left' (by rw [flat_len])]
theorem Block.put {w : World} {g : Nat} {M : List T} (h : Block w g M) (k p : Nat) (hk : k < M.length) (hp : p < 4) (x : Value) (r : T) (hr : rv r = (rv M[k]).set p x) : Block (w.setCell ⟨g,k * 4 + p,none⟩ x) g (M.set k r) := by
 have h1 := heap_setCell_same _ g (k * 4 + p) _ _ x h
 unfold Block
 rw [h1,flat_put r p x hp M k hk hr]
 simp only [List.setIfInBounds_toArray]
theorem Block.far {w : World} {g b : Nat} {M : List T} (h : Block w g M) (hne : g ≠ b) (o : Nat) (x : Value) : Block (w.setCell ⟨b,o,none⟩ x) g M := by
 unfold Block
 rw [heap_setCell_other w ⟨b,o,none⟩ g x hne]
 exact h
theorem set_at (M Z : List T) (z r : T) : (M ++ z :: Z).set M.length r = (M ++ [r]) ++ Z := by
 rw [List.set_append_right _ _ (Nat.le_refl _),Nat.sub_self,List.set_cons_zero,List.append_assoc]
 rfl
set_option maxHeartbeats 4000000 in
theorem insert_end (w : World) (g c vb n : Nat) (M Z : List T) (z r : T) (h : Block w g (M ++ z :: Z)) (hn : n = M.length) (hc : c = (M ++ z :: Z).length) (hm : c ≤ 1000) (hv : w.heap[vb]? = some (block r)) :
  Calls Tryz.prog 182 #[.slice (some ⟨g,0,none⟩) n c,.int .i64 (n : Int),.slice (some ⟨vb,0,none⟩) 1 1] w fun e w' =>
   e = .returned (.slice (some ⟨g,0,none⟩) (n + 1) c) ∧ Block w' g ((M ++ [r]) ++ Z) ∧ (∀ B w0,Below B w0 w → B ≤ g → Below B w0 w') := by
 have hcl : c = n + 1 + Z.length := by rw [hc,List.length_append,List.length_cons,← hn]; omega
 obtain ⟨i0,hi,hz0,hz1,hz2⟩ := info_parts info
 have hsrc : Src Tryz.prog i0.size 62 (.slice (some ⟨vb,0,none⟩) 1 1) 1 (rv r) w := by
  rw [hz1]
  have hsg := seg_block hv
  rcases hsg with e | ⟨b,off,e,hat⟩
  · cases e
  ·
   cases e
   have h' := news_of hat
   rw [List.flatMap_cons,List.flatMap_nil,List.append_nil] at h'
   exact Src.ofSlice w Tryz.underlying62 ⟨vb,0,none⟩ 1 1 (rv r) rfl (fun j u hj => h' j u hj) (fun v hv => by have := one_cell [r] v (by rw [List.flatMap_cons,List.flatMap_nil,List.append_nil]; exact hv); exact this)
 have hsl := slice_from g n c n 0 (c - n) (n : Int) rfl (by omega) (by omega) (by omega) (by omega) hm
 have hcell : ∀ j,j < (rv r).length → (w.cell? ⟨g,0 + n * i0.size + j,none⟩).isSome = true := fun j hj => by
  rw [rv_len] at hj
  rw [hz1,Nat.zero_add,cell_of_row w g _ _ _ _ h,List.getElem?_toArray,flat_at (M ++ z :: Z) n j (by rw [List.length_append,List.length_cons]; omega) hj]
  rw [List.getElem?_eq_getElem (by rw [rv_len]; exact hj)]
  rfl
 have hfz : ∀ j,j < (rv r).length → w.frozen? ⟨g,0 + n * i0.size + j,none⟩ = false := fun j _ => h.frozen _
 have HP : Hid (Block (w.setCells g (n * 4) (rv r)) g ((M ++ [r]) ++ Z)) := by
  have hst := h.store n (by rw [List.length_append,List.length_cons]; omega) r
  rw [hn,set_at,← hn] at hst
  exact hst
 have HB : Hid (∀ B w0,Below B w0 w → B ≤ g → Below B w0 (w.setCells g (n * 4) (rv r))) := by
  intro B w0 hb hg
  exact below_store hb hg n _ _ _ _
 have hcn : n + 1 ≤ c := by omega
 have HH := Lib.hid h
 have HV := Lib.hid hv
 have hn1 : (n : Int) ≤ 1000 := by omega
 clear h hv hc hcl hn
 go_enter Tryz.func182,Tryz.ntmps182
 go_wp2_with (at_builtin; go_must (refine wpList_append_room_src w rfl (.tmp 23) (.tmp 24) 62 62 rfl 105 i0 Tryz.underlying62 hi g 0 n c rfl _ rfl 1 (rv r) hsrc hcn hcell hfz ?_))
 go_ret
 exact ⟨rfl,HP.out,HB.out⟩
theorem laid_up (M Z : List T) (z : T) (i : Nat) (hi : i < M.length) : laid (M ++ z :: Z) (M.drop i) (i + 1) = M.take (i + 1) ++ M.drop i ++ Z := by
 have e1 : (M ++ z :: Z).take (i + 1) = M.take (i + 1) := List.take_append_of_le_length (by omega)
 have e2 : (M ++ z :: Z).drop (i + 1 + (M.drop i).length) = Z := by
  rw [List.length_drop,show i + 1 + (M.length - i) = (M ++ [z]).length by rw [List.length_append,List.length_singleton]; omega,show M ++ z :: Z = (M ++ [z]) ++ Z by simp,List.drop_left]
 unfold laid
 rw [e1,e2]
theorem laid_in (M Z : List T) (r : T) (i : Nat) (hi : i < M.length) : laid (M.take (i + 1) ++ M.drop i ++ Z) [r] i = (M.take i ++ r :: M.drop i) ++ Z := by
 have e1 : (M.take (i + 1) ++ M.drop i ++ Z).take i = M.take i := by
  rw [List.append_assoc,List.take_append_of_le_length (by rw [List.length_take]; omega),List.take_take,Nat.min_eq_left (by omega)]
 have e2 : (M.take (i + 1) ++ M.drop i ++ Z).drop (i + [r].length) = M.drop i ++ Z := by
  rw [List.append_assoc,List.drop_left' (by rw [List.length_take,List.length_singleton]; omega)]
 unfold laid
 rw [e1,e2]
 simp only [List.append_assoc,List.cons_append,List.nil_append]
theorem size4 (u : World) : (sizeOf 105).run Tryz.prog u = .ok 4 u := by
 obtain ⟨i,hi,hs⟩ := Option.map_eq_some_iff.1 sizeZ
 simp [sizeOf,typeInfo,hi,hs]
set_option maxHeartbeats 4000000 in
theorem insert_mid (w : World) (g c vb n i : Nat) (M Z : List T) (z r : T) (h : Block w g (M ++ z :: Z)) (hn : n = M.length) (hc : c = (M ++ z :: Z).length) (hm : c ≤ 1000) (hv : w.heap[vb]? = some (block r)) (hne : vb ≠ g) (hi : i < n) :
  Calls Tryz.prog 182 #[.slice (some ⟨g,0,none⟩) n c,.int .i64 (i : Int),.slice (some ⟨vb,0,none⟩) 1 1] w fun e w' =>
   e = .returned (.slice (some ⟨g,0,none⟩) (n + 1) c) ∧ Block w' g ((M.take i ++ r :: M.drop i) ++ Z) ∧ (∀ B w0,Below B w0 w → B ≤ g → Below B w0 w') := by
 have hcl : c = n + 1 + Z.length := by rw [hc,List.length_append,List.length_cons,← hn]; omega
 have hs1 := slice_from g n c i (n - i) (c - i) (i : Int) rfl (by omega) (by omega) (by omega) (by omega) hm
 have hs2 := slice_to g n c (n + 1) ((n : Int) + 1) (by omega) (by omega) hm
 have hs3 := slice_from g (n + 1) c (i + 1) (n - i) (c - (i + 1)) ((i : Int) + 1) (by omega) (by omega) (by omega) (by omega) (by omega) hm
 have hs4 := slice_from g (n + 1) c i (n + 1 - i) (c - i) (i : Int) rfl (by omega) (by omega) (by omega) (by omega) hm
 have hov : ∀ lb cb,(callFunc 195 #[.slice (some ⟨vb,0,none⟩) 1 1,.slice (some ⟨g,(i + 1) * 4,none⟩) lb cb]).run Tryz.prog w = .ok (.value (.bool false)) w := fun lb cb => by
  rw [run_callFunc_extern Tryz.func195 (by kernel_rfl) (by kernel_rfl) (by kernel_rfl) (e := Extern.SlicesOverlaps.overlaps #[62,62] #[4]) (by kernel_rfl),
   Lib.run_overlaps_apart w 62 4 105 Tryz.underlying62 4 size4 ⟨vb,0,none⟩ ⟨g,(i + 1) * 4,none⟩ 1 1 lb cb hne 105 105 4 ((M ++ z :: Z).length * 4) (by unfold World.shape?; rw [hv]; rfl) h.shape (by rw [← hc]; omega) (frozen_of_row w vb 0 _ _ hv) (frozen_of_row w vb 4 _ _ hv)]
  rfl
 obtain ⟨W1,hW1⟩ : ∃ W1,w.drew.setRow g (cells (M.take (i + 1) ++ M.drop i ++ Z)) = W1 := ⟨_,rfl⟩
 have hB1 : Block W1 g (M.take (i + 1) ++ M.drop i ++ Z) := hW1 ▸ block_laid h.drew _
 have hd : (M.drop i).length = n - i := by rw [List.length_drop,hn]
 have hcp1 : ∀ ty dc sc,(Builtin.copy_ #[62,62] ty #[.slice (some ⟨g,(i + 1) * 4,none⟩) (n - i) dc,.slice (some ⟨g,i * 4,none⟩) (n + 1 - i) sc]).run Tryz.prog w.drew = .ok (goInt (n - i : Nat)) W1 := fun ty dc sc => by
  have hcp := copy_at w.drew g (M ++ z :: Z) (i + 1) (n - i) dc g (i * 4) (n + 1 - i) sc (M.drop i) h.drew (by rw [hd]; simp only [Nat.min_def]; split <;> omega) (by rw [hd,List.length_append,List.length_cons]; omega) (fun k hk => by
   have hr := h.drew.row (i + k) (by rw [List.length_append]; omega)
   rw [List.getElem_append_left (by omega)] at hr
   rw [List.getElem_drop,show i * 4 + k * 4 = (i + k) * 4 by omega]
   exact hr) ty
  rw [laid_up M Z z i (by omega),hW1,hd] at hcp
  exact hcp
 have hvW : W1.heap[vb]? = some (block r) := by
  rw [← hW1,setRow_other w.drew g vb _ hne]
  exact hv
 obtain ⟨W2,hW2⟩ : ∃ W2,W1.setRow g (cells ((M.take i ++ r :: M.drop i) ++ Z)) = W2 := ⟨_,rfl⟩
 have hcp2 : ∀ ty dc,(Builtin.copy_ #[62,62] ty #[.slice (some ⟨g,i * 4,none⟩) (n + 1 - i) dc,.slice (some ⟨vb,0,none⟩) 1 1]).run Tryz.prog W1 = .ok (goInt 1) W2 := fun ty dc => by
  have hsg := seg_block hvW
  have hcp := copy_at W1 g (M.take (i + 1) ++ M.drop i ++ Z) i (n + 1 - i) dc vb 0 1 1 [r] hB1 (by simp only [Nat.min_def,List.length_singleton]; split <;> omega) (by simp only [List.length_append,List.length_take,hd,List.length_singleton]; omega) (by
   rcases hsg with e | ⟨b,off,e,hat⟩
   · cases e
   ·
    cases e
    exact hat) ty
  rw [laid_in M Z r i (by omega),hW2] at hcp
  exact hcp
 have HP : Hid (Block W2 g ((M.take i ++ r :: M.drop i) ++ Z)) := by
  show Block W2 g _
  rw [← hW2]
  exact block_laid hB1 _
 have HB : Hid (∀ B w0,Below B w0 w → B ≤ g → Below B w0 W2) := by
  intro B w0 hb hg
  rw [← hW2,← hW1]
  exact below_setRow (below_setRow hb.drew hg _) hg _
 have hin : ¬ ((i : Int) = (n : Int)) := by omega
 have hin' : ((i : Int) == (n : Int)) = false := by simpa using hin
 have hcn : (n : Int) + 1 ≤ (c : Int) := by omega
 have hc1 : (c : Int) ≤ 1000 := by omega
 have hi1 : (i : Int) + 1 ≤ (n : Int) := by omega
 clear h hv hc hcl hn hW1 hW2 hB1 hd hvW hne
 go_enter Tryz.func182,Tryz.ntmps182
 go_wp2_with (simp only [hov])
 go_region
 go_wp2_with fail
 go_ret
 exact ⟨rfl,HP.out,HB.out⟩
end Go.Proofs.YtjpfpojbalepeaaGreat.Pt
namespace Go.Proofs.YtjpfpojbalepeaaGreat
open Go.RowKit
open Mem
theorem inv_clone (rs : List Pt.T) (ao : Option Addr) (n cap : Nat) (w : World) (hR : Pt.Ls w ao n cap rs) (hn : n ≤ 1000) :
  Calls Tryz.prog 154 #[.slice ao n cap] w fun e w' => e = .returned (.slice (some ⟨w.heap.size,0,none⟩) n n) ∧ Pt.Block w' w.heap.size rs ∧ Below w.heap.size w w' := by
 have HR := Lib.hid hR
 have hcap := hR.reach
 have hfit := hR.fits
 have hmk := Pt.make n (by omega)
 have hblk0 := Pt.block_made w n
 have hbel0 : Below w.heap.size w (w.alloc (.cells (Pt.zeros n) 105)) := (Below.refl _ _).alloc (Nat.le_refl _) _
 obtain ⟨W1,hcp,hblk,hbel,hsz⟩ := Pt.copy (w.alloc (.cells (Pt.zeros n) 105)) w.heap.size [] n ao n cap rs (by rw [List.append_nil]; exact hblk0) hR.len ((hR.below hbel0).seg)
 rw [List.length_nil,Nat.add_zero] at hcp
 rw [List.append_nil] at hblk
 have HB1 := Lib.hid (hbel _ _ hbel0 (Nat.le_refl _))
 have HBk := Lib.hid hblk
 clear hblk hbel hblk0 hbel0 hR
 go_enter Tryz.func154,Tryz.ntmps154
 go_wp2
 go_ret
 exact ⟨rfl,HBk.out,HB1.out⟩
theorem sub0 (x : Int) (w : World) (hx : Fit x) : Calls Tryz.prog 121 #[.int .i64 0,.int .i64 x] w fun e w' => e = both (Mn.amt (-x)) (Mn.err (-x)) ∧ w' = w := by
 have h := sub_any 0 x w (by decide) hx
 rw [Int.zero_sub] at h
 exact h
def TurnE (n : Nat) (v : Nat → Int) (W : Nat → World) (e : Ending) (w' : World) : Prop :=
 ((∀ k,k < n → Mn.err (-(v k)) = 0) ∧ e = .returned (.int .i64 0) ∧ w' = W n) ∨ (∃ k,k < n ∧ Mn.err (-(v k)) ≠ 0 ∧ e = .returned (.int .i64 7) ∧ w' = W k)
set_option maxHeartbeats 2000000 in
theorem inv_turn (vb g n : Nat) (o : Nat → Nat) (v : Nat → Int) (W : Nat → World) (hn : n ≤ 3)
  (hp : ∀ k,k < n → (W k).cell? ⟨vb,k,none⟩ = some (.pointer (some ⟨g,o k,none⟩))) (hc : ∀ k,k < n → (W k).cell? ⟨g,o k,none⟩ = some (.int .i64 (v k))) (hf : ∀ k,k < n → (W k).frozen? ⟨g,o k,none⟩ = false)
  (hs : ∀ k,k < n → (W k).setCell ⟨g,o k,none⟩ (.int .i64 (-(v k))) = W (k + 1)) (hv : ∀ k,k < n → Fit (v k)) :
  Calls Tryz.prog 155 #[.slice (some ⟨vb,0,none⟩) n n] (W 0) (TurnE n v W) := by
 have HP := Lib.hid hp
 have HC := Lib.hid hc
 have HF := Lib.hid hf
 have HS := Lib.hid hs
 have HV := Lib.hid hv
 clear hp hc hf hs hv
 go_enter Tryz.func155,Tryz.ntmps155
 go_wp2_with fail
 go_loopw [4,5,6,9] (fun _ _ _ i wr => ∃ k : Nat,k ≤ n ∧ i = .int .i64 k ∧ wr = W k ∧ Hid (∀ j,j < k → Mn.err (-(v j)) = 0)) (fun _ _ _ i _ => n - (intOf i).toNat)
 case atStart => exact ⟨0,by omega,rfl,rfl,Lib.hid fun j hj => by omega⟩
 case round =>
  obtain ⟨k,hk,rfl,hwr,HE⟩ := hrel
  by_cases hlt : k < n
  ·
   have h1 := HP.out k hlt
   have h2 := HC.out k hlt
   have h3 := HF.out k hlt
   have HS1 := Lib.hid (HS.out k hlt)
   have HV1 := Lib.hid (HV.out k hlt)
   rw [← hwr] at h1 h2 h3 HS1
   have HWr := Lib.hid hwr
   obtain ⟨x,hx⟩ : ∃ x,v k = x := ⟨_,rfl⟩
   obtain ⟨p,hop⟩ : ∃ p,o k = p := ⟨_,rfl⟩
   have HX := Lib.hid hx
   rw [hx] at h2 HS1 HV1
   rw [hop] at h1 h2 h3 HS1
   clear hwr hx hop
   go_wp2_with fail
   refine (sub0 x _ HV1.out).mono ?_
   rintro e w1 ⟨rfl,hw1⟩
   subst hw1
   unfold both
   rcases Mn.err_two (-x) with e1 | e1
   ·
    have HE1 := Lib.hid e1
    rw [e1,Mn.amt_fit (Iv.err_0 e1)]
    clear e1
    go_wp2_with fail
    go_roundw
    case rel =>
     refine ⟨k + 1,by omega,by go_num,HS1.out,Lib.hid fun j hj => ?_⟩
     by_cases e : j < k
     · exact HE.out j e
     ·
      obtain rfl : j = k := by omega
      rw [HX.out]
      exact HE1.out
    case measure => simp [intOf]; omega
   ·
    have HE1 := Lib.hid e1
    rw [e1]
    clear e1
    go_wp2_with fail
    go_ret
    exact .inr ⟨k,hlt,by rw [HX.out,HE1.out]; omega,rfl,HWr.out⟩
  ·
   obtain rfl : k = n := by omega
   have HWr := Lib.hid hwr
   clear hwr
   go_wp2_with fail
   go_ret
   exact .inl ⟨HE.out,rfl,HWr.out⟩
end Go.Proofs.YtjpfpojbalepeaaGreat
namespace Go.Proofs.YtjpfpojbalepeaaGreat
open Go.RowKit
open Mem
structure Upd (X w' : World) (g : Nat) : Prop where
 bel : ∀ B w0,Below B w0 X → B ≤ g → Below B w0 w'
 blk : ∀ i,i ≠ g → w'.heap[i]? = X.heap[i]?
theorem Upd.refl (X : World) (g : Nat) : Upd X X g := ⟨fun _ _ h _ => h,fun _ _ => rfl⟩
theorem Upd.set {X w' : World} {g : Nat} (h : Upd X w' g) (o : Nat) (x : Value) : Upd X (w'.setCell ⟨g,o,none⟩ x) g :=
 ⟨fun B w0 hb hg => (h.bel B w0 hb hg).setCell hg x,fun i hi => (heap_setCell_other w' ⟨g,o,none⟩ i x hi).trans (h.blk i hi)⟩
theorem Upd.at {X w' : World} {g i : Nat} (h : Upd X w' g) (hi : i ≠ g) {n t s : Int} {v : Value} (a : Tt.At X i n t s v) : Tt.At w' i n t s v := (h.blk i hi).trans a
theorem Upd.block {X w' : World} {g i : Nat} (h : Upd X w' g) (hi : i ≠ g) {M : List Pt.T} (a : Pt.Block X i M) : Pt.Block w' i M := (h.blk i hi).trans a
theorem turn3 (X : World) (h vb : Nat) (a b c : Int) (v : Value) (hA : Tt.At X h a b c v) (hP : X.heap[vb]? = some (.cells #[.pointer (some ⟨h,0,none⟩),.pointer (some ⟨h,1,none⟩),.pointer (some ⟨h,2,none⟩)] 196 (0,0))) (hne : vb ≠ h) (ha : Fit a) (hb : Fit b) (hc : Fit c) :
  Calls Tryz.prog 155 #[.slice (some ⟨vb,0,none⟩) 3 3] X fun e w' => Upd X w' h ∧ ((Mn.err (-a) = 0 ∧ Mn.err (-b) = 0 ∧ Mn.err (-c) = 0 ∧ e = .returned (.int .i64 0) ∧ Tt.At w' h (-a) (-b) (-c) v) ∨ ((Mn.err (-a) ≠ 0 ∨ Mn.err (-b) ≠ 0 ∨ Mn.err (-c) ≠ 0) ∧ e = .returned (.int .i64 7))) := by
 have hA1 := hA.set0 (-a)
 have hA2 := hA1.set1 (-b)
 have hA3 := hA2.set2 (-c)
 have hU1 := (Upd.refl X h).set 0 (.int .i64 (-a))
 have hU2 := hU1.set 1 (.int .i64 (-b))
 have hU3 := hU2.set 2 (.int .i64 (-c))
 obtain ⟨X1,hX1⟩ : ∃ X1,X.setCell ⟨h,0,none⟩ (.int .i64 (-a)) = X1 := ⟨_,rfl⟩
 rw [hX1] at hA1 hA2 hA3 hU1 hU2 hU3
 obtain ⟨X2,hX2⟩ : ∃ X2,X1.setCell ⟨h,1,none⟩ (.int .i64 (-b)) = X2 := ⟨_,rfl⟩
 rw [hX2] at hA2 hA3 hU2 hU3
 obtain ⟨X3,hX3⟩ : ∃ X3,X2.setCell ⟨h,2,none⟩ (.int .i64 (-c)) = X3 := ⟨_,rfl⟩
 rw [hX3] at hA3 hU3
 have hP1 := (hU1.blk vb hne).trans hP
 have hP2 := (hU2.blk vb hne).trans hP
 refine (inv_turn vb h 3 (fun k => k) (fun k => [a,b,c].getD k 0) (fun k => [X,X1,X2,X3].getD k X3) (Nat.le_refl _) ?_ ?_ ?_ ?_ ?_).mono ?_
 ·
  intro k hk
  match k,hk with
  | 0,_ => exact (cell_of_row X vb _ _ _ _ hP).trans rfl
  | 1,_ => exact (cell_of_row X1 vb _ _ _ _ hP1).trans rfl
  | 2,_ => exact (cell_of_row X2 vb _ _ _ _ hP2).trans rfl
 ·
  intro k hk
  match k,hk with
  | 0,_ => exact hA.cells.1
  | 1,_ => exact hA1.cells.2.1
  | 2,_ => exact hA2.cells.2.2.1
 ·
  intro k hk
  match k,hk with
  | 0,_ => exact hA.frozen 0
  | 1,_ => exact hA1.frozen 1
  | 2,_ => exact hA2.frozen 2
 ·
  intro k hk
  match k,hk with
  | 0,_ => exact hX1
  | 1,_ => exact hX2
  | 2,_ => exact hX3
 ·
  intro k hk
  match k,hk with
  | 0,_ => exact ha
  | 1,_ => exact hb
  | 2,_ => exact hc
 ·
  rintro e w' (⟨h1,h2,h3⟩ | ⟨k,hk,h1,h2,h3⟩)
  ·
   subst h3
   exact ⟨hU3,.inl ⟨h1 0 (by omega),h1 1 (by omega),h1 2 (by omega),h2,hA3⟩⟩
  ·
   match k,hk with
   | 0,_ => exact ⟨h3 ▸ Upd.refl X h,.inr ⟨.inl h1,h2⟩⟩
   | 1,_ => exact ⟨h3 ▸ hU1,.inr ⟨.inr (.inl h1),h2⟩⟩
   | 2,_ => exact ⟨h3 ▸ hU2,.inr ⟨.inr (.inr h1),h2⟩⟩
theorem turn2 (X : World) (g vb k : Nat) (M : List Pt.T) (r : Pt.T) (hk : k < M.length) (hr : M[k] = r) (hB : Pt.Block X g M) (hP : X.heap[vb]? = some (.cells #[.pointer (some ⟨g,k * 4 + 2,none⟩),.pointer (some ⟨g,k * 4 + 3,none⟩)] 196 (0,0))) (hne : vb ≠ g) (ha : Fit r.net) (hb : Fit r.tax) :
  Calls Tryz.prog 155 #[.slice (some ⟨vb,0,none⟩) 2 2] X fun e w' => Upd X w' g ∧ ((Iv.badP r = false ∧ e = .returned (.int .i64 0) ∧ Pt.Block w' g (M.set k (Iv.negP r))) ∨ (Iv.badP r = true ∧ e = .returned (.int .i64 7))) := by
 have hB1 := hB.put k 2 hk (by omega) (.int .i64 (-r.net)) ⟨r.cat,r.bp,-r.net,r.tax⟩ (by rw [hr]; rfl)
 have hk1 : k < (M.set k ⟨r.cat,r.bp,-r.net,r.tax⟩).length := by rw [List.length_set]; exact hk
 have hr1 : (M.set k ⟨r.cat,r.bp,-r.net,r.tax⟩)[k] = ⟨r.cat,r.bp,-r.net,r.tax⟩ := List.getElem_set_self ..
 have hB2 := hB1.put k 3 hk1 (by omega) (.int .i64 (-r.tax)) (Iv.negP r) (by rw [hr1]; rfl)
 rw [List.set_set] at hB2
 have hU1 := (Upd.refl X g).set (k * 4 + 2) (.int .i64 (-r.net))
 have hU2 := hU1.set (k * 4 + 3) (.int .i64 (-r.tax))
 obtain ⟨X1,hX1⟩ : ∃ X1,X.setCell ⟨g,k * 4 + 2,none⟩ (.int .i64 (-r.net)) = X1 := ⟨_,rfl⟩
 rw [hX1] at hB1 hB2 hU1 hU2
 obtain ⟨X2,hX2⟩ : ∃ X2,X1.setCell ⟨g,k * 4 + 3,none⟩ (.int .i64 (-r.tax)) = X2 := ⟨_,rfl⟩
 rw [hX2] at hB2 hU2
 have hP1 := (hU1.blk vb hne).trans hP
 have hrow0 := hB.row k hk
 have hrow1 := hB1.row k hk1
 rw [hr] at hrow0
 rw [hr1] at hrow1
 refine (inv_turn vb g 2 (fun j => k * 4 + 2 + j) (fun j => [r.net,r.tax].getD j 0) (fun j => [X,X1,X2].getD j X2) (by omega) ?_ ?_ ?_ ?_ ?_).mono ?_
 ·
  intro j hj
  match j,hj with
  | 0,_ => exact (cell_of_row X vb _ _ _ _ hP).trans rfl
  | 1,_ => exact (cell_of_row X1 vb _ _ _ _ hP1).trans rfl
 ·
  intro j hj
  match j,hj with
  | 0,_ => exact hrow0.3
  | 1,_ => exact hrow1.4
 ·
  intro j hj
  match j,hj with
  | 0,_ => exact hB.frozen _
  | 1,_ => exact hB1.frozen _
 ·
  intro j hj
  match j,hj with
  | 0,_ => exact hX1
  | 1,_ => exact hX2
 ·
  intro j hj
  match j,hj with
  | 0,_ => exact ha
  | 1,_ => exact hb
 ·
  rintro e w' (⟨h1,h2,h3⟩ | ⟨j,hj,h1,h2,h3⟩)
  ·
   subst h3
   exact ⟨hU2,.inl ⟨Iv.bad_no (h1 0 (by omega)) (h1 1 (by omega)),h2,hB2⟩⟩
  ·
   match j,hj with
   | 0,_ => exact ⟨h3 ▸ Upd.refl X g,.inr ⟨Iv.bad_yes (.inl h1),h2⟩⟩
   | 1,_ => exact ⟨h3 ▸ hU1,.inr ⟨Iv.bad_yes (.inr h1),h2⟩⟩
def Iv.mixN (ps : List Pt.T) (k : Nat) : List Pt.T := (ps.take k).map Iv.negP ++ ps.drop k
theorem Iv.mixN_len (ps : List Pt.T) (k : Nat) : (Iv.mixN ps k).length = ps.length := by
 unfold Iv.mixN
 rw [List.length_append,List.length_map,List.length_take,List.length_drop]
 omega
theorem Iv.mixN_at (ps : List Pt.T) (k : Nat) (h : k < ps.length) : (Iv.mixN ps k)[k]'(by rw [Iv.mixN_len]; exact h) = ps[k] := by
 have h1 : (Iv.mixN ps k)[k]? = some ps[k] := by
  unfold Iv.mixN
  rw [List.getElem?_append_right (by rw [List.length_map,List.length_take]; omega),List.length_map,List.length_take,Nat.min_eq_left (by omega),Nat.sub_self,List.getElem?_drop,Nat.add_zero,List.getElem?_eq_getElem h]
 exact Option.some.inj ((List.getElem?_eq_getElem _).symm.trans h1)
theorem Iv.mixN_set (ps : List Pt.T) (k : Nat) (h : k < ps.length) : (Iv.mixN ps k).set k (Iv.negP ps[k]) = Iv.mixN ps (k + 1) := by
 unfold Iv.mixN
 rw [List.set_append_right _ _ (by rw [List.length_map,List.length_take]; omega),List.length_map,List.length_take,Nat.min_eq_left (by omega),Nat.sub_self,List.drop_eq_getElem_cons h,List.set_cons_zero,List.take_succ_eq_append_getElem h,List.map_append]
 simp
structure KSt (w wr : World) (h g n : Nat) (t : Iv.Tot) (k : Nat) : Prop where
 hw : w.heap.size = h
 lo : h + 2 ≤ g
 bel : Below w.heap.size w wr
 tot : Tt.At wr h (-t.net) (-t.tax) (-t.gross) (.slice (some ⟨g,0,none⟩) n n)
 res : Tt.At wr (h + 1) 0 0 0 (.slice none 0 0)
 blk : Pt.Block wr g (Iv.mixN t.parts k)
 ok : ∀ r ∈ t.parts.take k,Iv.badP r = false
theorem KSt.below {w wr v : World} {h g n k : Nat} {t : Iv.Tot} (H : KSt w wr h g n t k) (b : Below wr.heap.size wr v) : KSt w v h g n t k :=
 ⟨H.hw,H.lo,bchain H.bel b,H.tot.below b,H.res.below b,H.blk.below b,H.ok⟩
set_option maxHeartbeats 4000000 in
theorem inv_back (t : Iv.Tot) (ao : Option Addr) (p cap : Nat) (w : World) (hL : Pt.Ls w ao p cap t.parts) (hn : Fit t.net) (ht : Fit t.tax) (hg : Fit t.gross) (hp : p ≤ 1000) :
  Calls Tryz.prog 119 #[Tt.val t.net t.tax t.gross (.slice ao p cap)] w (Tt.Ans w (Iv.backE t) (Iv.backT t)) := by
 have HL := Lib.hid hL
 have HLn := Lib.hid hL.len
 have HF := Lib.hid (And.intro hn (And.intro ht hg))
 clear hL hn ht hg
 have hb1 := Tt.below_own w t.net t.tax t.gross (.slice ao p cap)
 have hb2 := Tt.below_own (Tt.box w t.net t.tax t.gross (.slice ao p cap)) 0 0 0 (.slice none 0 0)
 have h1 := (Tt.at_box w t.net t.tax t.gross (.slice ao p cap)).below hb2
 have h2 := Tt.at_box (Tt.box w t.net t.tax t.gross (.slice ao p cap)) 0 0 0 (.slice none 0 0)
 rw [Tt.box_size] at h2
 obtain ⟨U,hU⟩ : ∃ U,Tt.box (Tt.box w t.net t.tax t.gross (.slice ao p cap)) 0 0 0 (.slice none 0 0) = U := ⟨_,rfl⟩
 rw [hU] at h1 h2 hb2
 have HB := Lib.hid (bchain hb1 hb2)
 have HA1 := Lib.hid h1
 have HA2 := Lib.hid h2
 have HUs : Hid ((w.alloc (.cells #[.int .i64 t.net,.int .i64 t.tax,.int .i64 t.gross,.slice ao p cap] 64)).alloc (.cells #[.int .i64 0,.int .i64 0,.int .i64 0,.slice none 0 0] 64) = U) := Lib.hid hU
 obtain ⟨h,hh⟩ : ∃ h,w.heap.size = h := ⟨_,rfl⟩
 have HHw := Lib.hid hh
 rw [hh] at HA1 HA2
 clear hb1 hb2 h1 h2 hU
 unfold Tt.val
 go_enter Tryz.func119,Tryz.ntmps119
 go_wp2_with fail
 rw [HUs.out]
 clear HUs hh
 refine (inv_clone t.parts ao p cap _ (HL.out.below HB.out) hp).mono ?_
 rintro e w1 ⟨rfl,hB1,b1⟩
 obtain ⟨g,hgU⟩ : ∃ g,U.heap.size = g := ⟨_,rfl⟩
 rw [hgU] at hB1
 rw [hgU]
 have HGl : Hid (h + 2 ≤ g) := Lib.hid (by have := HA2.out.lt; omega)
 have HA1' := Lib.hid (HA1.out.below b1)
 have HS1 : Hid (Tt.At (w1.setCell ⟨h,3,none⟩ (.slice (some ⟨g,0,none⟩) p p)) h t.net t.tax t.gross (.slice (some ⟨g,0,none⟩) p p)) := Lib.hid (HA1'.out.set3 _)
 have HS2 : Hid (Tt.At (w1.setCell ⟨h,3,none⟩ (.slice (some ⟨g,0,none⟩) p p)) (h + 1) 0 0 0 (.slice none 0 0)) := Lib.hid ((HA2.out.below b1).far (by omega) _ _)
 have HS3 : Hid (Pt.Block (w1.setCell ⟨h,3,none⟩ (.slice (some ⟨g,0,none⟩) p p)) g t.parts) := Lib.hid (hB1.far (by have := HGl.out; omega) _ _)
 have HS4 : Hid (Below w.heap.size w (w1.setCell ⟨h,3,none⟩ (.slice (some ⟨g,0,none⟩) p p))) := Lib.hid (bset (bchain HB.out b1) (by have := HHw.out; omega) _ _)
 obtain ⟨t0,t1,t2,t3⟩ := HA1'.out.cells
 have f3 := HA1'.out.frozen 3
 obtain ⟨V,hV⟩ : ∃ V,w1.setCell ⟨h,3,none⟩ (.slice (some ⟨g,0,none⟩) p p) = V := ⟨_,rfl⟩
 rw [hV] at HS1 HS2 HS3 HS4
 clear hB1 b1 hgU HA1 HA2 HA1' HB
 go_wp2_with fail
 clear t0 t1 t2 t3 f3 hV
 have hbv : Below V.heap.size V (V.alloc (.cells #[.pointer (some ⟨h,0,none⟩),.pointer (some ⟨h,1,none⟩),.pointer (some ⟨h,2,none⟩)] 196)) := (Below.refl _ _).alloc (Nat.le_refl _) _
 refine (turn3 _ h V.heap.size t.net t.tax t.gross _ (HS1.out.below hbv) (heap_alloc_new V _) (Nat.ne_of_gt HS1.out.lt) HF.out.1 HF.out.2.1 HF.out.2.2).mono ?_
 rintro e w2 ⟨hU2,hcase⟩
 have HU2 : Hid (Below w.heap.size w w2 ∧ Tt.At w2 (h + 1) 0 0 0 (.slice none 0 0) ∧ Pt.Block w2 g t.parts) := Lib.hid ⟨hU2.bel _ _ (bchain HS4.out hbv) (by rw [HHw.out]; exact Nat.le_refl _),hU2.at (by omega) (HS2.out.below hbv),hU2.block (by have := HGl.out; omega) (HS3.out.below hbv)⟩
 clear hU2 hbv HS1 HS2 HS3 HS4
 rcases hcase with ⟨e1,e2,e3,rfl,hA⟩ | ⟨hbad,rfl⟩
 ·
  have HE := Lib.hid (And.intro e1 (And.intro e2 e3))
  have HK : Hid (KSt w w2 h g p t 0) := Lib.hid ⟨HHw.out,HGl.out,HU2.out.1,hA,HU2.out.2.1,HU2.out.2.2,by simp⟩
  clear e1 e2 e3 hA HU2
  obtain ⟨t0,t1,t2,t3⟩ := HK.out.tot.cells
  go_wp2_with fail
  clear t0 t1 t2 t3
  go_loopw [5,6,23] (fun _ _ i wr => ∃ k : Nat,k ≤ p ∧ i = .int .i64 k ∧ Hid (KSt w wr h g p t k)) (fun _ _ i _ => p - (intOf i).toNat)
  case atStart => exact ⟨0,by omega,rfl,HK⟩
  case round =>
   clear HK
   rename World => wz
   obtain ⟨k,hk,rfl,H⟩ := hrel
   by_cases hlt : k < p
   ·
    have hkp : k < t.parts.length := HLn.out ▸ hlt
    have hkm : k < (Iv.mixN t.parts k).length := by rw [Iv.mixN_len]; exact hkp
    have hrk := Iv.mixN_at t.parts k hkp
    have HSt := Lib.hid (Iv.mixN_set t.parts k hkp)
    have HTk := Lib.hid (List.take_succ_eq_append_getElem hkp)
    have HSh := Lib.hid (HL.out.short _ (List.getElem_mem hkp))
    have HMm : Hid (t.parts[k] ∈ t.parts) := Lib.hid (List.getElem_mem hkp)
    obtain ⟨r,hr⟩ : ∃ r,t.parts[k] = r := ⟨_,rfl⟩
    rw [hr] at hrk HSt HTk HSh HMm
    have HRk := Lib.hid hrk
    clear hr hrk
    obtain ⟨t0,t1,t2,t3⟩ := H.out.tot.cells
    have HTn : Hid (∀ X,Below wz.heap.size wz X → X.heap[wz.heap.size]? = some (.cells #[.pointer (some ⟨g,k * 4 + 2,none⟩),.pointer (some ⟨g,k * 4 + 3,none⟩)] 196 (0,0)) → Calls Tryz.prog 155 #[.slice (some ⟨wz.heap.size,0,none⟩) 2 2] X fun e w' => ∃ E : Int,e = .returned (.int .i64 E) ∧ ((E = 0 ∧ KSt w w' h g p t (k + 1)) ∨ (E = 7 ∧ Iv.badP r = true ∧ Below w.heap.size w w' ∧ Tt.At w' (h + 1) 0 0 0 (.slice none 0 0)))) := Lib.hid fun X hX ho => by
     have H1 := H.out.below hX
     have lo := H1.lo
     refine (turn2 _ g wz.heap.size k _ r hkm HRk.out H1.blk ho (Nat.ne_of_gt H.out.blk.lt) HSh.out.2.2.1 HSh.out.2.2.2).mono ?_
     rintro e w' ⟨hUp,⟨hb,he,hB⟩ | ⟨hb,he⟩⟩
     ·
      refine ⟨0,he,.inl ⟨rfl,H1.hw,H1.lo,hUp.bel _ _ H1.bel (by have := H1.hw; omega),hUp.at (by omega) H1.tot,hUp.at (by omega) H1.res,by rw [← HSt.out]; exact hB,?_⟩⟩
      rw [HTk.out]
      intro x hx
      rcases List.mem_append.1 hx with hx | hx
      · exact H1.ok x hx
      ·
       obtain rfl := List.mem_singleton.1 hx
       exact hb
     · exact ⟨7,he,.inr ⟨rfl,hb,hUp.bel _ _ H1.bel (by have := H1.hw; omega),hUp.at (by omega) H1.res⟩⟩
    clear HSt HTk HRk
    have hkp1 : k ≤ 1000 := by omega
    go_wp2_with fail
    go_cut [6] (fun e wx => ∃ E : Int,e = .int .i64 E ∧ Hid ((E = 0 ∧ KSt w wx h g p t (k + 1)) ∨ (E = 7 ∧ Iv.badP r = true ∧ Below w.heap.size w wx ∧ Tt.At wx (h + 1) 0 0 0 (.slice none 0 0))))
    case first =>
     go_region_with (go_at_call 155; refine (HTn.out _ (by first | exact (Below.refl _ _).alloc (Nat.le_refl _) _ | exact ((Below.refl _ _).alloc (Nat.le_refl _) _).drew) (by first | exact heap_alloc_new wz _)).mono ?_; rintro e u ⟨E,rfl,hcs⟩; have HCs := Lib.hid hcs; clear hcs)
     all_goals (try go_wp2_with fail)
     all_goals go_meet
     all_goals exact ⟨_,rfl,HCs⟩
    case rest =>
     clear HTn H t0 t1 t2 t3
     obtain ⟨E,rfl,HCs⟩ := hcut
     rcases HCs.out with ⟨rfl,hK⟩ | ⟨rfl,hbd⟩
     ·
      have H := Lib.hid hK
      clear hK
      go_wp2_with fail
      go_roundw
      case rel => exact ⟨k + 1,by omega,by go_num,H⟩
      case measure => simp [intOf]; omega
     ·
      have H := Lib.hid hbd
      clear hbd
      have HP := Lib.hid (Iv.back_part HE.out.1 HE.out.2.1 HE.out.2.2 HMm.out H.out.1)
      obtain ⟨z0,z1,z2,z3⟩ := H.out.2.2.cells
      have f0 := H.out.2.2.frozen 0
      have f1 := H.out.2.2.frozen 1
      have f2 := H.out.2.2.frozen 2
      have f3 := H.out.2.2.frozen 3
      go_wp2_with fail
      exact bodyPost_ret (v := .tuple #[Tt.val 0 0 0 (.slice none 0 0),.int .i64 7]) (by simp [results,Tt.val,Tryz.results119,go_sem,z0,z1,z2,z3]) rfl ⟨_,by rw [HP.out.1,HP.out.2]; rfl,by rw [HP.out.2]; exact Pt.own_nil _ _,bset (bset (bset (bset H.out.2.1 (by have := HHw.out; omega) _ _) (by have := HHw.out; omega) _ _) (by have := HHw.out; omega) _ _) (by have := HHw.out; omega) _ _⟩
   ·
    obtain rfl : k = p := by omega
    have HTk : Hid (t.parts.take k = t.parts) := Lib.hid (List.take_of_length_le (by rw [HLn.out]; exact Nat.le_refl _))
    have HP := Lib.hid (Iv.back_ok HE.out.1 HE.out.2.1 HE.out.2.2 (fun x hx => H.out.ok x (by rw [HTk.out]; exact hx)))
    obtain ⟨t0,t1,t2,t3⟩ := H.out.tot.cells
    obtain ⟨z0,z1,z2,z3⟩ := H.out.res.cells
    have f0 := H.out.res.frozen 0
    have f1 := H.out.res.frozen 1
    have f2 := H.out.res.frozen 2
    have f3 := H.out.res.frozen 3
    have HBe := Lib.hid (And.intro H.out.bel (And.intro H.out.hw H.out.lo))
    have HBk : Hid (Pt.Block wz g (t.parts.map Iv.negP)) := Lib.hid (by
     have hb := H.out.blk
     unfold Iv.mixN at hb
     rw [HTk.out,List.drop_eq_nil_of_le (Nat.le_of_eq HLn.out.symm),List.append_nil] at hb
     exact hb)
    go_wp2_with fail
    refine bodyPost_ret (v := .tuple #[Tt.val (-t.net) (-t.tax) (-t.gross) (.slice (some ⟨g,0,none⟩) k k),.int .i64 0]) (by simp [results,Tt.val,Tryz.results119,go_sem,z0,z1,z2,z3]) rfl ⟨.slice (some ⟨g,0,none⟩) k k,by rw [HP.out.1,HP.out.2]; rfl,?_,bset (bset (bset (bset HBe.out.1 (by have := HBe.out.2; omega) _ _) (by have := HBe.out.2; omega) _ _) (by have := HBe.out.2; omega) _ _) (by have := HBe.out.2; omega) _ _⟩
    rw [HP.out.2]
    have hlo := HBe.out.2.2
    have hb : Pt.Block _ g (t.parts.map Iv.negP) := ((((HBk.out.far (b := h + 1) (by omega) 0 (.int .i64 (-t.net))).far (b := h + 1) (by omega) 1 (.int .i64 (-t.tax))).far (b := h + 1) (by omega) 2 (.int .i64 (-t.gross))).far (b := h + 1) (by omega) 3 (.slice (some ⟨g,0,none⟩) k k))
    have ho : Pt.Own _ w.heap.size (.slice (some ⟨g,0,none⟩) k k) (t.parts.map Iv.negP) := Pt.own_of_block hb (by have := HBe.out.2; omega) (by rw [List.length_map]; exact HLn.out) (by omega)
    exact ho
 ·
  have HP := Lib.hid (Iv.back_head (t := t) hbad)
  clear hbad
  obtain ⟨z0,z1,z2,z3⟩ := HU2.out.2.1.cells
  have f0 := HU2.out.2.1.frozen 0
  have f1 := HU2.out.2.1.frozen 1
  have f2 := HU2.out.2.1.frozen 2
  have f3 := HU2.out.2.1.frozen 3
  go_wp2_with fail
  exact bodyPost_ret (v := .tuple #[Tt.val 0 0 0 (.slice none 0 0),.int .i64 7]) (by simp [results,Tt.val,Tryz.results119,go_sem,z0,z1,z2,z3]) rfl ⟨_,by rw [HP.out.1,HP.out.2]; rfl,by rw [HP.out.2]; exact Pt.own_nil _ _,bset (bset (bset (bset HU2.out.1 (by have := HHw.out; omega) _ _) (by have := HHw.out; omega) _ _) (by have := HHw.out; omega) _ _) (by have := HHw.out; omega) _ _⟩
end Go.Proofs.YtjpfpojbalepeaaGreat
namespace Go.Proofs.YtjpfpojbalepeaaGreat
open Go.RowKit
open Mem
open Go.Sort (grow)
def Pd.marked (r : Pd.T) : Pd.T := ⟨r.ser,r.num,r.y,r.m,r.d,r.net,r.tax,r.gross,r.parts,r.ofS,r.ofN,true⟩
theorem Bl.Each.mark {w : World} {rs : List Pd.T} {ps : List Bl.Ps} (h : Bl.Each w rs ps) (k : Nat) (hk : k < rs.length) : Bl.Each w (rs.set k (Pd.marked rs[k])) (Bl.mark ps k) := by
 have hl : (rs.set k (Pd.marked rs[k])).length = (Bl.mark ps k).length := by rw [List.length_set,Bl.mark_len]; exact h.len
 refine ⟨hl,fun i hi => ?_⟩
 have hi' : i < rs.length := by rw [List.length_set] at hi; exact hi
 have hx := h.each i hi'
 rw [Bl.mark_get ps k i (h.len ▸ hi')]
 rw [List.getElem_set]
 by_cases q : k = i
 ·
  subst q
  rw [if_pos rfl,if_pos rfl]
  exact ⟨hx.ser,hx.num,hx.y,hx.m,hx.d,hx.net,hx.tax,hx.gross,hx.parts,hx.ofS,hx.ofN,rfl⟩
 ·
  rw [if_neg q,if_neg q]
  exact hx
set_option maxHeartbeats 4000000 in
theorem bil_mark (P : Nat → Prop) (s : Bl.St) (h : Bl.Sv) (k : Nat) (w : World) (hL : Bl.Lp P w h s) (hk : k < s.post.length) (hn : h.post.n ≤ 1000) :
  Calls Tryz.prog 144 #[h.val,.int .i64 k] w (Bl.KeepE P w ⟨s.tab,s.ser,Bl.mark s.post k,s.book,s.sess,s.next⟩) := by
 have HL := Lib.hid hL
 obtain ⟨rs,hP,hE,hpi⟩ := hL.post
 have HPi := Lib.hid hpi
 have hpl := hP.len
 have hel := hE.len
 have hkn : k < h.post.n := by omega
 have hkr : k < rs.length := by omega
 have hcap := hP.reach
 have hfit := hP.fits
 have HPs := Lib.hid hP
 have HEs := Lib.hid hE
 obtain ⟨U,hU,hB,k0,k1,hs⟩ := Bl.al2 w (.cells #[.slice h.tab.ao h.tab.n h.tab.cap,.slice h.ser.ao h.ser.n h.ser.cap,.slice h.post.ao h.post.n h.post.cap,.slice h.book.ao h.book.n h.book.cap,.slice h.sess.ao h.sess.n h.sess.cap,.int .i64 h.next] 42) (.cells #[.slice none 0 0,.slice none 0 0,.slice none 0 0,.slice none 0 0,.slice none 0 0,.int .i64 0] 42)
 have hA : Bl.At U w.heap.size h := k0
 have hZ : Bl.At U (w.heap.size + 1) Bl.zsv := k1
 have hmk := Pd.make h.post.n (by omega)
 have hblk0 := Pd.block_made U h.post.n
 have hbel0 : Below U.heap.size U (U.alloc (.cells (Pd.zeros h.post.n) 66)) := (Below.refl _ _).alloc (Nat.le_refl _) _
 obtain ⟨W1,hcp,hblk,hbel,hsz⟩ := Pd.copy (U.alloc (.cells (Pd.zeros h.post.n) 66)) U.heap.size [] h.post.n h.post.ao h.post.n h.post.cap rs (by rw [List.append_nil]; exact hblk0) hP.len ((hP.below (bchain hB hbel0)).seg)
 rw [List.length_nil,Nat.add_zero] at hcp
 rw [List.append_nil] at hblk
 have hb1 := hbel _ _ hbel0 (Nat.le_refl _)
 have hO := Pd.own_of_block hblk (Nat.le_refl _) hP.len (by omega)
 have hA0 := hA.below hbel0
 have hA1 := hA.below hb1
 have hrow := hblk.row k hkr
 have c11 := hrow.c11
 have z11 := hblk.frozen (k * 12 + 11)
 have hO2 := Pd.own_put hO k 11 hkr (by omega) (.bool true) (Pd.marked rs[k]) rfl
 obtain ⟨X,hX⟩ : ∃ X,W1.setCell ⟨U.heap.size,k * 12 + 11,none⟩ (.bool true) = X := ⟨_,rfl⟩
 have hb2 : Below U.heap.size U X := hX ▸ bset hb1 (Nat.le_refl _) _ _
 rw [hX] at hO2
 have hA2 := hA.below hb2
 have hZ2 := hZ.below hb2
 have zf := hA2.frozen 2
 have hA3 : Bl.At (X.setCell ⟨w.heap.size,2,none⟩ (.slice (some ⟨U.heap.size,0,none⟩) h.post.n h.post.n)) w.heap.size ⟨h.tab,h.ser,⟨some ⟨U.heap.size,0,none⟩,h.post.n,h.post.n⟩,h.book,h.sess,h.next⟩ := (Bl.set_heap hA2 2 _).trans rfl
 have hZ3 := hZ2.away (b := w.heap.size) (by omega) 2 (.slice (some ⟨U.heap.size,0,none⟩) h.post.n h.post.n)
 obtain ⟨x0,x1,x2,x3,x4,x5⟩ := hA.cells
 obtain ⟨t0,t1,t2,t3,t4,t5⟩ := hA0.cells
 obtain ⟨y0,y1,y2,y3,y4,y5⟩ := hA1.cells
 obtain ⟨u0,u1,u2,u3,u4,u5⟩ := hA2.cells
 have HB := Lib.hid hB
 have HB2 := Lib.hid hb2
 have HO2 := Lib.hid hO2
 have HZ3 := Lib.hid hZ3
 have HS := Lib.hid hs
 have HK := Lib.hid hkr
 have HPn := Lib.hid hpl
 clear k0 k1 hL hP hE hpi hA hA0 hA1 hA2 hZ hZ2 hO hO2 hb1 hb2 hbel hbel0 hblk0 hblk hB hrow hsz hs hpl hel
 unfold Bl.Sv.val Bl.sl
 go_enter Tryz.func144,Tryz.ntmps144
 go_wp2_with (first | ((with_reducible apply Bl.wpl_load hA3); rfl; rfl; rfl) | ((with_reducible apply Bl.wpl_put (h := ⟨h.tab,h.ser,⟨some ⟨U.heap.size,0,none⟩,h.post.n,h.post.n⟩,h.book,h.sess,h.next⟩) hZ3); rfl; rfl; rfl; rfl))
 have b : Below w.heap.size w (Bl.lay (X.setCell ⟨w.heap.size,2,none⟩ (.slice (some ⟨U.heap.size,0,none⟩) h.post.n h.post.n)) (w.heap.size + 1) ⟨h.tab,h.ser,⟨some ⟨U.heap.size,0,none⟩,h.post.n,h.post.n⟩,h.book,h.sess,h.next⟩) := Bl.below_lay (bset (bchain HB.out HB2.out) (Nat.le_refl _) _ _) (by omega) _
 refine bodyPost_ret (Bl.results1 Tryz.results144 rfl (HZ3.out.lay _)) rfl ⟨_,rfl,?_,b⟩
 have hl := (HL.out.below b).wide w
 have hk2 := (Kp.set (A := U.heap.size) (g := w.heap.size) X (by have := HS.out; omega) 2 (.slice (some ⟨U.heap.size,0,none⟩) h.post.n h.post.n)).trans (Bl.kp_lay _ (g := w.heap.size + 1) (by have := HS.out; omega) ⟨h.tab,h.ser,⟨some ⟨U.heap.size,0,none⟩,h.post.n,h.post.n⟩,h.book,h.sess,h.next⟩)
 have hsh : ∀ r ∈ rs.set k (Pd.marked (rs[k]'HK.out)),Pd.Short r := by
  intro r hr
  rcases List.mem_or_eq_of_mem_set hr with hr | rfl
  · exact HPs.out.short r hr
  · exact (show Pd.Short (rs[k]'HK.out) from HPs.out.short _ (List.getElem_mem HK.out))
 obtain ⟨ao2,cap2,e2,l2,i2⟩ := Pd.own_ls HO2.out hsh
 rw [List.length_set,← HPn.out] at e2 l2
 simp only [Value.slice.injEq] at e2
 obtain ⟨rfl,_,rfl⟩ := e2
 have l3 := l2.kp (inA_own i2) hk2
 refine ⟨hl.tab,hl.ser,⟨_,l3,(HEs.out.below b).mark k HK.out,?_⟩,hl.book,hl.sess,hl.next,hl.fit,hl.ptab,hl.pser,(inA_own i2).nw P (by have := HS.out; omega),hl.pbook,hl.psess⟩
 intro x hx
 rcases List.mem_or_eq_of_mem_set hx with hx | rfl
 · exact (HPi.out x hx).mono fun _ q => .inl q
 · exact (show InP P (rs[k]'HK.out).parts.ao (rs[k]'HK.out).parts.n from HPi.out _ (List.getElem_mem HK.out)).mono fun _ q => .inl q
theorem emptyB : ByteArray.empty.toList = [] := by decide +kernel
theorem Tt.infoT : (Tryz.prog.info? 64).map (·.size) = some 4 := by kernel_rfl
theorem Tt.ret {fn : Func} {p q : Tmp} (hf : fn.results = #[.cell p 64,.tmp q]) {tmps : Array Value} {w : World} {g : Nat} {N X G E : Int} {v : Value} (hp : tmps.getD p undef = .pointer (some ⟨g,0,none⟩)) (hq : tmps.getD q undef = .int .i64 E) (hA : Tt.At w g N X G v) : (results fn tmps).run Tryz.prog w = .ok (.tuple #[Tt.val N X G v,.int .i64 E]) w := by
 have hp' : tmps[p]?.getD undef = .pointer (some ⟨g,0,none⟩) := by simpa using hp
 have hq' : tmps[q]?.getD undef = .int .i64 E := by simpa using hq
 have e1 := run_loadVar_row (P := Tryz.prog) w g 64 64 #[.int .i64 N,.int .i64 X,.int .i64 G,v] (0,0) _ hA Tryz.underlying64 rfl (by rw [Tt.infoT]; rfl)
 simp [results,hf,hp',hq',asAddr,e1]
 rfl
theorem bset4 {w0 u : World} {g : Nat} (h : Below w0.heap.size w0 u) (hg : w0.heap.size ≤ g) (x0 x1 x2 x3 : Value) : Below w0.heap.size w0 ((((u.setCell ⟨g,0,none⟩ x0).setCell ⟨g,1,none⟩ x1).setCell ⟨g,2,none⟩ x2).setCell ⟨g,3,none⟩ x3) := bset (bset (bset (bset h hg _ _) hg _ _) hg _ _) hg _ _
theorem Pt.own_far1 {w : World} {B : Nat} {v : Value} {M : List Pt.T} (h : Pt.Own w B v M) {b : Nat} (hne : b < B) (o : Nat) (x : Value) : Pt.Own (w.setCell ⟨b,o,none⟩ x) B v M := by
 obtain ⟨h1,h2⟩ := h
 refine ⟨h1,?_⟩
 rcases h2 with h2 | ⟨g,cap,cur,h',hb,hg,h3⟩
 · exact .inl h2
 · exact .inr ⟨g,cap,cur,h',hb,by rw [heap_setCell_other w ⟨b,o,none⟩ g x (by show g ≠ b; omega)]; exact hg,h3⟩
theorem Pt.own_far4 {w : World} {B : Nat} {v : Value} {M : List Pt.T} (h : Pt.Own w B v M) {b : Nat} (hne : b < B) (x0 x1 x2 x3 : Value) : Pt.Own ((((w.setCell ⟨b,0,none⟩ x0).setCell ⟨b,1,none⟩ x1).setCell ⟨b,2,none⟩ x2).setCell ⟨b,3,none⟩ x3) B v M := Pt.own_far1 (Pt.own_far1 (Pt.own_far1 (Pt.own_far1 h hne _ _) hne _ _) hne _ _) hne _ _
def Bl.undoE (p : Bl.Ps) (y m d : Int) : Int := if p.back = true ∨ ¬ Bl.Own p then 12 else if Dt.rightB y m d = false ∨ Dt.days y m d < Dt.days p.y p.m p.d then 9 else Iv.backE p.tot
def Bl.undoT (p : Bl.Ps) (y m d : Int) : Iv.Tot := if Bl.undoE p y m d = 0 then Iv.back p.tot else Iv.Tot.zero
theorem Bl.undo_taken {p : Bl.Ps} {y m d : Int} (h : p.back = true ∨ ¬ Bl.Own p) : Bl.undoE p y m d = 12 ∧ Bl.undoT p y m d = Iv.Tot.zero := by
 have e : Bl.undoE p y m d = 12 := if_pos h
 exact ⟨e,by unfold Bl.undoT; rw [e]; rfl⟩
theorem Bl.undo_day {p : Bl.Ps} {y m d : Int} (h : ¬ (p.back = true ∨ ¬ Bl.Own p)) (k : Dt.rightB y m d = false ∨ Dt.days y m d < Dt.days p.y p.m p.d) : Bl.undoE p y m d = 9 ∧ Bl.undoT p y m d = Iv.Tot.zero := by
 have e : Bl.undoE p y m d = 9 := by
  unfold Bl.undoE
  rw [if_neg h,if_pos k]
 exact ⟨e,by unfold Bl.undoT; rw [e]; rfl⟩
theorem Bl.undo_go {p : Bl.Ps} {y m d : Int} (h : ¬ (p.back = true ∨ ¬ Bl.Own p)) (k : ¬ (Dt.rightB y m d = false ∨ Dt.days y m d < Dt.days p.y p.m p.d)) : Bl.undoE p y m d = Iv.backE p.tot ∧ Bl.undoT p y m d = Iv.backT p.tot := by
 have e : Bl.undoE p y m d = Iv.backE p.tot := by
  unfold Bl.undoE
  rw [if_neg h,if_neg k]
 exact ⟨e,by unfold Bl.undoT Iv.backT; rw [e]⟩
set_option maxHeartbeats 4000000 in
theorem bil_undo (r : Pd.T) (p : Bl.Ps) (y m d : Int) (w : World) (hI : Bl.IsP w r p) (hS : Pd.Short r) (hy : Fit y) (hm : Fit m) (hd : Fit d) (hR : Dt.rightB p.y p.m p.d = true) (hn : r.parts.n ≤ 1000) :
  Calls Tryz.prog 143 #[Pd.val r,dayV y m d] w (Tt.Ans w (Bl.undoE p y m d) (Bl.undoT p y m d)) := by
 have HI := Lib.hid hI
 have HS := Lib.hid hS
 have HF := Lib.hid (And.intro hy (And.intro hm hd))
 have HR := Lib.hid hR
 have HN := Lib.hid hn
 have ebk := hI.back
 have eoS := hI.ofS
 have eoN := hI.ofN
 obtain ⟨U,hU,hB,k0,k1,k2,hs⟩ := Bl.al3 w (Pd.block r) (.cells #[.int .i64 y,.int .i64 m,.int .i64 d] 23) (.cells #[.int .i64 0,.int .i64 0,.int .i64 0,.slice none 0 0] 64)
 have hC : Pd.C U w.heap.size r := by
  unfold Pd.C
  have e := fun k => cell_of_row U w.heap.size k _ _ _ k0
  refine ⟨?_,?_,?_,?_,?_,?_,?_,?_,?_,?_,?_,?_⟩
  all_goals
   rw [e]
   rfl
 have hT : Tt.At U (w.heap.size + 1 + 1) 0 0 0 (.slice none 0 0) := k2
 have d0 : U.cell? ⟨w.heap.size + 1,0,none⟩ = some (.int .i64 y) := by rw [cell_of_row U _ 0 _ _ _ k1]; rfl
 have d1 : U.cell? ⟨w.heap.size + 1,1,none⟩ = some (.int .i64 m) := by rw [cell_of_row U _ 1 _ _ _ k1]; rfl
 have d2 : U.cell? ⟨w.heap.size + 1,2,none⟩ = some (.int .i64 d) := by rw [cell_of_row U _ 2 _ _ _ k1]; rfl
 have HC := Lib.hid hC
 have HT := Lib.hid hT
 have HB := Lib.hid hB
 unfold Pd.C at hC
 obtain ⟨a0,a1,a2,a3,a4,a5,a6,a7,a8,a9,a10,a11⟩ := hC
 obtain ⟨t0,t1,t2,t3⟩ := hT.cells
 have f0 := hT.frozen 0
 have f1 := hT.frozen 1
 have f2 := hT.frozen 2
 have f3 := hT.frozen 3
 clear hI hS hy hm hd hR hn k0 k1 k2 hs hT hB
 unfold Pd.block at hU
 unfold Pd.val dayV
 by_cases hb : r.back = true
 ·
  have HE := Lib.hid (Bl.undo_taken (y := y) (m := m) (d := d) (p := p) (.inl (ebk ▸ hb)))
  rw [hb] at a11 hU ⊢
  clear hb ebk eoS eoN
  go_enter Tryz.func143,Tryz.ntmps143
  go_wp2_with fail
  exact bodyPost_ret (Tt.ret Tryz.results143 rfl rfl (HT.out.set4 0 0 0 (.slice none 0 0))) rfl ⟨_,by rw [HE.out.1,HE.out.2]; rfl,by rw [HE.out.2]; exact Pt.own_nil _ _,bset4 HB.out (by omega) _ _ _ _⟩
 ·
  have hb' : r.back = false := by
   cases q : r.back
   · rfl
   · exact absurd q hb
  have hpb : ¬ p.back = true := fun q => hb (ebk.trans q)
  rw [hb'] at a11 hU ⊢
  clear hb hb'
  by_cases h1 : r.ofS = .empty
  ·
   have q1 : (r.ofS.toList == []) = true := by rw [h1,emptyB]; rfl
   by_cases h2 : r.ofN = 0
   ·
    have q2 : (r.ofN == 0) = true := beq_iff_eq.2 h2
    have HOw : Hid (¬ (p.back = true ∨ ¬ Bl.Own p)) := Lib.hid fun q => q.elim hpb fun z => z ⟨eoS ▸ h1,eoN ▸ h2⟩
    clear hpb ebk eoS eoN h1 h2
    go_enter Tryz.func143,Tryz.ntmps143
    go_wp2_with fail
    clear hU
    refine (right_date y m d U U (Below.refl _ _) HF.out.1 HF.out.2.1 HF.out.2.2).mono ?_
    rintro e w1 ⟨rfl,b1⟩
    have HB1 := Lib.hid (bchain HB.out b1)
    have HT1 := Lib.hid (HT.out.below b1)
    have hC1 := HC.out.below b1
    have HC1 := Lib.hid hC1
    have e0 := ((bcell b1).1 _ _ (cell_lt d0)).trans d0
    have e1 := ((bcell b1).1 _ _ (cell_lt d1)).trans d1
    have e2 := ((bcell b1).1 _ _ (cell_lt d2)).trans d2
    unfold Pd.C at hC1
    clear a0 a1 a2 a3 a4 a5 a6 a7 a8 a9 a10 a11 d0 d1 d2 t0 t1 t2 t3 f0 f1 f2 f3 b1
    obtain ⟨a0,a1,a2,a3,a4,a5,a6,a7,a8,a9,a10,a11⟩ := hC1
    obtain ⟨t0,t1,t2,t3⟩ := HT1.out.cells
    have f0 := HT1.out.frozen 0
    have f1 := HT1.out.frozen 1
    have f2 := HT1.out.frozen 2
    have f3 := HT1.out.frozen 3
    cases hr : Dt.rightB y m d
    ·
     have HE := Lib.hid (Bl.undo_day HOw.out (.inl hr))
     clear hr
     go_wp2_with fail
     exact bodyPost_ret (Tt.ret Tryz.results143 rfl rfl (HT1.out.set4 0 0 0 (.slice none 0 0))) rfl ⟨_,by rw [HE.out.1,HE.out.2]; rfl,by rw [HE.out.2]; exact Pt.own_nil _ _,bset4 HB1.out (by omega) _ _ _ _⟩
    ·
     have HRt := Lib.hid hr
     have HAh := Lib.hid (ahead_both hr HR.out)
     clear hr
     go_wp2_with fail
     refine (before_date y m d r.y r.m r.d w1 w1 (Below.refl _ _) HF.out.1 HF.out.2.1 HF.out.2.2 HS.out.2.2.1 HS.out.2.2.2.1 HS.out.2.2.2.2.1).mono ?_
     rintro e w2 ⟨rfl,b2⟩
     have HB2 := Lib.hid (bchain HB1.out b2)
     have HT2 := Lib.hid (HT1.out.below b2)
     have hC2 := HC1.out.below b2
     unfold Pd.C at hC2
     clear a0 a1 a2 a3 a4 a5 a6 a7 a8 a9 a10 a11 e0 e1 e2 t0 t1 t2 t3 f0 f1 f2 f3 b2
     obtain ⟨a0,a1,a2,a3,a4,a5,a6,a7,a8,a9,a10,a11⟩ := hC2
     obtain ⟨t0,t1,t2,t3⟩ := HT2.out.cells
     have f0 := HT2.out.frozen 0
     have f1 := HT2.out.frozen 1
     have f2 := HT2.out.frozen 2
     have f3 := HT2.out.frozen 3
     rw [HI.out.y,HI.out.m,HI.out.d,HAh.out]
     by_cases hdy : Dt.days y m d < Dt.days p.y p.m p.d
     ·
      have HE := Lib.hid (Bl.undo_day HOw.out (.inr hdy))
      rw [decide_eq_true hdy]
      clear hdy
      go_wp2_with fail
      exact bodyPost_ret (Tt.ret Tryz.results143 rfl rfl (HT2.out.set4 0 0 0 (.slice none 0 0))) rfl ⟨_,by rw [HE.out.1,HE.out.2]; rfl,by rw [HE.out.2]; exact Pt.own_nil _ _,bset4 HB2.out (by omega) _ _ _ _⟩
     ·
      have HE := Lib.hid (Bl.undo_go (p := p) (y := y) (m := m) (d := d) HOw.out (fun q => q.elim (fun z => by rw [HRt.out] at z; cases z) hdy))
      rw [decide_eq_false hdy]
      clear hdy
      go_wp2_with fail
      have hPt := HI.out.parts.below HB2.out
      refine Calls.mono (R := Tt.Ans w2 (Iv.backE p.tot) (Iv.backT p.tot)) ?_ ?_
      ·
       rw [HI.out.net,HI.out.tax,HI.out.gross]
       exact inv_back p.tot r.parts.ao r.parts.n r.parts.cap w2 hPt (HI.out.net ▸ HS.out.2.2.2.2.2.1) (HI.out.tax ▸ HS.out.2.2.2.2.2.2.1) (HI.out.gross ▸ HS.out.2.2.2.2.2.2.2.1) HN.out
      clear hPt
      rintro e w3 ⟨v,rfl,o3,b3⟩
      have HO3 := Lib.hid o3
      have HB3 := Lib.hid (bchain HB2.out b3)
      have HT3 := Lib.hid (HT2.out.below b3)
      have HSz := Lib.hid HT2.out.lt
      clear a0 a1 a2 a3 a4 a5 a6 a7 a8 a9 a10 a11 t0 t1 t2 t3 f0 f1 f2 f3 b3 o3
      obtain ⟨t0,t1,t2,t3⟩ := HT3.out.cells
      have f0 := HT3.out.frozen 0
      have f1 := HT3.out.frozen 1
      have f2 := HT3.out.frozen 2
      have f3 := HT3.out.frozen 3
      obtain ⟨T,hT⟩ : ∃ T,Iv.backT p.tot = T := ⟨_,rfl⟩
      obtain ⟨E,hE⟩ : ∃ E,Iv.backE p.tot = E := ⟨_,rfl⟩
      rw [hT] at HO3 HE ⊢
      rw [hE] at HE ⊢
      clear hT hE
      have hv1 : ∃ vo vn vc,v = .slice vo vn vc := by
       rcases HO3.out.2 with ⟨z,_⟩ | ⟨g',cap',cur,z,_⟩
       · exact ⟨_,_,_,z⟩
       · exact ⟨_,_,_,z⟩
      obtain ⟨vo,vn,vc,rfl⟩ := hv1
      unfold Tt.val
      go_wp2_with fail
      refine bodyPost_ret (Tt.ret Tryz.results143 rfl rfl (HT3.out.set4 T.net T.tax T.gross (.slice vo vn vc))) rfl ⟨_,by rw [HE.out.1,HE.out.2],?_,bset4 HB3.out (by omega) _ _ _ _⟩
      rw [HE.out.2]
      exact Pt.own_mono (Pt.own_far4 HO3.out HSz.out _ _ _ _) HB2.out.size
   ·
    have q2 : (r.ofN == 0) = false := beq_eq_false_iff_ne.2 h2
    have HE := Lib.hid (Bl.undo_taken (y := y) (m := m) (d := d) (p := p) (.inr fun z => h2 (eoN.trans z.2)))
    clear hpb ebk eoS eoN h1 h2
    go_enter Tryz.func143,Tryz.ntmps143
    go_wp2_with fail
    exact bodyPost_ret (Tt.ret Tryz.results143 rfl rfl (HT.out.set4 0 0 0 (.slice none 0 0))) rfl ⟨_,by rw [HE.out.1,HE.out.2]; rfl,by rw [HE.out.2]; exact Pt.own_nil _ _,bset4 HB.out (by omega) _ _ _ _⟩
  ·
   have q1 : (r.ofS.toList == []) = false := beq_eq_false_iff_ne.2 fun e => h1 (Vt.cat_ext (e.trans emptyB.symm))
   have HE := Lib.hid (Bl.undo_taken (y := y) (m := m) (d := d) (p := p) (.inr fun z => h1 (eoS.trans z.1)))
   clear hpb ebk eoS eoN h1
   go_enter Tryz.func143,Tryz.ntmps143
   go_wp2_with fail
   exact bodyPost_ret (Tt.ret Tryz.results143 rfl rfl (HT.out.set4 0 0 0 (.slice none 0 0))) rfl ⟨_,by rw [HE.out.1,HE.out.2]; rfl,by rw [HE.out.2]; exact Pt.own_nil _ _,bset4 HB.out (by omega) _ _ _ _⟩
end Go.Proofs.YtjpfpojbalepeaaGreat
namespace Go.Proofs.YtjpfpojbalepeaaGreat
open Go.RowKit
open Mem
open Go.Sort (grow)
section
variable {ops : Array Oper} {o : Oper} {a : Act} {S : World → Prop} {t : Tmp} {g : Nat}
theorem Bl.y_next (hgd : o.guard = none) (ho : o.op = .fieldAddr 90 (.tmp t) 1) (hp : a.tmps.toList[t]? = some (.pointer (some ⟨g,0,none⟩))) : YieldsIf Tryz.prog ops S o (.pointer (some ⟨g,1,none⟩)) a := by
 refine .inl ⟨by simp [Region.wanted,hgd],fun u _ => ?_⟩
 simp only [execOp,ho,Ca.evT hp]
 simp [go_sem]
theorem Bl.y_book (hgd : o.guard = none) (ho : o.op = .fieldAddr 42 (.tmp t) 3) (hp : a.tmps.toList[t]? = some (.pointer (some ⟨g,0,none⟩))) : YieldsIf Tryz.prog ops S o (.pointer (some ⟨g,3,none⟩)) a := by
 refine .inl ⟨by simp [Region.wanted,hgd],fun u _ => ?_⟩
 simp only [execOp,ho,Ca.evT hp]
 simp [go_sem]
theorem Bl.y_int {k : Nat} {n : Int} (hgd : o.guard = none) (ho : o.op = .load 3 (.tmp t)) (hp : a.tmps.toList[t]? = some (.pointer (some ⟨g,k,none⟩))) (hS : ∀ u,S u → u.cell? ⟨g,k,none⟩ = some (.int .i64 n)) : YieldsIf Tryz.prog ops S o (.int .i64 n) a := by
 refine .inl ⟨by simp [Region.wanted,hgd],fun u hu => ?_⟩
 have h := hS u hu
 simp only [execOp,ho,Ca.evT hp]
 simp [go_sem,h]
theorem Bl.y_bal {k : Nat} {ao : Option Addr} {n c : Nat} (hgd : o.guard = none) (ho : o.op = .load 39 (.tmp t)) (hp : a.tmps.toList[t]? = some (.pointer (some ⟨g,k,none⟩))) (hS : ∀ u,S u → u.cell? ⟨g,k,none⟩ = some (.slice ao n c)) : YieldsIf Tryz.prog ops S o (.slice ao n c) a := by
 refine .inl ⟨by simp [Region.wanted,hgd],fun u hu => ?_⟩
 have h := hS u hu
 simp only [execOp,ho,Ca.evT hp]
 simp [go_sem,h]
theorem Bl.y_sub1 {n : Int} (hgd : o.guard = none) (ho : o.op = .binOp .sub 3 (.tmp t) (.const (.int .i64 1)) 3) (hp : a.tmps.toList[t]? = some (.int .i64 n)) (h1 : -9223372036854775808 ≤ n - 1) (h2 : n - 1 ≤ 9223372036854775807) : YieldsIf Tryz.prog ops S o (.int .i64 (n - 1)) a := by
 refine .inl ⟨by simp [Region.wanted,hgd],fun u _ => ?_⟩
 have hwr : IntKind.i64.wrap (n - 1) = n - 1 := by rw [IntKind.wrap_i64]; omega
 have e1 : a.eval (.const (.int .i64 1)) = .int .i64 1 := rfl
 simp only [execOp,ho,Ca.evT hp,e1]
 simp [go_sem,hwr]
theorem Rp.y_build {x y : Tmp} {m n : Int} (hgd : o.guard = none) (ho : o.op = .build 49 #[(1,.tmp x),(2,.tmp y)]) (hx : a.tmps.toList[x]? = some (.int .i64 m)) (hy : a.tmps.toList[y]? = some (.int .i64 n)) : YieldsIf Tryz.prog ops S o (Rp.val ⟨0,m,n⟩) a := by
 refine .inl ⟨by simp [Region.wanted,hgd],fun u _ => ?_⟩
 simp only [execOp,ho,List.map_toArray,List.map_cons,List.map_nil,Ca.evT hx,Ca.evT hy]
 simp [go_sem,Rp.val]
end
def Bl.chk8 (ops : Array Oper) : Bool := Region.noSelect ops && Bl.tk ops [false,false,false,false,false,false,false,false] 0 && Bl.tk ops [true,false,false,false,false,false,false,false] 1 && Bl.tk ops [true,true,false,false,false,false,false,false] 2 && Bl.tk ops [true,true,true,false,false,false,false,false] 3 && Bl.tk ops [true,true,true,true,false,false,false,false] 4 && (Region.ready .any ops #[true,true,true,true,true,false,false,false] == [5]) && Bl.tk ops [true,true,true,true,true,true,false,false] 6 && (Region.ready .any ops #[true,true,true,true,true,true,true,false] == [7]) && (Region.ready .any ops #[true,true,true,true,true,true,true,true] == [])
theorem Bl.wp_ask {id : Nat} {o0 o1 o2 o3 o4 o5 o6 o7 : Oper} {a : Act} {w : World} {Q : Exit → Act → World → Prop} {S : World → Prop} (v0 v1 v2 v3 v4 : Value) {f : FuncId} {args : Array Value} (hS : S w.drew) (hc : Bl.chk8 #[o0,o1,o2,o3,o4,o5,o6,o7] = true)
  (y0 : YieldsIf Tryz.prog #[o0,o1,o2,o3,o4,o5,o6,o7] S o0 v0 a) (y1 : YieldsIf Tryz.prog #[o0,o1,o2,o3,o4,o5,o6,o7] S o1 v1 (a.put o0.dst v0)) (y2 : YieldsIf Tryz.prog #[o0,o1,o2,o3,o4,o5,o6,o7] S o2 v2 ((a.put o0.dst v0).put o1.dst v1)) (y3 : YieldsIf Tryz.prog #[o0,o1,o2,o3,o4,o5,o6,o7] S o3 v3 (((a.put o0.dst v0).put o1.dst v1).put o2.dst v2)) (y4 : YieldsIf Tryz.prog #[o0,o1,o2,o3,o4,o5,o6,o7] S o4 v4 ((((a.put o0.dst v0).put o1.dst v1).put o2.dst v2).put o3.dst v3))
  (q0 : ∀ c a w,Q (.panic c) (Act.put a o0.dst v0) w → Q (.panic c) a w) (q1 : ∀ c a w,Q (.panic c) (Act.put a o1.dst v1) w → Q (.panic c) a w) (q2 : ∀ c a w,Q (.panic c) (Act.put a o2.dst v2) w → Q (.panic c) a w) (q3 : ∀ c a w,Q (.panic c) (Act.put a o3.dst v3) w → Q (.panic c) a w) (q4 : ∀ c a w,Q (.panic c) (Act.put a o4.dst v4) w → Q (.panic c) a w)
  (hg5 : o5.guard = none) (hrun : (execOp (((((a.put o0.dst v0).put o1.dst v1).put o2.dst v2).put o3.dst v3).put o4.dst v4).eval o5).run Tryz.prog w.drew = .ok (.enter f args) w.drew)
  (k : Calls Tryz.prog f args w.drew fun e w' => ∃ (v5 : Value) (r r0 : Rp.T) (gR x y : Nat),e = .returned v5 ∧ S w' ∧ YieldsIf Tryz.prog #[o0,o1,o2,o3,o4,o5,o6,o7] S o6 (Rp.val r) ((((((a.put o0.dst v0).put o1.dst v1).put o2.dst v2).put o3.dst v3).put o4.dst v4).put o5.dst v5) ∧ (∀ c a w,Q (.panic c) (Act.put a o6.dst (Rp.val r)) w → Q (.panic c) a w) ∧
   o7.guard = none ∧ o7.op = .store 49 (.tmp x) (.tmp y) ∧ o7.dst = none ∧ (((((((a.put o0.dst v0).put o1.dst v1).put o2.dst v2).put o3.dst v3).put o4.dst v4).put o5.dst v5).put o6.dst (Rp.val r)).tmps.toList[x]? = some (.pointer (some ⟨gR,0,none⟩)) ∧ (((((((a.put o0.dst v0).put o1.dst v1).put o2.dst v2).put o3.dst v3).put o4.dst v4).put o5.dst v5).put o6.dst (Rp.val r)).tmps.toList[y]? = some (Rp.val r) ∧ Rp.Bk w' gR r0 ∧ S (Rp.lay w' gR r) ∧
   Q .normal (((((((a.put o0.dst v0).put o1.dst v1).put o2.dst v2).put o3.dst v3).put o4.dst v4).put o5.dst v5).put o6.dst (Rp.val r)) (Rp.lay w' gR r)) :
  (Code.region id #[o0,o1,o2,o3,o4,o5,o6,o7] true).wp Tryz.prog Q a w := by
 unfold Bl.chk8 at hc
 simp only [Bool.and_eq_true,beq_iff_eq] at hc
 obtain ⟨⟨⟨⟨⟨⟨⟨⟨⟨c,c0⟩,c1⟩,c2⟩,c3⟩,c4⟩,c5⟩,c6⟩,c7⟩,c8⟩ := hc
 refine wp_region_held_drew (S := S) (by kernel_rfl) hS (fun hH => ?_)
 show wpAnyH Tryz.prog .any #[o0,o1,o2,o3,o4,o5,o6,o7] Q _ 8 [false,false,false,false,false,false,false,false].toArray a w.drew
 refine Bl.take_if (i := 0) (oi := o0) rfl c c0 q0 y0 hH ?_
 refine Bl.take_if (i := 1) (oi := o1) rfl c c1 q1 y1 hH ?_
 refine Bl.take_if (i := 2) (oi := o2) rfl c c2 q2 y2 hH ?_
 refine Bl.take_if (i := 3) (oi := o3) rfl c c3 q3 y3 hH ?_
 refine Bl.take_if (i := 4) (oi := o4) rfl c c4 q4 y4 hH ?_
 refine Bl.one_if (i := 5) (oi := o5) rfl c5 (fun K hK => ?_)
 refine Bl.step_call hg5 hrun (k.mono ?_)
 rintro e w' ⟨v5,r,r0,gR,x,y,rfl,hS',y6,q6,g7,h7,d7,ex,ey,hB,hS7,hk⟩
 refine ⟨_,rfl,hK.out _ _ hS' fun hH' => ?_⟩
 clear hK K
 refine Bl.take_if (i := 6) (oi := o6) rfl c c6 q6 y6 hS' ?_
 refine Bl.one_if (i := 7) (oi := o7) rfl c7 (fun K hK => ?_)
 refine Rp.step_put g7 h7 d7 ex ey hB (hK.out _ _ hS7 fun hH3 => ?_)
 clear hK K
 exact wpAnyH_done c8 hk _
def Bl.askR (s : Bl.St) (c : ByteArray) : Rp.T := if Se.ix c s.ser < s.ser.length then ⟨0,(Se.own s.ser c).next - 1,Po.val Po.owedA s.book⟩ else ⟨11,0,0⟩
set_option maxHeartbeats 400000 in
theorem bil_ask (s : Bl.St) (h : Bl.Sv) (c : ByteArray) (w0 w : World) (hw : Below w0.heap.size w0 w) (hL : Bl.Lies w h s) (hR : Bl.Right s) :
  Calls Tryz.prog 108 #[h.val,.string c] w fun e w' => e = .returned (Rp.val (Bl.askR s c)) ∧ Below w0.heap.size w0 w' := by
 have HW := Lib.hid hw
 have HL := Lib.hid hL
 have HR := Lib.hid hR
 obtain ⟨U,hU,hB,k0,k1,hs⟩ := Bl.al2 w (.cells #[.slice h.tab.ao h.tab.n h.tab.cap,.slice h.ser.ao h.ser.n h.ser.cap,.slice h.post.ao h.post.n h.post.cap,.slice h.book.ao h.book.n h.book.cap,.slice h.sess.ao h.sess.n h.sess.cap,.int .i64 h.next] 42) (.cells #[.int .i64 0,.int .i64 0,.int .i64 0] 49)
 have hA : Bl.At U w.heap.size h := k0
 have hZ : Rp.Bk U (w.heap.size + 1) ⟨0,0,0⟩ := k1
 have HA := Lib.hid hA
 have HZ := Lib.hid hZ
 have HB := Lib.hid hB
 have HS := Lib.hid hs
 obtain ⟨x0,x1,x2,x3,x4,x5⟩ := hA.cells
 clear k0 k1 hL hR hw hB hs hA hZ
 unfold Bl.Sv.val Bl.sl
 go_enter Tryz.func108,Tryz.ntmps108
 go_wp2_with fail
 clear hU
 refine (ser_find s.ser c h.ser.ao h.ser.n h.ser.cap U U (Below.refl _ _) (HL.out.ser.below HB.out)).mono ?_
 rintro e w1 ⟨rfl,b1⟩
 have HSh : Hid (Se.ix c s.ser < s.ser.length → Se.sound (Se.own s.ser c) = true) := Lib.hid fun q => ((Se.right_iff _).1 HR.out.ser).2.1 _ (Se.own_mem q)
 by_cases hi : Se.ix c s.ser < s.ser.length
 ·
  have HP : Hid (Bl.askR s c = ⟨0,(Se.own s.ser c).next - 1,Po.val Po.owedA s.book⟩) := Lib.hid (if_pos hi)
  have hd : decide (Se.ix c s.ser < s.ser.length) = true := decide_eq_true hi
  obtain ⟨r,hr⟩ : ∃ r,Se.own s.ser c = r := ⟨_,rfl⟩
  have HSo := Lib.hid (Se.sound_iff.1 (HSh.out hi))
  rw [hr] at HP HSo ⊢
  rw [hd]
  clear hd hi hr
  have hl1 := Se.lim_iff.1 HSo.out.2.1
  have hlo : -9223372036854775808 ≤ r.next - 1 := by have := HSo.out.2.2.1; omega
  have hhi : r.next - 1 ≤ 9223372036854775807 := by have := HSo.out.2.2.2; omega
  clear hl1
  obtain ⟨W,hW,hbW,hC⟩ := Sr.boxed1 w1 r
  have HCW := Lib.hid hC
  have hA1 := (HA.out.below b1).below hbW
  have HA1 := Lib.hid hA1
  have HZ1 := Lib.hid ((HZ.out.below b1).below hbW)
  have HB1 := Lib.hid (bchain b1 hbW)
  have HSz := Lib.hid b1.size
  unfold Sr.C at hC
  obtain ⟨a0,a1,a2,a3⟩ := hC
  have t3 := hA1.cells.2.2.2.1
  clear b1 hbW hA1 x0 x1 x2 x3 x4 x5
  unfold Sr.val
  go_wp2_with fail
  clear hW
  have hne1 : w1.heap.size ≠ w.heap.size + 1 := by have := HZ1.out.lt; have := HB1.out.size; have := HS.out; have := HSz.out; omega
  refine Bl.wp_ask (f := 147) (args := #[.slice h.book.ao h.book.n h.book.cap,.string Po.owedA]) (S := fun u => u.cell? ⟨w1.heap.size,1,none⟩ = some (.int .i64 r.next) ∧ u.cell? ⟨w.heap.size,3,none⟩ = some (.slice h.book.ao h.book.n h.book.cap)) (.pointer (some ⟨w1.heap.size,1,none⟩)) (.int .i64 r.next) (.int .i64 (r.next - 1)) (.pointer (some ⟨w.heap.size,3,none⟩)) (.slice h.book.ao h.book.n h.book.cap) ⟨a1,t3⟩ ?_ ?_ ?_ ?_ ?_ ?_ ?_ ?_ ?_ ?_ ?_ ?_ ?_ ?_
  · kernel_rfl
  · exact Bl.y_next (t := 5) rfl rfl rfl
  · exact Bl.y_int (t := 17) rfl rfl rfl fun u hu => hu.1
  · exact Bl.y_sub1 (t := 18) rfl rfl rfl hlo hhi
  · exact Bl.y_book (t := 2) rfl rfl rfl
  · exact Bl.y_bal (t := 20) rfl rfl rfl fun u hu => hu.2
  · exact fun _ _ _ h => h
  · exact fun _ _ _ h => h
  · exact fun _ _ _ h => h
  · exact fun _ _ _ h => h
  · exact fun _ _ _ h => h
  · rfl
  ·
   refine Bl.enters rfl ?_ Tryz.func147 ?_ rfl _
   · kernel_rfl
   · kernel_rfl
  refine (bil_amount s.book Po.owedA h.book.ao h.book.n h.book.cap W _ (Below.refl _ _).drew (HL.out.book.below (bchain HB.out (bchain HB1.out (Below.refl _ _).drew))) HR.out.sorted).mono ?_
  rintro e w2 ⟨rfl,b2⟩
  have hZ2 := HZ1.out.below b2
  have u1 := ((bcell b2).1 _ _ (cell_lt a1)).trans a1
  have u3 := ((bcell b2).1 _ _ (cell_lt t3)).trans t3
  refine ⟨_,⟨0,r.next - 1,Po.val Po.owedA s.book⟩,⟨0,0,0⟩,w.heap.size + 1,4,23,rfl,⟨u1,u3⟩,?_,?_,rfl,rfl,rfl,?_,?_,hZ2,⟨?_,?_⟩,?_⟩
  ·
   refine Rp.y_build (x := 19) (y := 22) rfl rfl ?_ ?_
   · kernel_rfl
   · kernel_rfl
  · exact fun _ _ _ h => h
  · kernel_rfl
  · kernel_rfl
  · exact (World.cell?_of_block (setRow_other w2 (w.heap.size + 1) w1.heap.size _ hne1)).trans u1
  · exact (World.cell?_of_block (setRow_other w2 (w.heap.size + 1) w.heap.size _ (by omega))).trans u3
  go_wp2_with fail
  refine bodyPost_ret (Rp.results1 Tryz.results108 ?_ (hZ2.lay _)) ?_ ⟨by rw [HP.out],Rp.below_lay (bchain HW.out (bchain HB.out (bchain HB1.out b2))) (by have := HW.out.size; omega) _⟩
  · kernel_rfl
  · kernel_rfl
 ·
  have HP : Hid (Bl.askR s c = ⟨11,0,0⟩) := Lib.hid (if_neg hi)
  have hd : decide (Se.ix c s.ser < s.ser.length) = false := decide_eq_false hi
  rw [hd]
  clear hd
  obtain ⟨r,hr⟩ : ∃ r,Se.own s.ser c = r := ⟨_,rfl⟩
  rw [hr]
  clear hr
  obtain ⟨W,hW,hbW,hC⟩ := Sr.boxed1 w1 r
  have HZ1 := Lib.hid ((HZ.out.below b1).below hbW)
  have HB1 := Lib.hid (bchain b1 hbW)
  clear b1 hbW x0 x1 x2 x3 x4 x5
  unfold Sr.val
  go_wp2_with fail
  clear hW
  refine (bil_refusal 11 W W (Below.refl _ _)).mono ?_
  rintro e w2 ⟨rfl,b2⟩
  have hZ2 := HZ1.out.below b2
  have HZ2 := Lib.hid hZ2
  have HB2 := Lib.hid b2
  clear b2
  go_wp2_with (first | ((with_reducible apply Rp.wpl_put (r := ⟨11,0,0⟩) hZ2); rfl; rfl; rfl; rfl))
  exact bodyPost_ret (Rp.results1 Tryz.results108 rfl (HZ2.out.lay _)) rfl ⟨by rw [HP.out],Rp.below_lay (bchain HW.out (bchain HB.out (bchain HB1.out HB2.out))) (by have := HW.out.size; omega) _⟩
end Go.Proofs.YtjpfpojbalepeaaGreat
namespace Go.Proofs.YtjpfpojbalepeaaGreat
open Go.RowKit
open Mem
open Go.Sort (grow)
def Bl.chkO (ops : Array Oper) : Bool := Region.noSelect ops && Bl.tk ops [false,false,false,false,false,false,false,false] 0 && Bl.tk ops [true,false,false,false,false,false,false,false] 1 && Bl.tk ops [true,true,false,false,false,false,false,false] 2 && Bl.tk ops [true,true,true,false,false,false,false,false] 3 && Bl.tk ops [true,true,true,true,false,false,false,false] 4 && Bl.tk ops [true,true,true,true,true,false,false,false] 5 && (Region.ready .any ops #[true,true,true,true,true,true,false,false] == [6]) && (Region.ready .any ops #[true,true,true,true,true,true,true,false] == [7]) && (Region.ready .any ops #[true,true,true,true,true,true,true,true] == [])
theorem Bl.wp_out8 {id : Nat} {o0 o1 o2 o3 o4 o5 o6 o7 : Oper} {a : Act} {w : World} {Q : Exit → Act → World → Prop} {S : World → Prop} (h h0 : Bl.Sv) (r r0 : Rp.T) (v1 v2 v3 v4 : Value) (gS gR : Nat) {x3 y3 x4 y4 : Tmp} (hS : S w.drew) (hA : Bl.At w gS h0) (hB : Rp.Bk w gR r0) (hn : gS ≠ gR) (hS1 : ∀ u,S u → S (Bl.lay u gS h)) (hS2 : ∀ u,S u → S (Rp.lay u gR r)) (hc : Bl.chkO #[o0,o1,o2,o3,o4,o5,o6,o7] = true)
  (y0 : YieldsIf Tryz.prog #[o0,o1,o2,o3,o4,o5,o6,o7] S o0 h.val a) (y1 : YieldsIf Tryz.prog #[o0,o1,o2,o3,o4,o5,o6,o7] S o1 v1 (a.put o0.dst h.val)) (y2 : YieldsIf Tryz.prog #[o0,o1,o2,o3,o4,o5,o6,o7] S o2 v2 ((a.put o0.dst h.val).put o1.dst v1)) (y3' : YieldsIf Tryz.prog #[o0,o1,o2,o3,o4,o5,o6,o7] S o3 v3 (((a.put o0.dst h.val).put o1.dst v1).put o2.dst v2)) (y4' : YieldsIf Tryz.prog #[o0,o1,o2,o3,o4,o5,o6,o7] S o4 v4 ((((a.put o0.dst h.val).put o1.dst v1).put o2.dst v2).put o3.dst v3)) (y5 : YieldsIf Tryz.prog #[o0,o1,o2,o3,o4,o5,o6,o7] S o5 (Rp.val r) (((((a.put o0.dst h.val).put o1.dst v1).put o2.dst v2).put o3.dst v3).put o4.dst v4))
  (q0 : ∀ c a w,Q (.panic c) (Act.put a o0.dst h.val) w → Q (.panic c) a w) (q1 : ∀ c a w,Q (.panic c) (Act.put a o1.dst v1) w → Q (.panic c) a w) (q2 : ∀ c a w,Q (.panic c) (Act.put a o2.dst v2) w → Q (.panic c) a w) (q3 : ∀ c a w,Q (.panic c) (Act.put a o3.dst v3) w → Q (.panic c) a w) (q4 : ∀ c a w,Q (.panic c) (Act.put a o4.dst v4) w → Q (.panic c) a w) (q5 : ∀ c a w,Q (.panic c) (Act.put a o5.dst (Rp.val r)) w → Q (.panic c) a w)
  (ho3 : o6.op = .store 42 (.tmp x3) (.tmp y3)) (hg3 : o6.guard = none) (hd3 : o6.dst = none) (ho4 : o7.op = .store 49 (.tmp x4) (.tmp y4)) (hg4 : o7.guard = none) (hd4 : o7.dst = none)
  (e3 : ((((((a.put o0.dst h.val).put o1.dst v1).put o2.dst v2).put o3.dst v3).put o4.dst v4).put o5.dst (Rp.val r)).tmps.toList[x3]? = some (.pointer (some ⟨gS,0,none⟩)))
  (f3 : ((((((a.put o0.dst h.val).put o1.dst v1).put o2.dst v2).put o3.dst v3).put o4.dst v4).put o5.dst (Rp.val r)).tmps.toList[y3]? = some h.val)
  (e4 : ((((((a.put o0.dst h.val).put o1.dst v1).put o2.dst v2).put o3.dst v3).put o4.dst v4).put o5.dst (Rp.val r)).tmps.toList[x4]? = some (.pointer (some ⟨gR,0,none⟩)))
  (f4 : ((((((a.put o0.dst h.val).put o1.dst v1).put o2.dst v2).put o3.dst v3).put o4.dst v4).put o5.dst (Rp.val r)).tmps.toList[y4]? = some (Rp.val r))
  (k : Q .normal ((((((a.put o0.dst h.val).put o1.dst v1).put o2.dst v2).put o3.dst v3).put o4.dst v4).put o5.dst (Rp.val r)) (Bl.out2 w.drew gS gR h r)) :
  (Code.region id #[o0,o1,o2,o3,o4,o5,o6,o7] true).wp Tryz.prog Q a w := by
 unfold Bl.chkO at hc
 simp only [Bool.and_eq_true,beq_iff_eq] at hc
 obtain ⟨⟨⟨⟨⟨⟨⟨⟨⟨c,c0⟩,c1⟩,c2⟩,c3⟩,c4⟩,c5⟩,c6⟩,c7⟩,c8⟩ := hc
 refine wp_region_held_drew (S := S) (by kernel_rfl) hS (fun hH => ?_)
 show wpAnyH Tryz.prog .any #[o0,o1,o2,o3,o4,o5,o6,o7] Q _ 8 [false,false,false,false,false,false,false,false].toArray a w.drew
 refine Bl.take_if (i := 0) (oi := o0) rfl c c0 q0 y0 hH ?_
 refine Bl.take_if (i := 1) (oi := o1) rfl c c1 q1 y1 hH ?_
 refine Bl.take_if (i := 2) (oi := o2) rfl c c2 q2 y2 hH ?_
 refine Bl.take_if (i := 3) (oi := o3) rfl c c3 q3 y3' hH ?_
 refine Bl.take_if (i := 4) (oi := o4) rfl c c4 q4 y4' hH ?_
 refine Bl.take_if (i := 5) (oi := o5) rfl c c5 q5 y5 hH ?_
 refine Bl.one_if (i := 6) (oi := o6) rfl c6 (fun K hK => ?_)
 refine Bl.step_put hg3 ho3 hd3 e3 f3 (h0 := h0) hA (hK.out _ _ (hS1 _ hH) fun hH2 => ?_)
 clear hK K
 refine Bl.one_if (i := 7) (oi := o7) rfl c7 (fun K hK => ?_)
 refine Rp.step_put hg4 ho4 hd4 e4 f4 (Rp.Bk.other (w := w.drew) hB (Ne.symm hn) _) (hK.out _ _ (hS2 _ hH2) fun hH3 => ?_)
 clear hK K
 exact wpAnyH_done c8 k _
section
variable {ops : Array Oper} {o : Oper} {a : Act} {S : World → Prop} {t : Tmp} {g : Nat}
theorem Bl.y_tot (hgd : o.guard = none) (ho : o.op = .fieldAddr 66 (.tmp t) 2) (hp : a.tmps.toList[t]? = some (.pointer (some ⟨g,0,none⟩))) : YieldsIf Tryz.prog ops S o (.pointer (some ⟨g,5,none⟩)) a := by
 refine .inl ⟨by simp [Region.wanted,hgd],fun u _ => ?_⟩
 simp only [execOp,ho,Ca.evT hp]
 simp [go_sem]
theorem Bl.y_gross (hgd : o.guard = none) (ho : o.op = .fieldAddr 64 (.tmp t) 2) (hp : a.tmps.toList[t]? = some (.pointer (some ⟨g,5,none⟩))) : YieldsIf Tryz.prog ops S o (.pointer (some ⟨g,7,none⟩)) a := by
 refine .inl ⟨by simp [Region.wanted,hgd],fun u _ => ?_⟩
 simp only [execOp,ho,Ca.evT hp]
 simp [go_sem]
end
def Bl.issP (s : Bl.St) (p : Bl.Ps) : Bl.Ps := ⟨p.ser,Se.takeN s.ser p.ser,p.y,p.m,p.d,p.tot,p.ofS,p.ofN,p.back⟩
def Bl.issS (s : Bl.St) (p : Bl.Ps) : Bl.St := if Bl.postE s p.ser p.tot = 0 then Bl.more s s.post (Bl.issP s p) else s
def Bl.issR (s : Bl.St) (p : Bl.Ps) : Rp.T := if Bl.postE s p.ser p.tot = 0 then ⟨0,Se.takeN s.ser p.ser,p.tot.gross⟩ else ⟨Bl.postE s p.ser p.tot,0,0⟩
theorem Bl.iss_no {s : Bl.St} {p : Bl.Ps} {E : Int} (h : Bl.postE s p.ser p.tot = E) (h0 : E ≠ 0) : Bl.issS s p = s ∧ Bl.issR s p = ⟨E,0,0⟩ := by
 unfold Bl.issS Bl.issR
 rw [h,if_neg h0,if_neg h0]
 exact ⟨rfl,rfl⟩
theorem Bl.iss_ok {s : Bl.St} {p : Bl.Ps} (h : Bl.postE s p.ser p.tot = 0) : Bl.issS s p = Bl.more s s.post (Bl.issP s p) ∧ Bl.issR s p = ⟨0,Se.takeN s.ser p.ser,p.tot.gross⟩ := by
 unfold Bl.issS Bl.issR
 rw [if_pos h,if_pos h]
 exact ⟨rfl,rfl⟩
theorem Bl.post_take {s : Bl.St} {c : ByteArray} {t : Iv.Tot} (h : Se.takeE s.ser c ≠ 0) : Bl.postE s c t = Se.takeE s.ser c := if_pos h
theorem Bl.post_full {s : Bl.St} {c : ByteArray} {t : Iv.Tot} (h : Se.takeE s.ser c = 0) (k : 40 ≤ s.post.length) : Bl.postE s c t = 14 := by
 unfold Bl.postE
 rw [if_neg (by rw [h]; simp),if_pos k]
theorem Bl.post_book {s : Bl.St} {c : ByteArray} {t : Iv.Tot} (h : Se.takeE s.ser c = 0) (k : ¬ 40 ≤ s.post.length) : Bl.postE s c t = Bl.bookE s.book t := by
 unfold Bl.postE Bl.bookE
 rw [if_neg (by rw [h]; simp),if_neg k]
theorem Bl.bookL_ok {b : List Ba.T} {t : Iv.Tot} (h : Bl.bookE b t = 0) : Bl.bookL b t = Po.goL (Po.entrL t.gross t.parts) b := by
 by_cases q : Po.entrE t.parts = 0
 ·
  rw [(Bl.book_go q).1] at h
  rw [(Bl.book_go q).2]
  unfold Po.entL
  rw [if_pos h]
 ·
  rw [(Bl.book_bad q).1] at h
  exact absurd h q
theorem Bl.bookL_short {b : List Ba.T} {t : Iv.Tot} (hb : ∀ r ∈ b,Ba.Short r) (hg : Fit t.gross) (hs : ∀ x ∈ t.parts,Pt.Short x) (hc : ∀ x ∈ t.parts,x.cat.size ≤ 140737488351232) : ∀ r ∈ Bl.bookL b t,Ba.Short r := by
 by_cases q : Po.entrE t.parts = 0
 ·
  rw [(Bl.book_go q).2]
  have h1 := Po.entrR_short hg hs hc
  have hR : Po.entrR t.gross t.parts = Po.entrL t.gross t.parts := if_pos q
  rw [hR] at h1
  exact Po.entL_short hb h1
 ·
  rw [(Bl.book_bad q).2]
  intro r hr
  cases hr
def Pd.numbered (r : Pd.T) (n : Int) : Pd.T := ⟨r.ser,n,r.y,r.m,r.d,r.net,r.tax,r.gross,r.parts,r.ofS,r.ofN,r.back⟩
set_option maxHeartbeats 8000000 in
theorem bil_issue (P : Nat → Prop) (s : Bl.St) (h : Bl.Sv) (r : Pd.T) (p : Bl.Ps) (w : World) (hL : Bl.Lp P w h s) (hir : InP P r.parts.ao r.parts.n) (hI : Bl.IsP w r p) (hS : Pd.Short r) (hpn : r.parts.n ≤ 100) (hcs : ∀ x ∈ p.tot.parts,x.cat.size ≤ 140737488351232) (h40 : s.post.length ≤ 40) (hbn : s.book.length ≤ 1000) :
  Calls Tryz.prog 142 #[h.val,Pd.val r] w (Bl.OutE P w (Bl.issS s p) (Bl.issR s p)) := by
 have HL := Lib.hid hL
 have HI := Lib.hid hI
 have HSh := Lib.hid hS
 have HN := Lib.hid (And.intro hpn (And.intro hcs (And.intro h40 hbn)))
 obtain ⟨rs,hP,hE,hpi⟩ := hL.post
 have HPi := Lib.hid (And.intro hpi hir)
 have hl40 : h.post.n ≤ 40 := by have := hP.len; have := hE.len; omega
 have HPl : Hid (h.post.n = s.post.length) := Lib.hid (by have := hP.len; have := hE.len; omega)
 have HPs := Lib.hid hP
 have HEs := Lib.hid hE
 obtain ⟨U,hU,hA,hF,hBk⟩ := Bl.fr4 w h (Pd.block r)
 have c0 : U.cell? ⟨w.heap.size + 1,0,none⟩ = some (.string r.ser) := by rw [cell_of_row U _ 0 _ _ _ hBk]; rfl
 have HA := Lib.hid hA
 have HF := Lib.hid hF
 have HBk := Lib.hid hBk
 have HUs : Hid (w.heap.size + 1 + 1 + 1 < U.heap.size) := Lib.hid hF.rp.lt
 obtain ⟨x0,x1,x2,x3,x4,x5⟩ := hA.cells
 clear hL hI hS hpn hcs h40 hbn hP hE hpi hir hA hF hBk
 unfold Bl.Sv.val Bl.sl Pd.val
 unfold Pd.block at hU
 go_enter Tryz.func142,Tryz.ntmps142
 go_wp2_with fail
 clear hU
 refine (ser_take s.ser r.ser h.ser.ao h.ser.n h.ser.cap U (HL.out.ser.below HF.out.bel)).mono ?_
 rintro e w1 ⟨v,rfl,o1,b1⟩
 have HSn := Lib.hid (Bl.take_short (s := r.ser) HL.out.ser.short)
 have HFn := Lib.hid (Bl.take_fit (s := r.ser) HL.out.ser.short)
 have HSr := Lib.hid HI.out.ser
 obtain ⟨L1,hL1⟩ : ∃ L1,Se.takeR s.ser r.ser = L1 := ⟨_,rfl⟩
 obtain ⟨N,hN⟩ : ∃ N,Se.takeN s.ser r.ser = N := ⟨_,rfl⟩
 obtain ⟨E,hEq⟩ : ∃ E,Se.takeE s.ser r.ser = E := ⟨_,rfl⟩
 have HL1 := Lib.hid hL1
 have HNe := Lib.hid hN
 have HEe := Lib.hid hEq
 rw [hL1] at o1 HSn
 rw [hN] at HFn ⊢
 rw [hEq]
 clear hL1 hN hEq
 obtain ⟨so,sc,rfl,l1,i1⟩ := Sr.own_ls o1 HSn.out
 obtain ⟨sn,hsn⟩ : ∃ sn,L1.length = sn := ⟨_,rfl⟩
 rw [hsn] at l1 ⊢
 clear hsn
 have HS1 := Lib.hid l1
 have HI1 := Lib.hid (inA_own (n := sn) i1)
 have HB1 := Lib.hid b1
 have hA1 := HA.out.below b1
 have HA1 := Lib.hid hA1
 have HF1 := Lib.hid (HF.out.below b1)
 have HBk1 := Lib.hid ((b1.block _ (by have := HUs.out; omega)).trans HBk.out)
 clear o1 l1 i1 b1 x0 x1 x2 x3 x4 x5 c0
 obtain ⟨y0,y1,y2,y3,y4,y5⟩ := hA1.cells
 clear hA1
 by_cases hE0 : E = 0
 ·
  subst hE0
  by_cases h4 : h.post.n = 40
  ·
   have q4 : ((h.post.n : Int) == 40) = true := beq_iff_eq.2 (by omega)
   have HP := Lib.hid (Bl.iss_no (s := s) (p := p) (Bl.post_full (t := p.tot) (by rw [← HSr.out]; exact HEe.out) (by have := HPl.out; omega)) (by omega))
   clear h4
   go_wp2_with fail
   refine Bl.wp_refuseC (w.heap.size) (w.heap.size + 1 + 1) (w.heap.size + 1 + 1 + 1) h Bl.zsv ⟨0,0,0⟩ (14) HA1.out HF1.out.st HF1.out.rp (by omega) rfl rfl rfl rfl rfl rfl rfl rfl rfl rfl ?_ ?_ ?_ ?_ ?_ ?_ ?_ ?_ ?_
   · kernel_rfl
   · exact fun _ _ _ h => h
   · rfl
   · rfl
   · rfl
   · rfl
   · rfl
   · rfl
   intro w9 b9
   go_wp2_with fail
   exact (HF1.out.below b9).ret Tryz.results142 h ⟨14,0,0⟩ rfl rfl rfl fun b => by rw [HP.out.1,HP.out.2]; exact ⟨_,rfl,(HL.out.below b).wide w,b⟩
  ·
   have q4 : ((h.post.n : Int) == 40) = false := beq_eq_false_iff_ne.2 (by omega)
   have HPo := Lib.hid (Bl.post_book (s := s) (c := p.ser) (t := p.tot) (by rw [← HSr.out]; exact HEe.out) (by have := HPl.out; omega))
   have c5 : w1.cell? ⟨w.heap.size + 1,5,none⟩ = some (.int .i64 r.net) := by rw [cell_of_row w1 _ 5 _ _ _ HBk1.out]; rfl
   have c6 : w1.cell? ⟨w.heap.size + 1,6,none⟩ = some (.int .i64 r.tax) := by rw [cell_of_row w1 _ 6 _ _ _ HBk1.out]; rfl
   have c7 : w1.cell? ⟨w.heap.size + 1,7,none⟩ = some (.int .i64 r.gross) := by rw [cell_of_row w1 _ 7 _ _ _ HBk1.out]; rfl
   have c8 : w1.cell? ⟨w.heap.size + 1,8,none⟩ = some (.slice r.parts.ao r.parts.n r.parts.cap) := by rw [cell_of_row w1 _ 8 _ _ _ HBk1.out]; rfl
   clear h4
   go_wp2_with fail
   refine Calls.mono (R := fun e w' => ∃ v,e = .returned (.tuple #[v,.int .i64 (Bl.bookE s.book p.tot)]) ∧ Ba.Own w' w1.heap.size v (Bl.bookL s.book p.tot) ∧ Below w1.heap.size w1 w') ?_ ?_
   ·
    rw [HI.out.net,HI.out.tax,HI.out.gross]
    exact bil_enter s.book p.tot h.book.ao r.parts.ao h.book.n h.book.cap r.parts.n r.parts.cap w1 (HL.out.book.below (bchain HF.out.bel HB1.out)) (HI.out.parts.below (bchain HF.out.bel HB1.out)) (by have := HL.out.book.len; have := HN.out.2.2.2; omega) HN.out.1 (HI.out.gross ▸ HSh.out.2.2.2.2.2.2.2.1) HN.out.2.1
   rintro e w2 ⟨v2,rfl,o2,b2⟩
   have HSb := Lib.hid (Bl.bookL_short (b := s.book) (t := p.tot) HL.out.book.short (HI.out.gross ▸ HSh.out.2.2.2.2.2.2.2.1) HI.out.parts.short HN.out.2.1)
   have HBo := Lib.hid (Bl.bookL_ok (b := s.book) (t := p.tot))
   obtain ⟨L2,hL2⟩ : ∃ L2,Bl.bookL s.book p.tot = L2 := ⟨_,rfl⟩
   obtain ⟨E2,hE2⟩ : ∃ E2,Bl.bookE s.book p.tot = E2 := ⟨_,rfl⟩
   rw [hL2] at o2 HSb HBo
   rw [hE2] at HPo HBo ⊢
   clear hL2 hE2
   obtain ⟨bo,bc,rfl,l2,i2⟩ := Ba.own_ls o2 HSb.out
   obtain ⟨bn,hbn⟩ : ∃ bn,L2.length = bn := ⟨_,rfl⟩
   rw [hbn] at l2 ⊢
   clear hbn
   have HS2 := Lib.hid l2
   have HI2 := Lib.hid (inA_own (n := bn) i2)
   have HB2 := Lib.hid b2
   have hA2 := HA1.out.below b2
   have HA2 := Lib.hid hA2
   have HF2 := Lib.hid (HF1.out.below b2)
   have HBk2 := Lib.hid ((b2.block _ (by have := HUs.out; have := HB1.out.size; omega)).trans HBk1.out)
   clear o2 l2 i2 b2 y0 y1 y2 y3 y4 y5 c5 c6 c7 c8
   by_cases hE2 : E2 = 0
   ·
    subst hE2
    have HP := Lib.hid (Bl.iss_ok HPo.out)
    have hg1 : w2.cell? ⟨w.heap.size + 1,1,none⟩ = some (.int .i64 r.num) := by rw [cell_of_row w2 _ 1 _ _ _ HBk2.out]; rfl
    have hz1 : w2.frozen? ⟨w.heap.size + 1,1,none⟩ = false := frozen_of_row w2 _ 1 _ _ HBk2.out
    have hBk3 : (w2.setCell ⟨w.heap.size + 1,1,none⟩ (.int .i64 N)).heap[w.heap.size + 1]? = some (Pd.block (Pd.numbered r N)) := (heap_setCell_same w2 (w.heap.size + 1) 1 _ _ _ HBk2.out).trans rfl
    obtain ⟨w3,hw3⟩ : ∃ w3,w2.setCell ⟨w.heap.size + 1,1,none⟩ (.int .i64 N) = w3 := ⟨_,rfl⟩
    have hA3 := HA2.out.away (b := w.heap.size + 1) (by omega) 1 (.int .i64 N)
    have hF3 := HF2.out.set (g := w.heap.size + 1) (by omega) (by omega) 1 (.int .i64 N)
    have hk3 := Kp.set (A := U.heap.size) (g := w.heap.size + 1) w2 (by have := HUs.out; omega) 1 (.int .i64 N)
    have hs3 : w3.heap.size = w2.heap.size := by rw [← hw3]; simp
    rw [hw3] at hBk3 hA3 hF3 hk3
    have HA3 := Lib.hid hA3
    have HF3 := Lib.hid hF3
    have HK3 := Lib.hid hk3
    have HBk3 := Lib.hid hBk3
    have HSz3 := Lib.hid hs3
    have hC3 : Pd.C w3 (w.heap.size + 1) (Pd.numbered r N) := by
     unfold Pd.C
     have e := fun k => cell_of_row w3 (w.heap.size + 1) k _ _ _ HBk3.out
     refine ⟨?_,?_,?_,?_,?_,?_,?_,?_,?_,?_,?_,?_⟩
     all_goals
      rw [e]
      rfl
    obtain ⟨y0,y1,y2,y3,y4,y5⟩ := hA3.cells
    clear hA2 hBk3 hF3 hk3 hs3
    go_wp2_with (first | ((with_reducible apply Pd.wpl_loadC hC3); rfl; rfl; rfl))
    clear hw3
    refine (bil_with rs (Pd.numbered r N) h.post.ao h.post.n h.post.cap w3 (HPs.out.below HF3.out.bel) (by omega)).mono ?_
    rintro e w4 ⟨v4,rfl,o4,b4⟩
    have hsp : ∀ x ∈ rs ++ [Pd.numbered r N],Pd.Short x := by
     intro x hx
     rcases List.mem_append.1 hx with hx | hx
     · exact HPs.out.short x hx
     ·
      rw [List.mem_singleton.1 hx]
      exact ⟨HSh.out.1,HFn.out,HSh.out.2.2⟩
    obtain ⟨po,pc,rfl,l4,i4⟩ := Pd.own_ls o4 hsp
    obtain ⟨pn,hpn⟩ : ∃ pn,(rs ++ [Pd.numbered r N]).length = pn := ⟨_,rfl⟩
    rw [hpn] at l4 ⊢
    clear hpn hsp
    have HS4 := Lib.hid l4
    have HI4 := Lib.hid (inA_own (n := pn) i4)
    have HB4 := Lib.hid b4
    have hA4 := HA3.out.below b4
    have hF4 := HF3.out.below b4
    have HBk4 := Lib.hid ((b4.block _ (by have := HUs.out; have := HB1.out.size; have := HB2.out.size; have := HSz3.out; omega)).trans HBk3.out)
    clear o4 l4 i4 b4 y0 y1 y2 y3 y4 y5 hA3 hC3
    have z1 := hA4.frozen 1
    obtain ⟨y0,y1,y2,y3,y4,y5⟩ := hA4.cells
    have hA5 : Bl.At (w4.setCell ⟨w.heap.size,1,none⟩ (.slice so sn sc)) w.heap.size ⟨h.tab,⟨so,sn,sc⟩,h.post,h.book,h.sess,h.next⟩ := (Bl.set_heap hA4 1 _).trans rfl
    have hF5 := hF4.set (g := w.heap.size) (Nat.le_refl _) (by omega) 1 (.slice so sn sc)
    have z3 := hA5.frozen 3
    obtain ⟨t0,t1,t2,t3,t4,t5⟩ := hA5.cells
    have hA6 : Bl.At ((w4.setCell ⟨w.heap.size,1,none⟩ (.slice so sn sc)).setCell ⟨w.heap.size,3,none⟩ (.slice bo bn bc)) w.heap.size ⟨h.tab,⟨so,sn,sc⟩,h.post,⟨bo,bn,bc⟩,h.sess,h.next⟩ := (Bl.set_heap hA5 3 _).trans rfl
    have hF6 := hF5.set (g := w.heap.size) (Nat.le_refl _) (by omega) 3 (.slice bo bn bc)
    have z2 := hA6.frozen 2
    obtain ⟨u0,u1,u2,u3,u4,u5⟩ := hA6.cells
    have hA7 : Bl.At (((w4.setCell ⟨w.heap.size,1,none⟩ (.slice so sn sc)).setCell ⟨w.heap.size,3,none⟩ (.slice bo bn bc)).setCell ⟨w.heap.size,2,none⟩ (.slice po pn pc)) w.heap.size ⟨h.tab,⟨so,sn,sc⟩,⟨po,pn,pc⟩,⟨bo,bn,bc⟩,h.sess,h.next⟩ := (Bl.set_heap hA6 2 _).trans rfl
    have hF7 := hF6.set (g := w.heap.size) (Nat.le_refl _) (by omega) 2 (.slice po pn pc)
    have hk7 := ((Kp.set (A := U.heap.size) (g := w.heap.size) w4 (by have := HUs.out; omega) 1 (.slice so sn sc)).trans (Kp.set (g := w.heap.size) _ (by have := HUs.out; omega) 3 (.slice bo bn bc))).trans (Kp.set (g := w.heap.size) _ (by have := HUs.out; omega) 2 (.slice po pn pc))
    have hBk7 : (((w4.setCell ⟨w.heap.size,1,none⟩ (.slice so sn sc)).setCell ⟨w.heap.size,3,none⟩ (.slice bo bn bc)).setCell ⟨w.heap.size,2,none⟩ (.slice po pn pc)).heap[w.heap.size + 1]? = some (Pd.block (Pd.numbered r N)) := by
     rw [heap_setCell_other _ ⟨w.heap.size,2,none⟩ _ _ (by show w.heap.size + 1 ≠ w.heap.size; omega),heap_setCell_other _ ⟨w.heap.size,3,none⟩ _ _ (by show w.heap.size + 1 ≠ w.heap.size; omega),heap_setCell_other _ ⟨w.heap.size,1,none⟩ _ _ (by show w.heap.size + 1 ≠ w.heap.size; omega)]
     exact HBk4.out
    obtain ⟨w7,hw7⟩ : ∃ w7,((w4.setCell ⟨w.heap.size,1,none⟩ (.slice so sn sc)).setCell ⟨w.heap.size,3,none⟩ (.slice bo bn bc)).setCell ⟨w.heap.size,2,none⟩ (.slice po pn pc) = w7 := ⟨_,rfl⟩
    rw [hw7] at hA7 hF7 hk7 hBk7
    have HA7 := Lib.hid hA7
    have HF7 := Lib.hid hF7
    have HK7 := Lib.hid hk7
    have HBk7 := Lib.hid hBk7
    clear hA4 hA5 hA6 hA7 hF4 hF5 hF6 hF7 hk7 hBk7
    go_wp2_with fail
    clear hw7 y0 y1 y2 y3 y4 y5 t0 t1 t2 t3 t4 t5 u0 u1 u2 u3 u4 u5 z1 z2 z3
    have hgc : w7.cell? ⟨w.heap.size + 1,7,none⟩ = some (.int .i64 r.gross) := by rw [cell_of_row w7 _ 7 _ _ _ HBk7.out]; rfl
    refine Bl.wp_out8 (S := fun u => Bl.At u w.heap.size ⟨h.tab,⟨so,sn,sc⟩,⟨po,pn,pc⟩,⟨bo,bn,bc⟩,h.sess,h.next⟩ ∧ u.cell? ⟨w.heap.size + 1,7,none⟩ = some (.int .i64 r.gross)) ⟨h.tab,⟨so,sn,sc⟩,⟨po,pn,pc⟩,⟨bo,bn,bc⟩,h.sess,h.next⟩ Bl.zsv ⟨0,N,r.gross⟩ ⟨0,0,0⟩ (.int .i64 N) (.pointer (some ⟨w.heap.size + 1,5,none⟩)) (.pointer (some ⟨w.heap.size + 1,7,none⟩)) (.int .i64 r.gross) (w.heap.size + 1 + 1) (w.heap.size + 1 + 1 + 1) ⟨HA7.out,hgc⟩ HF7.out.st HF7.out.rp (by omega) ?_ ?_ ?_ ?_ ?_ ?_ ?_ ?_ ?_ ?_ ?_ ?_ ?_ ?_ ?_ rfl rfl rfl rfl rfl rfl ?_ ?_ ?_ ?_ ?_
    · exact fun u hu => ⟨hu.1.other (by omega) _,(World.cell?_of_block (setRow_other u (w.heap.size + 1 + 1) (w.heap.size + 1) _ (by omega))).trans hu.2⟩
    · exact fun u hu => ⟨hu.1.other (by omega) _,(World.cell?_of_block (setRow_other u (w.heap.size + 1 + 1 + 1) (w.heap.size + 1) _ (by omega))).trans hu.2⟩
    · kernel_rfl
    · exact Bl.y_load (t := 2) rfl rfl (by kernel_rfl) fun u hu => hu.1
    · exact Bl.y_move (t := 7) rfl rfl (by kernel_rfl)
    · exact Bl.y_tot (t := 3) rfl rfl (by kernel_rfl)
    · exact Bl.y_gross (t := 58) rfl rfl (by kernel_rfl)
    · exact Bl.y_int (t := 59) rfl rfl (by kernel_rfl) fun u hu => hu.2
    · exact Rp.y_build (x := 57) (y := 60) rfl rfl (by kernel_rfl) (by kernel_rfl)
    · exact fun _ _ _ h => h
    · exact fun _ _ _ h => h
    · exact fun _ _ _ h => h
    · exact fun _ _ _ h => h
    · exact fun _ _ _ h => h
    · exact fun _ _ _ h => h
    · kernel_rfl
    · kernel_rfl
    · kernel_rfl
    · kernel_rfl
    go_wp2_with fail
    refine (HF7.out.below (Below.refl _ _).drew).ret Tryz.results142 ⟨h.tab,⟨so,sn,sc⟩,⟨po,pn,pc⟩,⟨bo,bn,bc⟩,h.sess,h.next⟩ ⟨0,N,r.gross⟩ ?_ ?_ ?_ fun b => ?_
    · kernel_rfl
    · kernel_rfl
    · kernel_rfl
    rw [HP.out.1,HP.out.2]
    refine ⟨_,by rw [← HSr.out,HNe.out,HI.out.gross],?_,b⟩
    have hl := (HL.out.below b).wide w
    have kf : Kp U.heap.size w7 _ := (Kp.of (Below.refl _ _).drew).trans (Bl.kp_out2 (gS := w.heap.size + 1 + 1) (gR := w.heap.size + 1 + 1 + 1) w7.drew (by have := HUs.out; omega) (by have := HUs.out; omega) ⟨h.tab,⟨so,sn,sc⟩,⟨po,pn,pc⟩,⟨bo,bn,bc⟩,h.sess,h.next⟩ ⟨0,N,r.gross⟩)
    have k47 := HK7.out.trans kf
    have k24 := (HK3.out.trans (Kp.of HB4.out)).trans k47
    have k12 := (Kp.of HB2.out).trans k24
    have e1 := HS1.out.kp HI1.out k12
    have e2 := HS2.out.kp (HI2.out.mono (by have := HB1.out.size; omega)) k24
    have e4 := HS4.out.kp (HI4.out.mono (by have := HB1.out.size; have := HB2.out.size; have := HSz3.out; omega)) k47
    have hEa := (HEs.out.below b).add (r := Pd.numbered r N) (p := Bl.issP s p) ?_
    ·
     refine ⟨hl.tab,?_,⟨_,e4,hEa,?_⟩,?_,hl.sess,hl.next,hl.fit,hl.ptab,HI1.out.nw P (by have := HUs.out; omega),HI4.out.nw P (by have := HUs.out; have := HB1.out.size; have := HB2.out.size; have := HSz3.out; omega),HI2.out.nw P (by have := HUs.out; have := HB1.out.size; omega),hl.psess⟩
     ·
      rw [← HL1.out,HSr.out] at e1
      exact e1
     ·
      intro x hx
      rcases List.mem_append.1 hx with hx | hx
      · exact (HPi.out.1 x hx).mono fun _ q => .inl q
      ·
       rw [List.mem_singleton.1 hx]
       exact HPi.out.2.mono fun _ q => .inl q
     ·
      rw [HBo.out trivial] at e2
      exact e2
    ·
     have hq := HI.out.below b
     exact ⟨hq.ser,by show N = Se.takeN s.ser p.ser; rw [← HNe.out,HSr.out],hq.y,hq.m,hq.d,hq.net,hq.tax,hq.gross,hq.parts,hq.ofS,hq.ofN,hq.back⟩
   ·
    have hq : (E2 == 0) = false := beq_eq_false_iff_ne.2 hE2
    have HP := Lib.hid (Bl.iss_no HPo.out hE2)
    clear hA2
    go_wp2_with fail
    refine Bl.wp_refuse (w.heap.size) (w.heap.size + 1 + 1) (w.heap.size + 1 + 1 + 1) h Bl.zsv ⟨0,0,0⟩ (E2) HA2.out HF2.out.st HF2.out.rp (by omega) rfl rfl rfl rfl rfl rfl rfl rfl rfl rfl rfl rfl ?_ ?_ ?_ ?_ ?_ ?_ ?_ ?_ ?_ ?_ ?_
    · kernel_rfl
    · exact fun _ _ _ h => h
    · exact fun _ _ _ h => h
    · rfl
    · rfl
    · rfl
    · rfl
    · rfl
    · rfl
    · rfl
    intro w9 b9
    go_wp2_with fail
    exact (HF2.out.below b9).ret Tryz.results142 h ⟨E2,0,0⟩ rfl rfl rfl fun b => by rw [HP.out.1,HP.out.2]; exact ⟨_,rfl,(HL.out.below b).wide w,b⟩
 ·
  have hq : (E == 0) = false := beq_eq_false_iff_ne.2 hE0
  have HP := Lib.hid (Bl.iss_no (s := s) (p := p) ((Bl.post_take (t := p.tot) (by rw [← HSr.out,HEe.out]; exact hE0)).trans (by rw [← HSr.out]; exact HEe.out)) hE0)
  go_wp2_with fail
  refine Bl.wp_refuse (w.heap.size) (w.heap.size + 1 + 1) (w.heap.size + 1 + 1 + 1) h Bl.zsv ⟨0,0,0⟩ (E) HA1.out HF1.out.st HF1.out.rp (by omega) rfl rfl rfl rfl rfl rfl rfl rfl rfl rfl rfl rfl ?_ ?_ ?_ ?_ ?_ ?_ ?_ ?_ ?_ ?_ ?_
  · kernel_rfl
  · exact fun _ _ _ h => h
  · exact fun _ _ _ h => h
  · rfl
  · rfl
  · rfl
  · rfl
  · rfl
  · rfl
  · rfl
  intro w9 b9
  go_wp2_with fail
  exact (HF1.out.below b9).ret Tryz.results142 h ⟨E,0,0⟩ rfl rfl rfl fun b => by rw [HP.out.1,HP.out.2]; exact ⟨_,rfl,(HL.out.below b).wide w,b⟩
end Go.Proofs.YtjpfpojbalepeaaGreat
namespace Go.Proofs.YtjpfpojbalepeaaGreat
open Vt (Rt)
theorem head_1 {rs : List Rt} {y m d : Int} {ls : List Ln.T} (h : Vt.tableB rs = false) : Iv.headE rs y m d ls = 1 := if_pos h
theorem head_9 {rs : List Rt} {y m d : Int} {ls : List Ln.T} (h : Vt.tableB rs = true) (k : Dt.rightB y m d = false) : Iv.headE rs y m d ls = 9 := by
 unfold Iv.headE
 rw [if_neg (by rw [h]; simp),if_pos k]
theorem head_11 {rs : List Rt} {y m d : Int} {ls : List Ln.T} (h : Vt.tableB rs = true) (k : Dt.rightB y m d = true) (l : ls.length = 0) : Iv.headE rs y m d ls = 1 := by
 unfold Iv.headE
 rw [if_neg (by rw [h]; simp),if_neg (by rw [k]; simp),if_pos l]
theorem head_2 {rs : List Rt} {y m d : Int} {ls : List Ln.T} (h : Vt.tableB rs = true) (k : Dt.rightB y m d = true) (l : ls.length ≠ 0) (n : 12 < ls.length) : Iv.headE rs y m d ls = 2 := by
 unfold Iv.headE
 rw [if_neg (by rw [h]; simp),if_neg (by rw [k]; simp),if_neg l,if_pos n]
theorem head_0 {rs : List Rt} {y m d : Int} {ls : List Ln.T} (h : Vt.tableB rs = true) (k : Dt.rightB y m d = true) (l : ls.length ≠ 0) (n : ¬ 12 < ls.length) : Iv.headE rs y m d ls = 0 := by
 unfold Iv.headE
 rw [if_neg (by rw [h]; simp),if_neg (by rw [k]; simp),if_neg l,if_neg n]
theorem tax_fit (n bp : Int) : Fit (Sh.taxV n bp) := by
 have h0 : Fit 0 := ⟨by omega,by omega⟩
 unfold Sh.taxV
 split
 ·
  unfold Sh.val
  split
  ·
   unfold Sh.side
   split
   · exact ⟨by omega,by omega⟩
   · exact ⟨by omega,by omega⟩
  · exact h0
 · exact h0
theorem err_7 {x : Int} (h : Mn.err x = 7) : ¬ Mn.Fit x := by
 intro k
 rw [Mn.err_fit k] at h
 omega
section
variable {rs : List Rt} {y m d : Int} {x : Ln.T}
end
end Go.Proofs.YtjpfpojbalepeaaGreat
namespace Go.Proofs.YtjpfpojbalepeaaGreat
open Go.RowKit
open Vt (Rt)
open Go.Sort (grow)
def foundE (p : Int × Bool) : Ending := .returned (.tuple #[.int .i64 p.1,.bool p.2])
theorem last_at (c : ByteArray) (n : Int) (acc : Int × Bool) (rs : List Rt) (k : Nat) (h : k < rs.length) : Vt.last c n acc (rs.drop k) = Vt.last c n (if Vt.hit c n rs[k] = true then (rs[k].bp,true) else acc) (rs.drop (k + 1)) := by
 rw [List.drop_eq_getElem_cons h]
 rfl
theorem hit_yes {c : ByteArray} {n : Int} {r : Rt} (h : r.cat = c) (k : Vt.dy r ≤ n) : Vt.hit c n r = true := by
 unfold Vt.hit
 rw [decide_eq_true h,decide_eq_true k]
 rfl
theorem hit_no {c : ByteArray} {n : Int} {r : Rt} (h : r.cat ≠ c ∨ ¬ Vt.dy r ≤ n) : Vt.hit c n r = false := by
 unfold Vt.hit
 rcases h with h | h
 · rw [decide_eq_false h]; rfl
 · rw [decide_eq_false h,Bool.and_false]
end Go.Proofs.YtjpfpojbalepeaaGreat
namespace Go.Proofs.YtjpfpojbalepeaaGreat
open Go.RowKit
open Vt (Rt)
open Go.Sort (grow)
set_option maxHeartbeats 2000000 in
theorem vat_find (rs : List Rt) (ao : Option Addr) (n cap : Nat) (c : ByteArray) (y m d : Int) (w0 w : World) (hw : Below w0.heap.size w0 w) (hR : Rts w ao n cap rs) (hy : Fit y) (hm : Fit m) (hd : Fit d) :
  Calls Tryz.prog 179 #[.slice ao n cap,.string c,dayV y m d] w fun e w' => e = foundE (Vt.find rs c y m d) ∧ Below w0.heap.size w0 w' := by
 have HW := Lib.hid hw
 have HR := Lib.hid hR
 have HN := Lib.hid hR.len
 have HFt := Lib.hid (And.intro hy (And.intro hm hd))
 have hcap := hR.reach
 have hfit := hR.fits
 clear hw hR hy hm hd
 unfold dayV
 go_enter Tryz.func179,Tryz.ntmps179
 go_wp2_with fail
 refine (vat_right rs ao n cap (w.alloc (.cells #[.int .i64 y,.int .i64 m,.int .i64 d] 23)) _ (Below.refl _ _) (HR.out.below ((Below.refl _ _).alloc (Nat.le_refl _) _))).mono ?_
 rintro e w1 ⟨rfl,b1⟩
 cases hT : Vt.tableB rs
 ·
  have HF := Lib.hid (Vt.find_not (c := c) (y := y) (m := m) (d := d) (.inl hT))
  have HB1 := Lib.hid (bchain (below_box HW.out _) b1)
  clear b1
  go_wp2_with fail
  go_ret2
  exact ⟨by rw [HF.out]; rfl,HB1.out⟩
 ·
  have HTT := Lib.hid hT
  obtain ⟨hc,hf⟩ := bcell b1
  have HB1 := Lib.hid b1
  clear b1
  go_wp2_with fail
  refine (right_date y m d _ _ HB1.out HFt.out.1 HFt.out.2.1 HFt.out.2.2).mono ?_
  rintro e w2 ⟨rfl,b2⟩
  clear hc hf
  have HB2 := Lib.hid b2
  cases hd : Dt.rightB y m d
  ·
   have HF := Lib.hid (Vt.find_not (l := rs) (c := c) (.inr hd))
   have HB3 := Lib.hid (bchain (below_box HW.out _) b2)
   clear b2
   go_wp2_with fail
   go_ret2
   exact ⟨by rw [HF.out]; rfl,HB3.out⟩
  ·
   have HF := Lib.hid (Vt.find_right (c := c) HTT.out hd)
   have HD := Lib.hid hd
   clear b2
   go_wp2_with fail
   go_loopw [8,9,11,22] (fun t o _ i wr => ∃ (k : Nat) (x : Int) (f : Bool),k ≤ n ∧ i = .int .i64 k ∧ t = .int .i64 x ∧ o = .bool f ∧ Hid (Vt.last c (Dt.days y m d) (x,f) (rs.drop k) = Vt.last c (Dt.days y m d) (0,false) rs) ∧ Hid (Below (w.alloc (.cells #[.int .i64 y,.int .i64 m,.int .i64 d] 23)).heap.size (w.alloc (.cells #[.int .i64 y,.int .i64 m,.int .i64 d] 23)) wr)) (fun _ _ _ i _ => n - (intOf i).toNat)
   case atStart => exact ⟨0,0,false,by omega,rfl,rfl,rfl,Lib.hid rfl,HB2⟩
   case round =>
    rename World => wz
    obtain ⟨k,x,f,hk,rfl,rfl,rfl,HK,HB⟩ := hrel
    by_cases hlt : k < n
    ·
     obtain ⟨b,off,rfl⟩ := HR.out.at (by omega)
     have hkr : k < rs.length := HN.out ▸ hlt
     obtain ⟨r,hr⟩ : ∃ r,rs[k] = r := ⟨_,rfl⟩
     have hrow := (HR.out.row k hkr).below (bchain ((Below.refl _ _).alloc (Nat.le_refl _) _) HB.out)
     have HSt := Lib.hid (last_at c (Dt.days y m d) (x,f) rs k hkr)
     rw [hr] at hrow HSt
     have hmem : r ∈ rs := hr ▸ List.getElem_mem hkr
     have HSh := Lib.hid (HR.out.short r hmem)
     have HRr := Lib.hid (ahead_both HD.out (Vt.rowE_0.1 (((Vt.table_iff rs).1 HTT.out).2.1 r hmem)).2.1)
     clear hr hmem
     obtain ⟨g0,g1,g2,g3,g4⟩ := hrow
     obtain ⟨W,hW,hbW,hA⟩ := boxed1 wz r
     have HBW := Lib.hid (bchain HB.out hbW)
     have HA := Lib.hid hA
     clear hbW
     unfold RowC at hA
     obtain ⟨a0,a1,a2,a3,a4⟩ := hA
     obtain ⟨hc,hf⟩ := bcell HBW.out
     have e0 : W.cell? ⟨w.heap.size,0,none⟩ = some (.int .i64 y) := by rw [hc _ _ (by simp)]; simp
     have e1 : W.cell? ⟨w.heap.size,1,none⟩ = some (.int .i64 m) := by rw [hc _ _ (by simp)]; simp
     have e2 : W.cell? ⟨w.heap.size,2,none⟩ = some (.int .i64 d) := by rw [hc _ _ (by simp)]; simp
     clear hc hf
     by_cases hcat : r.cat = c
     ·
      have hq : (r.cat.toList == c.toList) = true := beq_iff_eq.2 (by rw [hcat])
      by_cases hdy : Vt.dy r ≤ Dt.days y m d
      ·
       have HH := Lib.hid (hit_yes hcat hdy)
       have HL : Hid (aheadB y m d r.y r.m r.d = false) := Lib.hid (by rw [HRr.out]; exact decide_eq_false (by have h : Dt.days r.y r.m r.d ≤ Dt.days y m d := hdy; omega))
       clear hcat hdy
       go_wp2_with fail
       refine (before_date y m d r.y r.m r.d W _ (Below.refl _ _) HFt.out.1 HFt.out.2.1 HFt.out.2.2 HSh.out.2.1 HSh.out.2.2.1 HSh.out.2.2.2.1).mono ?_
       rintro e w3 ⟨rfl,b3⟩
       rw [HL.out]
       have HBv := Lib.hid (bchain HBW.out b3)
       have hA := HA.out.below b3
       unfold RowC at hA
       obtain ⟨d0,d1,d2,d3,d4⟩ := hA
       clear b3
       go_wp2_with fail
       go_roundw
       case rel => exact ⟨k + 1,r.bp,true,by omega,by go_num,rfl,rfl,Lib.hid (by rw [← HK.out,HSt.out,HH.out]; rfl),HBv⟩
       case measure => simp [intOf]; omega
      ·
       have HH := Lib.hid (hit_no (c := c) (.inr hdy))
       have HL : Hid (aheadB y m d r.y r.m r.d = true) := Lib.hid (by rw [HRr.out]; exact decide_eq_true (by have h : ¬ Dt.days r.y r.m r.d ≤ Dt.days y m d := hdy; omega))
       clear hcat hdy
       go_wp2_with fail
       refine (before_date y m d r.y r.m r.d W _ (Below.refl _ _) HFt.out.1 HFt.out.2.1 HFt.out.2.2 HSh.out.2.1 HSh.out.2.2.1 HSh.out.2.2.2.1).mono ?_
       rintro e w3 ⟨rfl,b3⟩
       rw [HL.out]
       have HBv := Lib.hid (bchain HBW.out b3)
       clear b3
       go_wp2_with fail
       go_roundw
       case rel => exact ⟨k + 1,x,f,by omega,by go_num,rfl,rfl,Lib.hid (by rw [← HK.out,HSt.out,HH.out]; rfl),HBv⟩
       case measure => simp [intOf]; omega
     ·
      have hq : (r.cat.toList == c.toList) = false := beq_eq_false_iff_ne.2 fun e => hcat (Vt.cat_ext e)
      have HH := Lib.hid (hit_no (n := Dt.days y m d) (.inl hcat))
      clear hcat
      go_wp2_with fail
      go_roundw
      case rel => exact ⟨k + 1,x,f,by omega,by go_num,rfl,rfl,Lib.hid (by rw [← HK.out,HSt.out,HH.out]; rfl),HBW⟩
      case measure => simp [intOf]; omega
    ·
     obtain rfl : k = n := by omega
     go_wp2
     go_ret2
     refine ⟨?_,bchain (below_box HW.out _) HB.out⟩
     rw [HF.out,← HK.out,List.drop_eq_nil_of_le (Nat.le_of_eq HN.out.symm)]
     rfl
end Go.Proofs.YtjpfpojbalepeaaGreat
namespace Go.Proofs.YtjpfpojbalepeaaGreat
open Go.RowKit
open Vt (Rt)
open Go.Sort (grow)
def Iv.askE (rs : List Rt) (y m d : Int) (x : Ln.T) : Int :=
 if 64 < x.text.size then 2 else if Rn.name (txt x.category) = false then 8 else if x.count < 1 ∨ 1048576 < x.count then 1 else if (Vt.find rs x.category y m d).2 = false then 10 else 0
def Iv.askV (rs : List Rt) (y m d : Int) (x : Ln.T) : Int := if Iv.askE rs y m d x = 0 then (Vt.find rs x.category y m d).1 else 0
theorem Iv.ask_line {rs : List Rt} {y m d : Int} {x : Ln.T} : Iv.lineE rs y m d x = if Iv.askE rs y m d x = 0 then Mn.err (x.count * x.price) else Iv.askE rs y m d x := by
 unfold Iv.lineE Iv.askE
 split
 · rfl
 ·
  split
  · rfl
  ·
   split
   · rfl
   ·
    split
    · rfl
    · rfl
section
variable {rs : List Rt} {y m d : Int} {x : Ln.T}
theorem ask_2 (h : 64 < x.text.size) : Iv.askE rs y m d x = 2 := if_pos h
theorem ask_8 (h : ¬ 64 < x.text.size) (k : Rn.name (txt x.category) = false) : Iv.askE rs y m d x = 8 := by
 unfold Iv.askE
 rw [if_neg h,if_pos k]
theorem ask_1 (h : ¬ 64 < x.text.size) (k : Rn.name (txt x.category) = true) (l : x.count < 1 ∨ 1048576 < x.count) : Iv.askE rs y m d x = 1 := by
 unfold Iv.askE
 rw [if_neg h,if_neg (by rw [k]; simp),if_pos l]
theorem ask_10 (h : ¬ 64 < x.text.size) (k : Rn.name (txt x.category) = true) (l : ¬ (x.count < 1 ∨ 1048576 < x.count)) (n : (Vt.find rs x.category y m d).2 = false) : Iv.askE rs y m d x = 10 := by
 unfold Iv.askE
 rw [if_neg h,if_neg (by rw [k]; simp),if_neg l,if_pos n]
theorem ask_0 (h : ¬ 64 < x.text.size) (k : Rn.name (txt x.category) = true) (l : ¬ (x.count < 1 ∨ 1048576 < x.count)) (n : (Vt.find rs x.category y m d).2 = true) : Iv.askE rs y m d x = 0 := by
 unfold Iv.askE
 rw [if_neg h,if_neg (by rw [k]; simp),if_neg l,if_neg (by rw [n]; simp)]
end
theorem boxedDL (w : World) (y m d : Int) (x : Ln.T) : ∃ W,(w.alloc (.cells #[.int .i64 y,.int .i64 m,.int .i64 d] 23)).alloc (.cells #[.string x.text,.string x.category,.int .i64 x.count,.int .i64 x.price] 71) = W ∧
  Below w.heap.size w W ∧ DayC W w.heap.size y m d ∧ Ln.C W (w.heap.size + 1) x := by
 have b1 : Below w.heap.size w (w.alloc (.cells #[.int .i64 y,.int .i64 m,.int .i64 d] 23)) := (Below.refl _ _).alloc (Nat.le_refl _) _
 refine ⟨_,rfl,bchain b1 (Ln.below_own _ x),(dayC_box w y m d).below (Ln.below_own _ x),?_⟩
 have h := Ln.c_box (w.alloc (.cells #[.int .i64 y,.int .i64 m,.int .i64 d] 23)) x
 rw [show (w.alloc (.cells #[.int .i64 y,.int .i64 m,.int .i64 d] 23)).heap.size = w.heap.size + 1 by simp] at h
 exact h
set_option maxHeartbeats 2000000 in
theorem inv_ask (rs : List Rt) (ls : List Ln.T) (ao : Option Addr) (n ca k : Nat) (y m d : Int) (w0 w : World) (hw : Below w0.heap.size w0 w) (hR : Rts w ao n ca rs) (hy : Fit y) (hm : Fit m) (hd : Fit d) (hk : k = ls.length) (hk63 : k ≤ 9223372036854775807) :
  Calls Tryz.prog 164 #[.slice ao n ca,dayV y m d,.int .i64 (k : Int)] w fun e w' => e = .returned (.int .i64 (Iv.headE rs y m d ls)) ∧ Below w0.heap.size w0 w' := by
 have HW := Lib.hid hw
 have HR := Lib.hid hR
 have HK := Lib.hid hk
 have HFt := Lib.hid (And.intro hy (And.intro hm hd))
 clear hw hR hy hm hd hk
 unfold dayV
 go_enter Tryz.func164,Tryz.ntmps164
 go_wp2_with fail
 refine (vat_right rs ao n ca (w.alloc (.cells #[.int .i64 y,.int .i64 m,.int .i64 d] 23)) _ (Below.refl _ _) (HR.out.below ((Below.refl _ _).alloc (Nat.le_refl _) _))).mono ?_
 rintro e w1 ⟨rfl,b1⟩
 cases hT : Vt.tableB rs
 ·
  have HF := Lib.hid (head_1 (y := y) (m := m) (d := d) (ls := ls) hT)
  have HB1 := Lib.hid (bchain (below_box HW.out _) b1)
  clear b1
  go_wp2_with fail
  go_ret
  exact ⟨ret_int HF.out.symm,HB1.out⟩
 ·
  have HTT := Lib.hid hT
  obtain ⟨hc,hf⟩ := bcell b1
  have HB1 := Lib.hid b1
  clear b1
  go_wp2_with fail
  refine (right_date y m d _ _ HB1.out HFt.out.1 HFt.out.2.1 HFt.out.2.2).mono ?_
  rintro e w2 ⟨rfl,b2⟩
  clear hc hf
  have HB2 := Lib.hid (bchain (below_box HW.out _) b2)
  clear b2
  cases hd : Dt.rightB y m d
  ·
   have HF := Lib.hid (head_9 (ls := ls) HTT.out hd)
   go_wp2_with fail
   go_ret
   exact ⟨ret_int HF.out.symm,HB2.out⟩
  ·
   have HD := Lib.hid hd
   by_cases h0 : k = 0
   ·
    have HF := Lib.hid (head_11 (ls := ls) HTT.out HD.out (HK.out ▸ h0))
    subst h0
    go_wp2_with fail
    go_ret
    exact ⟨ret_int HF.out.symm,HB2.out⟩
   ·
    have hk0 : ((k : Int) == 0) = false := by simp; omega
    by_cases h12 : 12 < k
    ·
     have HF := Lib.hid (head_2 (ls := ls) HTT.out HD.out (HK.out ▸ h0) (HK.out ▸ h12))
     go_wp2_with fail
     go_ret
     exact ⟨ret_int HF.out.symm,HB2.out⟩
    ·
     have HF := Lib.hid (head_0 (ls := ls) HTT.out HD.out (HK.out ▸ h0) (HK.out ▸ h12))
     go_wp2_with fail
     go_ret
     exact ⟨ret_int HF.out.symm,HB2.out⟩
set_option maxHeartbeats 2000000 in
theorem inv_find (rs : List Rt) (x : Ln.T) (ao : Option Addr) (n ca : Nat) (y m d : Int) (w : World) (hR : Rts w ao n ca rs) (hy : Fit y) (hm : Fit m) (hd : Fit d) (hx : Ln.Short x) :
  Calls Tryz.prog 165 #[.slice ao n ca,dayV y m d,Ln.val x] w fun e w' => e = .returned (.tuple #[.int .i64 (Iv.askV rs y m d x),.int .i64 (Iv.askE rs y m d x)]) ∧ Below w.heap.size w w' := by
 have HFt := Lib.hid (And.intro hy (And.intro hm hd))
 have HX := Lib.hid hx
 obtain ⟨W,hW,hbW,hD,hC⟩ := boxedDL w y m d x
 have HR := Lib.hid (hR.below hbW)
 have HB := Lib.hid hbW
 have HD := Lib.hid hD
 have HC := Lib.hid hC
 unfold Ln.C at hC
 unfold DayC at hD
 obtain ⟨a0,a1,a2,a3⟩ := hC
 obtain ⟨d0,d1,d2⟩ := hD
 have hts := HX.out.1
 obtain ⟨hc1,hc2⟩ := HX.out.2.2.1
 clear hR hy hm hd hx hbW
 unfold dayV Ln.val
 by_cases h64 : 64 < x.text.size
 ·
  have HE := Lib.hid (ask_2 (rs := rs) (y := y) (m := m) (d := d) h64)
  go_enter Tryz.func165,Tryz.ntmps165
  go_wp2_with fail
  go_ret2
  exact ⟨by unfold Iv.askV; rw [HE.out]; rfl,HB.out⟩
 ·
  have HL := Lib.hid h64
  go_enter Tryz.func165,Tryz.ntmps165
  go_wp2_with fail
  refine (name_any x.category _ HX.out.2.1).mono ?_
  rintro e w1 ⟨rfl,b1⟩
  have hD := HD.out.below b1
  have hC := HC.out.below b1
  have HD1 := Lib.hid hD
  have HC1 := Lib.hid hC
  have HR1 := Lib.hid (HR.out.below b1)
  have HB1 := Lib.hid (bchain HB.out b1)
  clear b1 hW a0 a1 a2 a3 d0 d1 d2 HD HC HR HB h64
  unfold Ln.C at hC
  unfold DayC at hD
  obtain ⟨a0,a1,a2,a3⟩ := hC
  obtain ⟨d0,d1,d2⟩ := hD
  cases hn : Rn.name (txt x.category)
  ·
   have HE := Lib.hid (ask_8 (rs := rs) (y := y) (m := m) (d := d) HL.out hn)
   go_wp2_with fail
   go_ret2
   exact ⟨by unfold Iv.askV; rw [HE.out]; rfl,HB1.out⟩
  ·
   have HN := Lib.hid hn
   by_cases h1 : x.count < 1
   ·
    have HE := Lib.hid (ask_1 (rs := rs) (y := y) (m := m) (d := d) HL.out HN.out (.inl h1))
    go_wp2_with fail
    go_ret2
    exact ⟨by unfold Iv.askV; rw [HE.out]; rfl,HB1.out⟩
   ·
    by_cases h2 : 1048576 < x.count
    ·
     have HE := Lib.hid (ask_1 (rs := rs) (y := y) (m := m) (d := d) HL.out HN.out (.inr h2))
     go_wp2_with fail
     go_ret2
     exact ⟨by unfold Iv.askV; rw [HE.out]; rfl,HB1.out⟩
    ·
     have HN2 : Hid (¬ (x.count < 1 ∨ 1048576 < x.count)) := Lib.hid (by omega)
     go_wp2_with fail
     refine (vat_find rs ao n ca x.category y m d _ _ (Below.refl _ _) HR1.out HFt.out.1 HFt.out.2.1 HFt.out.2.2).mono ?_
     rintro e w2 ⟨rfl,b2⟩
     have HB2 := Lib.hid (bchain HB1.out b2)
     unfold foundE
     obtain ⟨v,f,hvf⟩ : ∃ v f,Vt.find rs x.category y m d = (v,f) := ⟨_,_,rfl⟩
     rw [hvf]
     have HV : Hid ((Vt.find rs x.category y m d).1 = v) := Lib.hid (by rw [hvf])
     cases f
     ·
      have HE := Lib.hid (ask_10 (rs := rs) (y := y) (m := m) (d := d) HL.out HN.out HN2.out (by rw [hvf]))
      clear hvf b2
      go_wp2_with fail
      go_ret2
      exact ⟨by unfold Iv.askV; rw [HE.out]; rfl,HB2.out⟩
     ·
      have HE := Lib.hid (ask_0 (rs := rs) (y := y) (m := m) (d := d) HL.out HN.out HN2.out (by rw [hvf]))
      clear hvf b2
      go_wp2_with fail
      go_ret2
      exact ⟨by unfold Iv.askV; rw [HE.out,HV.out]; rfl,HB2.out⟩
set_option maxHeartbeats 2000000 in
theorem inv_place (ps : List Pt.T) (c : ByteArray) (ao : Option Addr) (n cap : Nat) (w : World) (hP : Pt.Ls w ao n cap ps) :
  Calls Tryz.prog 181 #[.slice ao n cap,.string c] w fun e w' => e = .returned (.int .i64 (Iv.spot c ps : Nat)) ∧ w' = w := by
 have HP := Lib.hid hP
 have HN := Lib.hid hP.len
 have hcap := hP.reach
 have hfit := hP.fits
 clear hP
 go_enter Tryz.func181,Tryz.ntmps181
 go_wp2_with fail
 go_loopw [5] (fun i wr => ∃ k : Nat,k ≤ n ∧ i = .int .i64 k ∧ Hid (k + Iv.spot c (ps.drop k) = Iv.spot c ps) ∧ wr = w) (fun i _ => n - (intOf i).toNat)
 case atStart => exact ⟨0,by omega,rfl,Lib.hid (Nat.zero_add _),rfl⟩
 case round =>
  obtain ⟨k,hk,rfl,HK,rfl⟩ := hrel
  by_cases hlt : k < n
  ·
   obtain ⟨b,off,rfl⟩ := HP.out.at (by omega)
   have hkp : k < ps.length := HN.out ▸ hlt
   obtain ⟨q,hq⟩ : ∃ q,ps[k] = q := ⟨_,rfl⟩
   have hrow := HP.out.row k hkp
   have HSt := Lib.hid (Iv.spot_at c ps k hkp)
   rw [hq] at hrow HSt
   obtain ⟨g0,g1,g2,g3⟩ := hrow
   clear hq
   unfold Iv.lt at HSt
   cases hqr : Op.bytesLess q.cat.toList c.toList
   ·
    rw [hqr,if_neg (by simp)] at HSt
    have HSp : Hid (Iv.spot c ps = k) := Lib.hid (by rw [← HK.out,HSt.out]; rfl)
    go_wp2_with fail
    go_ret
    exact ⟨by rw [HSp.out]; rfl,rfl⟩
   ·
    rw [hqr,if_pos rfl] at HSt
    go_wp2_with fail
    go_roundw
    case rel => exact ⟨k + 1,by omega,by go_num,Lib.hid (by rw [← HK.out,HSt.out]; omega),trivial⟩
    case measure => simp [intOf]; omega
  ·
   obtain rfl : k = n := by omega
   have HSp : Hid (Iv.spot c ps = k) := Lib.hid (by rw [← HK.out,List.drop_eq_nil_of_le (Nat.le_of_eq HN.out.symm)]; rfl)
   go_wp2_with fail
   go_ret
   exact ⟨by rw [HSp.out]; rfl,rfl⟩
end Go.Proofs.YtjpfpojbalepeaaGreat
