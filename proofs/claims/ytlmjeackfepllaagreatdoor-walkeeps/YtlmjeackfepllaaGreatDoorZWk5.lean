import Derived.Deep.RegionHeld3
import Derived.Test.YtlmjeackfepllaaGreatDoorShelf
import Derived.Lib.Overlaps
import Derived.Lib.JoinLaws
import Derived.Lib.AppendZerosOnto
import Derived.Deep.RegionLaw
import Derived.Test.YtlmjeackfepllaaGreatDoorZWk2
import Derived.Test.YtlmjeackfepllaaGreatDoorZWk3
import Derived.Test.YtlmjeackfepllaaGreatDoorZWk4
set_option maxRecDepth 100000
set_option linter.unusedVariables false
namespace Go.Proofs.YtlmjeackfepllaaGreatDoor
open Go.RowKit
open Mem Dk
def Dk.cmp (a b : ByteArray) : Int := Lib.compareBytes a.data.toList b.data.toList
theorem Dk.cmp_less : ∀ a b : List UInt8,decide (Lib.compareBytes a b < 0) = Op.bytesLess a b
 | [],[] => rfl
 | [],_ :: _ => rfl
 | _ :: _,[] => rfl
 | a :: x,b :: y => by
  have ih := Dk.cmp_less x y
  unfold Lib.compareBytes Op.bytesLess
  by_cases h : a < b
  ·
   rw [if_pos h,decide_eq_true h]
   rfl
  ·
   rw [if_neg h,decide_eq_false h,Bool.false_or]
   by_cases k : b < a
   ·
    rw [if_pos k]
    have hne : (a == b) = false := beq_eq_false_iff_ne.2 fun e => by subst e; exact UInt8.lt_irrefl a k
    rw [hne]
    rfl
   ·
    rw [if_neg k,ih]
    have he : a = b := UInt8.le_antisymm (UInt8.not_lt.1 k) (UInt8.not_lt.1 h)
    rw [beq_iff_eq.2 he,Bool.true_and]
theorem Dk.cmp_zero : ∀ a b : List UInt8,Lib.compareBytes a b = 0 ↔ a = b
 | [],[] => ⟨fun _ => rfl,fun _ => rfl⟩
 | [],_ :: _ => ⟨fun h => (by cases h),fun h => (by cases h)⟩
 | _ :: _,[] => ⟨fun h => (by cases h),fun h => (by cases h)⟩
 | a :: x,b :: y => by
  have ih := Dk.cmp_zero x y
  unfold Lib.compareBytes
  by_cases h : a < b
  ·
   rw [if_pos h]
   exact ⟨fun z => (by cases z),fun z => (by cases z; exact absurd h (UInt8.lt_irrefl a))⟩
  ·
   rw [if_neg h]
   by_cases k : b < a
   ·
    rw [if_pos k]
    exact ⟨fun z => (by cases z),fun z => (by cases z; exact absurd k (UInt8.lt_irrefl a))⟩
   ·
    rw [if_neg k,ih]
    have he : a = b := UInt8.le_antisymm (UInt8.not_lt.1 k) (UInt8.not_lt.1 h)
    rw [he]
    exact ⟨fun z => (by rw [z]),fun z => (by cases z; rfl)⟩
theorem Dk.cmp_lt (a b : ByteArray) : Dk.cmp a b < 0 ↔ lt a b = true := by
 have h := Dk.cmp_less a.data.toList b.data.toList
 unfold Dk.cmp lt
 rw [← decide_eq_true_iff (p := Lib.compareBytes a.data.toList b.data.toList < 0),h]
 have e : ∀ s : ByteArray,s.toList = s.data.toList := fun s => tl s
 rw [e,e]
theorem Dk.cmp_eq (a b : ByteArray) : Dk.cmp a b = 0 ↔ a = b := by
 unfold Dk.cmp
 rw [Dk.cmp_zero]
 constructor
 ·
  intro h
  cases a
  cases b
  simp only [ByteArray.mk.injEq]
  exact Array.toList_inj.1 h
 ·
  intro h
  rw [h]
theorem dk_order (r : Fl.T) (s : ByteArray) (w0 w : World) (hw : Below w0.heap.size w0 w) : Calls Tryz.prog 112 #[.agg #[.string r.name,.slice r.bytes.ao r.bytes.n r.bytes.cap,.int .i64 r.kept],.string s] w fun e w' => e = .returned (.int .i64 (Dk.cmp r.name s)) ∧ Below w0.heap.size w0 w' := by
 have hcon : ∀ W',Calls Tryz.prog 113 #[.string r.name,.string s] W' fun e w' => e = .returned (.int .i64 (Dk.cmp r.name s)) ∧ w' = W' := fun W' => Tryz.strings_Compare r.name s W'
 have HW := Lib.hid hw
 generalize Dk.cmp r.name s = q at hcon ⊢
 clear hw
 go_enter Tryz.func112,Tryz.ntmps112
 go_wp2_with (go_at_call 113; refine (hcon _).mono ?_; rintro e w' ⟨rfl,rfl⟩)
 go_ret
 exact ⟨rfl,below_box HW.out _⟩
set_option maxHeartbeats 4000000 in
theorem dk_search (rs : List Fl.T) (fs : List F) (s : ByteArray) (ao : Option Addr) (n cap : Nat) (w : World) (hL : Fl.Ls w ao n cap rs) (hl : rs.length = fs.length) (hn : ∀ i (h : i < rs.length),rs[i].name = (fs[i]'(hl ▸ h)).name) (hs : Sorted fs) (hm : n ≤ 1000) :
  Calls Tryz.prog 111 #[.slice ao n cap,.string s,.func (.func 112) #[] #[]] w fun e w' => e = .returned (.tuple #[.int .i64 (spot s fs : Nat),.bool (has s fs)]) ∧ Below w.heap.size w w' := by
 have HL := Lib.hid hL
 have HN := Lib.hid hL.len
 have HNm := Lib.hid hn
 have HSo := Lib.hid hs
 have hcap := hL.reach
 have hfit := hL.fits
 have HSp : Hid (spot s fs ≤ n) := Lib.hid (by have h1 := spot_le s fs; have h2 := hL.len; omega)
 obtain ⟨sp,hsp⟩ : ∃ sp,spot s fs = sp := ⟨_,rfl⟩
 have HSq := Lib.hid hsp
 rw [hsp] at HSp
 clear hL hn hs
 have HIf : Hid (∀ i (hi : i < rs.length),Dk.cmp rs[i].name s < 0 ↔ i < sp) := Lib.hid fun i hi => by
  rw [Dk.cmp_lt,HNm.out i hi,spot_iff s fs HSo.out i (hl ▸ hi),HSq.out]
 have hsn := HSp.out
 clear hsp
 go_enter Tryz.func111,Tryz.ntmps111
 go_wp2_with fail
 go_loopw [9,10,11] (fun a b _ wr => ∃ i j : Nat,i ≤ sp ∧ sp ≤ j ∧ j ≤ n ∧ a = .int .i64 i ∧ b = .int .i64 j ∧ Hid (Below w.heap.size w wr)) (fun a b _ _ => (intOf b).toNat - (intOf a).toNat)
 case atStart => exact ⟨0,n,by omega,by omega,by omega,rfl,rfl,Lib.hid (Below.refl _ _)⟩
 case round =>
  rename World => wz
  obtain ⟨i,j,h1,h2,h3,rfl,rfl,HB⟩ := hrel
  by_cases hij : i < j
  ·
   obtain ⟨h,hh⟩ : ∃ h,(i + j) / 2 = h := ⟨_,rfl⟩
   have hh1 : i ≤ h := by omega
   have hh2 : h < j := by omega
   have hsh : ((i : Int) + (j : Int)) / 2 = (h : Int) := by omega
   obtain ⟨b,off,rfl⟩ := HL.out.at (by omega)
   have hhr : h < rs.length := by have := HN.out; omega
   have hrow := (HL.out.row h hhr).below HB.out
   have hif := HIf.out h hhr
   obtain ⟨r,hr⟩ : ∃ r,rs[h] = r := ⟨_,rfl⟩
   rw [hr] at hrow hif
   have HIh := Lib.hid hif
   obtain ⟨g0,g1,g2⟩ := hrow
   clear hr hif hh
   by_cases hc : h < sp
   ·
    have hcm : Dk.cmp r.name s < 0 := HIh.out.2 hc
    have HC := Lib.hid hc
    have HCo : Hid (∀ u,Below wz.heap.size wz u → Calls Tryz.prog 112 #[.agg #[.string r.name,.slice r.bytes.ao r.bytes.n r.bytes.cap,.int .i64 r.kept],.string s] u fun e w' => e = .returned (.int .i64 (Dk.cmp r.name s)) ∧ Below wz.heap.size wz w') := Lib.hid fun u hu => dk_order r s wz u hu
    generalize Dk.cmp r.name s = q at HCo hcm
    clear hc HIh
    go_wp2_with (go_at_call 112; refine (HCo.out _ (Below.refl _ _)).mono ?_; rintro e w1 ⟨rfl,b1⟩; have HB1 := Lib.hid (bchain HB.out b1); clear b1)
    go_roundw
    case rel => exact ⟨h + 1,j,by have := HC.out; omega,by omega,by omega,by go_num,rfl,HB1⟩
    case measure => simp [intOf]; omega
   ·
    have hcm : ¬ Dk.cmp r.name s < 0 := fun z => hc (HIh.out.1 z)
    have HC := Lib.hid hc
    have HCo : Hid (∀ u,Below wz.heap.size wz u → Calls Tryz.prog 112 #[.agg #[.string r.name,.slice r.bytes.ao r.bytes.n r.bytes.cap,.int .i64 r.kept],.string s] u fun e w' => e = .returned (.int .i64 (Dk.cmp r.name s)) ∧ Below wz.heap.size wz w') := Lib.hid fun u hu => dk_order r s wz u hu
    generalize Dk.cmp r.name s = q at HCo hcm
    clear hc HIh
    go_wp2_with (go_at_call 112; refine (HCo.out _ (Below.refl _ _)).mono ?_; rintro e w1 ⟨rfl,b1⟩; have HB1 := Lib.hid (bchain HB.out b1); clear b1)
    go_roundw
    case rel => exact ⟨i,h,by omega,by have := HC.out; omega,by omega,rfl,rfl,HB1⟩
    case measure => simp [intOf]; omega
  ·
   obtain rfl : i = sp := by omega
   obtain rfl : j = i := by omega
   by_cases hlt : j < n
   ·
    obtain ⟨b,off,rfl⟩ := HL.out.at (by omega)
    have hjr : j < rs.length := by have := HN.out; omega
    have hrow := (HL.out.row j hjr).below HB.out
    have HHas : Hid (has s fs = decide (Dk.cmp rs[j].name s = 0)) := Lib.hid (by
     rw [Bool.eq_iff_iff,has_spot HSo.out,decide_eq_true_iff,Dk.cmp_eq,HNm.out j hjr]
     simp only [HSq.out]
     exact ⟨fun z => z.2,fun z => ⟨hl ▸ hjr,z⟩⟩)
    obtain ⟨r,hr⟩ : ∃ r,rs[j] = r := ⟨_,rfl⟩
    rw [hr] at hrow HHas
    obtain ⟨g0,g1,g2⟩ := hrow
    have HCo : Hid (∀ u,Below wz.heap.size wz u → Calls Tryz.prog 112 #[.agg #[.string r.name,.slice r.bytes.ao r.bytes.n r.bytes.cap,.int .i64 r.kept],.string s] u fun e w' => e = .returned (.int .i64 (Dk.cmp r.name s)) ∧ Below wz.heap.size wz w') := Lib.hid fun u hu => dk_order r s wz u hu
    generalize Dk.cmp r.name s = q at HCo HHas
    clear hr
    by_cases hq : q = 0
    ·
     have hqe : (q == 0) = true := beq_iff_eq.2 hq
     have HH : Hid (has s fs = true) := Lib.hid (by rw [HHas.out]; exact decide_eq_true hq)
     clear hq HHas
     go_wp2_with (go_at_call 112; refine (HCo.out _ (Below.refl _ _)).mono ?_; rintro e w1 ⟨rfl,b1⟩; have HB1 := Lib.hid (bchain HB.out b1); clear b1)
     go_ret2
     exact ⟨by rw [HSq.out,HH.out]; rfl,HB1.out⟩
    ·
     have hqe : (q == 0) = false := beq_eq_false_iff_ne.2 hq
     have HH : Hid (has s fs = false) := Lib.hid (by rw [HHas.out]; exact decide_eq_false hq)
     clear hq HHas
     go_wp2_with (go_at_call 112; refine (HCo.out _ (Below.refl _ _)).mono ?_; rintro e w1 ⟨rfl,b1⟩; have HB1 := Lib.hid (bchain HB.out b1); clear b1)
     go_ret2
     exact ⟨by rw [HSq.out,HH.out]; rfl,HB1.out⟩
   ·
    have HH : Hid (has s fs = false) := Lib.hid (by
     rw [Bool.eq_false_iff]
     intro z
     have h4 := spot_lt HSo.out z
     have h5 := HSq.out
     have h6 := HN.out
     omega)
    go_wp2_with fail
    go_ret2
    exact ⟨by rw [HSq.out,HH.out]; rfl,HB.out⟩
theorem dk_find {P : Nat → Prop} {w : World} {p : Nat} {d : D} {v : Sl} {L : Int} {rs : List Fl.T} (h : At P w p d v L rs) (s : ByteArray) :
  Calls Tryz.prog 70 #[.pointer (some ⟨p,0,none⟩),.string s] w fun e w' => e = .returned (.tuple #[.int .i64 (spot s d.fs : Nat),.bool (has s d.fs)]) ∧ Below w.heap.size w w' := by
 have HA := Lib.hid h
 obtain ⟨c0,c1,c2,c3⟩ := h.box.cells
 have HC := Lib.hid (dk_search rs d.fs s v.ao v.n v.cap w h.ls h.each.len h.each.name h.ok.sorted (by rw [h.n.1]; exact h.few))
 generalize spot s d.fs = sp at HC ⊢
 generalize has s d.fs = hb at HC ⊢
 clear h
 go_enter Tryz.func70,Tryz.ntmps70
 go_wp2_with fail
 refine HC.out.mono ?_
 rintro e w1 ⟨rfl,b1⟩
 have HB := Lib.hid b1
 clear b1 c0 c1 c2 c3
 go_wp2_with fail
 go_ret2
 exact ⟨rfl,HB.out⟩
end Go.Proofs.YtlmjeackfepllaaGreatDoor
namespace Go.Proofs.YtlmjeackfepllaaGreatDoor.Fl
open Go.RowKit
open Mem Dk
theorem _root_.Go.Proofs.YtlmjeackfepllaaGreatDoor.UpdQ.grown {w u : World} {row : Option Nat} (gr : w.grownBy u row) : UpdQ (fun b => row = some b) w u :=
 ⟨gr.size,fun b hb hq => gr.block b hb fun e => hq e.symm,fun w0 a c => a.grown gr a.size fun k e => c k e⟩
theorem _root_.Go.Proofs.YtlmjeackfepllaaGreatDoor.UpdQ.row {Q : Nat → Prop} {g : Nat} (u : World) (hg : Q g) (vs : Array Value) : UpdQ Q u (u.setRow g vs) :=
 ⟨by simp [World.setRow],fun b _ hq => setRow_other u g b vs (fun e => hq (by rw [e]; exact hg)),fun w0 a c => below_setRow a (c g hg) vs⟩
theorem slice_from (g n c k l c' : Nat) (x : Int) (hx : x = (k : Int)) (hk : k + l = n) (hc : k + c' = c) (hl : 0 < c') (hn : n ≤ c) (h63 : c ≤ 9223372036854775807) (u : World) :
  (Instr.slice 74 (.slice (some ⟨g,0,none⟩) n c) (some (.int .i64 x)) none none).run Tryz.prog u = .ok (.slice (some ⟨g,k * 3,none⟩) l c') u := by
 subst hx
 rw [run_slice_l u 74 (some ⟨g,0,none⟩) n c und .i64 k (by omega) (by omega),size]
 have e1 : n - k = l := by omega
 have e2 : c - k = c' := by omega
 have e3 : ¬ c = k := by omega
 simp [Result.andThen,sliced,e1,e2,e3,Addr.add]
 intro h
 exact h.symm
theorem slice_to (g n c k : Nat) (x : Int) (hx : x = (k : Int)) (hk : k ≤ c) (h63 : c ≤ 9223372036854775807) (u : World) :
  (Instr.slice 74 (.slice (some ⟨g,0,none⟩) n c) none (some (.int .i64 x)) none).run Tryz.prog u = .ok (.slice (some ⟨g,0,none⟩) k c) u := by
 subst hx
 rw [run_slice_h u 74 (some ⟨g,0,none⟩) n c und .i64 k (by omega) (by omega),size]
 simp [Result.andThen,sliced,Addr.add]
def Raw (w : World) (g : Nat) (cs : List Value) : Prop := w.heap[g]? = some (.cells cs.toArray 90 (0,0))
def rlaid (cs : List Value) (rs : List T) (o : Nat) : List Value := cs.take (o * 3) ++ rs.flatMap rv ++ cs.drop ((o + rs.length) * 3)
def rcells (cs : List Value) : Array Value := cs.toArray
theorem Raw.laid {u : World} {g : Nat} {cs : List Value} (h : Raw u g cs) (ds : List Value) : Raw (u.setRow g (rcells ds)) g ds := setRow_heap u g _ _ 90 _ h
theorem Raw.drew {u : World} {g : Nat} {cs : List Value} (h : Raw u g cs) : Raw u.drew g cs := h
theorem flat_take : ∀ (M : List T) (o : Nat),(M.flatMap rv).take (o * 3) = (M.take o).flatMap rv
 | [],o => by simp
 | a :: l,0 => by simp
 | a :: l,o + 1 => by
  rw [List.flatMap_cons,List.take_succ_cons,List.flatMap_cons,show (o + 1) * 3 = (rv a).length + o * 3 by rw [rv_len]; omega,List.take_length_add_append,flat_take l o]
theorem copy_raw (u : World) (g : Nat) (cs : List Value) (o dl dc b so sl sc : Nat) (rs : List T) (hb : Raw u g cs) (hk : rs.length = Nat.min sl dl) (ho : (o + rs.length) * 3 ≤ cs.length) (hs : ∀ (k : Nat) (hk : k < rs.length),At u b (so + k * 3) rs[k]) (ty : TypeId) :
  (Builtin.copy_ #[74,74] ty #[.slice (some ⟨g,o * 3,none⟩) dl dc,.slice (some ⟨b,so,none⟩) sl sc]).run Tryz.prog u = .ok (goInt rs.length) (u.setRow g (rcells (rlaid cs rs o))) := by
 obtain ⟨i0,hi,hiK⟩ := Option.map_eq_some_iff.1 sizeZ
 have hl := run_loadCells_list (P := Tryz.prog) u ⟨b,so,none⟩ (rs.flatMap rv) (fun j v hv => news_of hs j v hv)
 have hst := run_storeCells_at Tryz.prog g (o * 3) 90 (rs.flatMap rv) 0 _ u hb (by rw [List.size_toArray,flat_len]; omega) (one_cell rs)
 have hlen : (rs.flatMap rv).length = rs.length * 3 := flat_len rs
 have e : (cs.toArray.toList.take (o * 3 + 0) ++ rs.flatMap rv ++ cs.toArray.toList.drop (o * 3 + 0 + (rs.flatMap rv).length)) = rlaid cs rs o := by
  rw [List.toList_toArray,Nat.add_zero,hlen,show o * 3 + rs.length * 3 = (o + rs.length) * 3 by omega]
  rfl
 rw [e] at hst
 rw [hlen] at hl
 unfold rcells
 simp [Builtin.copy_,run_underlying Tryz.underlying74,Builtin.lenOf,Builtin.firstCells,sizeOf,typeInfo,hi,hiK,← hk,hl,hst]
theorem own_raw {w : World} {B g n cap : Nat} {M : List T} (h : Own w B (.slice (some ⟨g,0,none⟩) n cap) M) : ∃ cs,Raw w g cs ∧ cs.length = cap * 3 ∧ cs.take (n * 3) = M.flatMap rv ∧ n = M.length ∧ n ≤ cap ∧ cap ≤ 9223372036854775807 ∧ B ≤ g := by
 rcases h.2 with ⟨h',_⟩ | ⟨g',cap',cur,h',hb,hg,hnc,hcm,hcs,htake⟩
 · cases h'
 ·
  simp only [Value.slice.injEq,Option.some.injEq,Addr.mk.injEq,and_true] at h'
  obtain ⟨e1,e2,e3⟩ := h'
  subst e1 e3
  refine ⟨cur.toList,?_,by rw [Array.length_toList,hcs],by rw [e2]; exact htake,e2,by rw [e2]; exact hnc,hcm,hb⟩
  unfold Raw
  rw [Array.toArray_toList]
  exact hg
theorem raw_own {w : World} {B g n cap : Nat} {M : List T} {cs : List Value} (h : Raw w g cs) (hl : cs.length = cap * 3) (ht : cs.take (n * 3) = M.flatMap rv) (hn : n = M.length) (hc : n ≤ cap) (hm : cap ≤ 9223372036854775807) (hB : B ≤ g) : Own w B (.slice (some ⟨g,0,none⟩) n cap) M := by
 subst hn
 exact ⟨by rw [flat_len],.inr ⟨g,cap,cs.toArray,rfl,hB,h,hc,by have : maxLen = 9223372036854775807 := rfl; omega,by rw [List.size_toArray,hl],by rw [List.toList_toArray]; exact ht⟩⟩
theorem flat_app (M N : List T) : (M ++ N).flatMap rv = M.flatMap rv ++ N.flatMap rv := List.flatMap_append
theorem laid_one {cs : List Value} {M : List T} {n i : Nat} (hn : n = M.length) (ht : cs.take (n * 3) = M.flatMap rv) (hi : i < n) (hl : (n + 1) * 3 ≤ cs.length) :
  rlaid cs (M.drop i) (i + 1) = (M.take (i + 1)).flatMap rv ++ (M.drop i).flatMap rv ++ cs.drop ((n + 1) * 3) := by
 unfold rlaid
 have e1 : cs.take ((i + 1) * 3) = (M.take (i + 1)).flatMap rv := by
  rw [← flat_take,← ht,List.take_take,Nat.min_eq_left (by omega)]
 have e2 : i + 1 + (M.drop i).length = n + 1 := by rw [List.length_drop]; omega
 rw [e1,e2]
theorem laid_two {X : List Value} {M : List T} {r : T} {n i : Nat} (hn : n = M.length) (hi : i < n) :
  rlaid ((M.take (i + 1)).flatMap rv ++ (M.drop i).flatMap rv ++ X) [r] i = (M.take i ++ r :: M.drop i).flatMap rv ++ X := by
 unfold rlaid
 have h1 : ((M.take (i + 1)).flatMap rv).length = (i + 1) * 3 := by rw [flat_len,List.length_take,Nat.min_eq_left (by omega)]
 have e1 : ((M.take (i + 1)).flatMap rv ++ (M.drop i).flatMap rv ++ X).take (i * 3) = (M.take i).flatMap rv := by
  rw [List.append_assoc,List.take_append_of_le_length (by rw [h1]; omega),flat_take,List.take_take,Nat.min_eq_left (by omega)]
 have e2 : ((M.take (i + 1)).flatMap rv ++ (M.drop i).flatMap rv ++ X).drop ((i + [r].length) * 3) = (M.drop i).flatMap rv ++ X := by
  rw [List.append_assoc,List.drop_left' (by rw [h1]; rfl)]
 rw [e1,e2,flat_app,List.flatMap_cons,List.flatMap_cons,List.flatMap_nil,List.append_nil]
 simp only [List.append_assoc]
theorem size3 (u : World) : (sizeOf 90).run Tryz.prog u = .ok 3 u := by
 obtain ⟨i,hi,hs⟩ := Option.map_eq_some_iff.1 sizeZ
 simp [sizeOf,typeInfo,hi,hs]
theorem Raw.shape {u : World} {g : Nat} {cs : List Value} (h : Raw u g cs) : u.shape? g = some (90,cs.length) := by
 unfold World.shape?
 rw [h]
 simp only [List.size_toArray]
def InsE (w : World) (v : Value) (M : List T) (i : Nat) (r : T) (e : Ending) (w' : World) : Prop := ∃ v',e = .returned v' ∧ Own w' 0 v' (M.take i ++ r :: M.drop i) ∧ (v'.ownBlock = v.ownBlock ∨ ∃ g,v'.ownBlock = some g ∧ w.heap.size ≤ g) ∧ UpdQ (fun b => v.ownBlock = some b) w w'
set_option maxHeartbeats 4000000 in
theorem insert_end (w : World) (ao : Option Addr) (n cap vb : Nat) (M : List T) (r : T) (h : Own w 0 (.slice ao n cap) M) (hs : ∀ x ∈ M,Short x) (hm : n ≤ 1000) (hv : w.heap[vb]? = some (block r)) :
  Calls Tryz.prog 114 #[.slice ao n cap,.int .i64 (n : Int),.slice (some ⟨vb,0,none⟩) 1 1] w (InsE w (.slice ao n cap) M n r) := by
 obtain ⟨ao',cap',e,l,_⟩ := own_ls h hs
 simp only [Value.slice.injEq] at e
 obtain ⟨rfl,hn,rfl⟩ := e
 have hcap := l.reach
 have hfit := l.fits
 rw [← hn] at l hfit
 obtain ⟨ao2,cap2,hsl,_⟩ := l.from n (Nat.le_refl _)
 have HO := Lib.hid h
 have HV := Lib.hid hv
 have HN := Lib.hid hn
 clear h hs hv l hn
 have hnn : ((n : Int) == (n : Int)) = true := beq_self_eq_true _
 go_enter Tryz.func114,Tryz.ntmps114
 go_wp2_with (at_builtin; go_must (refine wpList_append w rfl (.tmp 23) (.tmp 24) rfl 0 (.slice ao n cap) M rfl HO.out (some ⟨vb,0,none⟩) 1 1 [r] rfl rfl (fun z => by cases z) (seg_block HV.out) (by have := HN.out; omega) (Nat.zero_le _) ?_))
 intro v' w1 o1 gr1 at1
 have HI : Hid (InsE w (.slice ao n cap) M n r (.returned v') w1) := Lib.hid ⟨v',rfl,by rw [List.take_of_length_le (by have := HN.out; omega),List.drop_eq_nil_of_le (by have := HN.out; omega)]; exact o1,at1.imp id fun z => ⟨_,z,Nat.le_refl _⟩,UpdQ.grown gr1⟩
 clear o1 gr1 at1
 go_wp2_with fail
 go_ret
 exact HI.out
set_option maxHeartbeats 4000000 in
theorem insert_mid (w : World) (g n cap vb i : Nat) (M : List T) (r : T) (h : Own w 0 (.slice (some ⟨g,0,none⟩) n cap) M) (hv : w.heap[vb]? = some (block r)) (hne : vb ≠ g) (hi : i < n) (hroom : n + 1 ≤ cap) (hm : n ≤ 1000) :
  Calls Tryz.prog 114 #[.slice (some ⟨g,0,none⟩) n cap,.int .i64 (i : Int),.slice (some ⟨vb,0,none⟩) 1 1] w (InsE w (.slice (some ⟨g,0,none⟩) n cap) M i r) := by
 obtain ⟨cs,hR,hl,ht,hn,hnc,hcm,_⟩ := own_raw h
 have hs1 := slice_from g n cap i (n - i) (cap - i) (i : Int) rfl (by omega) (by omega) (by omega) (by omega) hcm
 have hs2 := slice_to g n cap (n + 1) ((n : Int) + 1) (by omega) (by omega) hcm
 have hs3 := slice_from g (n + 1) cap (i + 1) (n - i) (cap - (i + 1)) ((i : Int) + 1) (by omega) (by omega) (by omega) (by omega) (by omega) hcm
 have hs4 := slice_from g (n + 1) cap i (n + 1 - i) (cap - i) (i : Int) rfl (by omega) (by omega) (by omega) (by omega) hcm
 have hov : ∀ lb cb,(callFunc 140 #[.slice (some ⟨vb,0,none⟩) 1 1,.slice (some ⟨g,(i + 1) * 3,none⟩) lb cb]).run Tryz.prog w = .ok (.value (.bool false)) w := fun lb cb => by
  rw [run_callFunc_extern Tryz.func140 (by kernel_rfl) (by kernel_rfl) (by kernel_rfl) (e := Extern.SlicesOverlaps.overlaps #[74,74] #[4]) (by kernel_rfl),
   Lib.run_overlaps_apart w 74 4 90 Tryz.underlying74 3 size3 ⟨vb,0,none⟩ ⟨g,(i + 1) * 3,none⟩ 1 1 lb cb hne 90 90 3 cs.length (by unfold World.shape?; rw [hv]; rfl) hR.shape (by rw [hl]; omega) (frozen_of_row w vb 0 _ _ hv) (frozen_of_row w vb 3 _ _ hv)]
  rfl
 have hd : (M.drop i).length = n - i := by rw [List.length_drop,hn]
 have hl1 : (n + 1) * 3 ≤ cs.length := by omega
 obtain ⟨W1,hW1⟩ : ∃ W1,w.drew.setRow g (rcells ((M.take (i + 1)).flatMap rv ++ (M.drop i).flatMap rv ++ cs.drop ((n + 1) * 3))) = W1 := ⟨_,rfl⟩
 have hB1 : Raw W1 g ((M.take (i + 1)).flatMap rv ++ (M.drop i).flatMap rv ++ cs.drop ((n + 1) * 3)) := hW1 ▸ hR.drew.laid _
 have hcp1 : ∀ ty dc sc,(Builtin.copy_ #[74,74] ty #[.slice (some ⟨g,(i + 1) * 3,none⟩) (n - i) dc,.slice (some ⟨g,i * 3,none⟩) (n + 1 - i) sc]).run Tryz.prog w.drew = .ok (goInt (n - i : Nat)) W1 := fun ty dc sc => by
  have hcp := copy_raw w.drew g cs (i + 1) (n - i) dc g (i * 3) (n + 1 - i) sc (M.drop i) hR.drew (by rw [hd]; simp only [Nat.min_def]; split <;> omega) (by rw [hd]; omega) (fun k hk => by
   have hr := (own_at (own_drew h) (i + k) (by omega)).1
   rw [List.getElem_drop,show i * 3 + k * 3 = (i + k) * 3 by omega]
   exact hr) ty
  rw [laid_one hn ht hi hl1,hW1,hd] at hcp
  exact hcp
 have hvW : W1.heap[vb]? = some (block r) := by
  rw [← hW1,setRow_other w.drew g vb _ hne]
  exact hv
 obtain ⟨W2,hW2⟩ : ∃ W2,W1.setRow g (rcells ((M.take i ++ r :: M.drop i).flatMap rv ++ cs.drop ((n + 1) * 3))) = W2 := ⟨_,rfl⟩
 have hlen1 : ((M.take (i + 1)).flatMap rv ++ (M.drop i).flatMap rv ++ cs.drop ((n + 1) * 3)).length = cap * 3 := by
  rw [List.length_append,List.length_append,flat_len,flat_len,List.length_take,hd,List.length_drop,hl,Nat.min_eq_left (by omega)]
  omega
 have hcp2 : ∀ ty dc,(Builtin.copy_ #[74,74] ty #[.slice (some ⟨g,i * 3,none⟩) (n + 1 - i) dc,.slice (some ⟨vb,0,none⟩) 1 1]).run Tryz.prog W1 = .ok (goInt 1) W2 := fun ty dc => by
  have hsg := seg_block hvW
  have hcp := copy_raw W1 g _ i (n + 1 - i) dc vb 0 1 1 [r] hB1 (by simp only [Nat.min_def,List.length_singleton]; split <;> omega) (by rw [hlen1]; simp only [List.length_singleton]; omega) (by
   rcases hsg with e | ⟨b,off,e,hat⟩
   · cases e
   ·
    cases e
    exact hat) ty
  rw [laid_two hn hi,hW2] at hcp
  exact hcp
 have hlen2 : ((M.take i ++ r :: M.drop i).flatMap rv).length = (n + 1) * 3 := by
  rw [flat_len,List.length_append,List.length_cons,List.length_take,hd,Nat.min_eq_left (by omega)]
  omega
 have HI : Hid (InsE w (.slice (some ⟨g,0,none⟩) n cap) M i r (.returned (.slice (some ⟨g,0,none⟩) (n + 1) cap)) W2) := Lib.hid (by
  refine ⟨_,rfl,raw_own (cs := (M.take i ++ r :: M.drop i).flatMap rv ++ cs.drop ((n + 1) * 3)) ?_ ?_ ?_ ?_ hroom hcm (Nat.zero_le _),.inl rfl,?_⟩
  ·
   rw [← hW2]
   exact hB1.laid _
  ·
   rw [List.length_append,hlen2,List.length_drop,hl]
   omega
  · rw [List.take_left' hlen2]
  ·
   rw [List.length_append,List.length_cons,List.length_take,hd,Nat.min_eq_left (by omega)]
   omega
  ·
   rw [← hW2,← hW1]
   exact ((UpdQ.of (Below.refl _ _).drew).trans (UpdQ.row (Q := fun b => (Value.slice (some ⟨g,0,none⟩) n cap).ownBlock = some b) w.drew rfl _)).trans (UpdQ.row (Q := fun b => (Value.slice (some ⟨g,0,none⟩) n cap).ownBlock = some b) _ rfl _))
 have hin' : ((i : Int) == (n : Int)) = false := beq_eq_false_iff_ne.2 (by omega)
 have hcn : (n : Int) + 1 ≤ (cap : Int) := by omega
 have hi1 : (i : Int) + 1 ≤ (n : Int) := by omega
 clear h hv hR hl ht hn hW1 hW2 hB1 hd hvW hne hl1 hlen1 hlen2
 go_enter Tryz.func114,Tryz.ntmps114
 go_wp2_with (simp only [hov])
 go_region
 go_wp2_with fail
 go_ret
 exact HI.out
end Go.Proofs.YtlmjeackfepllaaGreatDoor.Fl
namespace Go.Proofs.YtlmjeackfepllaaGreatDoor.Fl
open Go.RowKit
open Mem Dk
theorem zero_cells (n : Nat) : (Builtin.zeroCells zeroV.cells n).toList = (List.replicate n zero).flatMap rv := by
 have h := congrArg Array.toList (made n)
 unfold zeros at h
 rw [List.toList_toArray] at h
 exact h
theorem grow_row (M : List T) (i a b : Nat) : ((M.take i).flatMap rv).toArray ++ Builtin.zeroCells zeroV.cells a ++ Builtin.zeroCells zeroV.cells b = ((M.take i).flatMap rv ++ (List.replicate (a + b) zero).flatMap rv).toArray := by
 apply Array.toList_inj.1
 rw [Array.toList_append,Array.toList_append,zero_cells,zero_cells,List.toList_toArray,List.toList_toArray,List.append_assoc,← flat_app,List.replicate_append_replicate]
theorem grow_one {M : List T} {r : T} {n i k : Nat} (hn : n = M.length) (hi : i < n) : rlaid ((M.take i).flatMap rv ++ (List.replicate (k + 1) zero).flatMap rv) [r] i = (M.take i).flatMap rv ++ rv r ++ (List.replicate k zero).flatMap rv := by
 unfold rlaid
 have h1 : ((M.take i).flatMap rv).length = i * 3 := by rw [flat_len,List.length_take,Nat.min_eq_left (by omega)]
 have e1 : ((M.take i).flatMap rv ++ (List.replicate (k + 1) zero).flatMap rv).take (i * 3) = (M.take i).flatMap rv := List.take_left' h1
 have e2 : ((M.take i).flatMap rv ++ (List.replicate (k + 1) zero).flatMap rv).drop ((i + [r].length) * 3) = (List.replicate k zero).flatMap rv := by
  rw [List.replicate_succ,List.flatMap_cons,← List.append_assoc,List.drop_left' (by rw [List.length_append,h1,rv_len,List.length_singleton]; omega)]
 rw [e1,e2,List.flatMap_cons,List.flatMap_nil,List.append_nil]
theorem grow_two {M : List T} {r : T} {n i k : Nat} (hn : n = M.length) (hi : i < n) : rlaid ((M.take i).flatMap rv ++ rv r ++ (List.replicate ((n - i) + k) zero).flatMap rv) (M.drop i) (i + 1) = (M.take i ++ r :: M.drop i).flatMap rv ++ (List.replicate k zero).flatMap rv := by
 unfold rlaid
 have h1 : ((M.take i).flatMap rv ++ rv r).length = (i + 1) * 3 := by rw [List.length_append,flat_len,List.length_take,rv_len,Nat.min_eq_left (by omega)]; omega
 have h2 : (M.drop i).length = n - i := by rw [List.length_drop,hn]
 have e1 : ((M.take i).flatMap rv ++ rv r ++ (List.replicate ((n - i) + k) zero).flatMap rv).take ((i + 1) * 3) = (M.take i).flatMap rv ++ rv r := List.take_left' h1
 have e2 : ((M.take i).flatMap rv ++ rv r ++ (List.replicate ((n - i) + k) zero).flatMap rv).drop ((i + 1 + (M.drop i).length) * 3) = (List.replicate k zero).flatMap rv := by
  rw [← List.replicate_append_replicate,flat_app,← List.append_assoc,List.drop_left' (by rw [List.length_append,h1,flat_len,List.length_replicate,h2]; omega)]
 rw [e1,e2,flat_app,List.flatMap_cons]
 simp only [List.append_assoc]
set_option maxHeartbeats 4000000 in
theorem insert_grow (w : World) (g n cap vb i : Nat) (M : List T) (r : T) (h : Own w 0 (.slice (some ⟨g,0,none⟩) n cap) M) (hv : w.heap[vb]? = some (block r)) (hi : i < n) (hroom : cap < n + 1) (hm : n ≤ 1000) :
  Calls Tryz.prog 114 #[.slice (some ⟨g,0,none⟩) n cap,.int .i64 (i : Int),.slice (some ⟨vb,0,none⟩) 1 1] w (InsE w (.slice (some ⟨g,0,none⟩) n cap) M i r) := by
 obtain ⟨cs,hR,hl,ht,hn,hnc,hcm,_⟩ := own_raw h
 have hgl : g < w.heap.size := (Array.getElem?_eq_some_iff.1 hR).1
 have hvl : vb < w.heap.size := (Array.getElem?_eq_some_iff.1 hv).1
 obtain ⟨i0,hi0,hz0,hz1,hz2⟩ := info_parts info
 obtain ⟨G,hG⟩ : ∃ G,grownCap w (n + 1) cap 90 = G := ⟨_,rfl⟩
 have hGn : n + 1 ≤ G := hG ▸ grownCap_ge w _ _ _
 have hG63 : G ≤ 9223372036854775807 := by
  have := grownCap_le_maxLen w (n + 1) cap 90 (by unfold maxLen; omega)
  rw [hG] at this
  unfold maxLen at this
  omega
 obtain ⟨W1,hW1⟩ : ∃ W1,w.drew.alloc (.cells ((M.take i).flatMap rv ++ (List.replicate ((n + 1 - i) + (G - (n + 1))) zero).flatMap rv).toArray 90) = W1 := ⟨_,rfl⟩
 have hold : (Builtin.firstCells i0.size i (.slice (some ⟨g,0,none⟩) i cap)).run Tryz.prog w.drew = .ok ((M.take i).flatMap rv).toArray w.drew := by
  rw [hz1]
  refine run_firstCells_some w.drew 3 i ⟨g,0,none⟩ i cap _ (by rw [flat_len,List.length_take,Nat.min_eq_left (by omega)]) (fun j v hj => ?_)
  have hrow : ∀ (k : Nat) (hk : k < (M.take i).length),At w.drew g (0 + k * 3) (M.take i)[k] := fun k hk => by
   rw [List.length_take] at hk
   have := (own_at (own_drew h) k (by omega)).1
   rw [List.getElem_take,Nat.zero_add]
   exact this
  exact news_of hrow j v hj
 have hik : i + (n + 1 - i) = n + 1 := by omega
 have hrz : ∀ ty,(Builtin.append_ #[74,3] ty #[.slice (some ⟨g,0,none⟩) i cap,.int .i64 ((n : Int) + 1 - (i : Int))]).run Tryz.prog w = .ok (.slice (some ⟨w.heap.size,0,none⟩) (n + 1) G) W1 := fun ty => by
  have hk := Lib.run_append_grow_zeros w 74 3 ty 90 i0 _ .i64 .i64 Tryz.underlying74 Tryz.underlying3 hi0 hz0 (some ⟨g,0,none⟩) i cap _ hold (n + 1 - i) (by omega) (by rw [hz1]; omega) (by omega) (by omega) (by rw [hz2]; omega) (by rw [hz2,hik]; exact growslice_fits hroom (by omega))
  rw [hik,hG,grow_row,hW1] at hk
  rw [show (n : Int) + 1 - (i : Int) = ((n + 1 - i : Nat) : Int) by omega]
  exact hk
 have hs0 := slice_to g n cap i (i : Int) rfl (by omega) hcm
 have hs1 := slice_from g n cap i (n - i) (cap - i) (i : Int) rfl (by omega) (by omega) (by omega) (by omega) hcm
 have hs2 := slice_from w.heap.size (n + 1) G i (n + 1 - i) (G - i) (i : Int) rfl (by omega) (by omega) (by omega) (by omega) hG63
 have hs3 := slice_from w.heap.size (n + 1) G (i + 1) (n - i) (G - (i + 1)) ((i : Int) + 1) (by omega) (by omega) (by omega) (by omega) (by omega) hG63
 have hR1 : Raw W1 w.heap.size ((M.take i).flatMap rv ++ (List.replicate ((G - i - 1) + 1) zero).flatMap rv) := by
  rw [← hW1,show (G - i - 1) + 1 = (n + 1 - i) + (G - (n + 1)) by omega]
  exact heap_alloc_new w.drew _
 have hb1 : Below w.heap.size w W1 := by
  rw [← hW1]
  exact (Below.refl _ _).drew.alloc (Nat.le_refl _) _
 have hd : (M.drop i).length = n - i := by rw [List.length_drop,hn]
 have hlen1 : ((M.take i).flatMap rv ++ (List.replicate ((G - i - 1) + 1) zero).flatMap rv).length = G * 3 := by
  rw [List.length_append,flat_len,flat_len,List.length_take,List.length_replicate,Nat.min_eq_left (by omega)]
  omega
 obtain ⟨W2,hW2⟩ : ∃ W2,W1.setRow w.heap.size (rcells ((M.take i).flatMap rv ++ rv r ++ (List.replicate (G - i - 1) zero).flatMap rv)) = W2 := ⟨_,rfl⟩
 have hcp1 : ∀ ty dc,(Builtin.copy_ #[74,74] ty #[.slice (some ⟨w.heap.size,i * 3,none⟩) (n + 1 - i) dc,.slice (some ⟨vb,0,none⟩) 1 1]).run Tryz.prog W1 = .ok (goInt 1) W2 := fun ty dc => by
  have hsg := seg_block ((hb1.block vb hvl).trans hv)
  have hcp := copy_raw W1 w.heap.size _ i (n + 1 - i) dc vb 0 1 1 [r] hR1 (by simp only [Nat.min_def,List.length_singleton]; split <;> omega) (by rw [hlen1]; simp only [List.length_singleton]; omega) (by
   rcases hsg with e | ⟨b,off,e,hat⟩
   · cases e
   ·
    cases e
    exact hat) ty
  rw [grow_one hn hi,hW2] at hcp
  exact hcp
 have hR2 : Raw W2 w.heap.size ((M.take i).flatMap rv ++ rv r ++ (List.replicate ((n - i) + (G - (n + 1))) zero).flatMap rv) := by
  rw [← hW2,show (n - i) + (G - (n + 1)) = G - i - 1 by omega]
  exact hR1.laid _
 have hlen2 : ((M.take i).flatMap rv ++ rv r ++ (List.replicate ((n - i) + (G - (n + 1))) zero).flatMap rv).length = G * 3 := by
  rw [List.length_append,List.length_append,flat_len,flat_len,List.length_take,List.length_replicate,rv_len,Nat.min_eq_left (by omega)]
  omega
 have hb2 : Below w.heap.size w W2 := by
  rw [← hW2]
  exact below_setRow hb1 (Nat.le_refl _) _
 obtain ⟨W3,hW3⟩ : ∃ W3,W2.drew.setRow w.heap.size (rcells ((M.take i ++ r :: M.drop i).flatMap rv ++ (List.replicate (G - (n + 1)) zero).flatMap rv)) = W3 := ⟨_,rfl⟩
 have hcp2 : ∀ ty dc sc,(Builtin.copy_ #[74,74] ty #[.slice (some ⟨w.heap.size,(i + 1) * 3,none⟩) (n - i) dc,.slice (some ⟨g,i * 3,none⟩) (n - i) sc]).run Tryz.prog W2.drew = .ok (goInt (n - i : Nat)) W3 := fun ty dc sc => by
  have hO2 := own_drew (own_below h hb2)
  have hcp := copy_raw W2.drew w.heap.size _ (i + 1) (n - i) dc g (i * 3) (n - i) sc (M.drop i) hR2.drew (by rw [hd]; simp only [Nat.min_def]; split <;> omega) (by rw [hd,hlen2]; omega) (fun k hk => by
   have hr := (own_at hO2 (i + k) (by omega)).1
   rw [List.getElem_drop,show i * 3 + k * 3 = (i + k) * 3 by omega]
   exact hr) ty
  rw [grow_two hn hi,hW3,hd] at hcp
  exact hcp
 have hlen3 : ((M.take i ++ r :: M.drop i).flatMap rv).length = (n + 1) * 3 := by
  rw [flat_len,List.length_append,List.length_cons,List.length_take,hd,Nat.min_eq_left (by omega)]
  omega
 have HI : Hid (InsE w (.slice (some ⟨g,0,none⟩) n cap) M i r (.returned (.slice (some ⟨w.heap.size,0,none⟩) (n + 1) G)) W3) := Lib.hid (by
  refine ⟨_,rfl,raw_own (cs := (M.take i ++ r :: M.drop i).flatMap rv ++ (List.replicate (G - (n + 1)) zero).flatMap rv) ?_ ?_ ?_ ?_ hGn hG63 (Nat.zero_le _),.inr ⟨_,rfl,Nat.le_refl _⟩,UpdQ.of ?_⟩
  ·
   rw [← hW3]
   exact hR2.drew.laid _
  ·
   rw [List.length_append,hlen3,flat_len,List.length_replicate]
   omega
  · rw [List.take_left' hlen3]
  ·
   rw [List.length_append,List.length_cons,List.length_take,hd,Nat.min_eq_left (by omega)]
   omega
  ·
   rw [← hW3]
   exact below_setRow hb2.drew (Nat.le_refl _) _)
 have hin' : ((i : Int) == (n : Int)) = false := beq_eq_false_iff_ne.2 (by omega)
 have hcn : (cap : Int) < (n : Int) + 1 := by omega
 have hi1 : (i : Int) + 1 ≤ (n : Int) := by omega
 have hw1 : IntKind.i64.wrap ((i : Int) + 1) = (i : Int) + 1 := by rw [IntKind.wrap_i64]; omega
 clear h hv hR hl ht hn hW1 hW2 hW3 hR1 hR2 hb1 hb2 hd hlen1 hlen2 hlen3 hold hG hi0 hz0 hz1 hz2 hgl hvl
 go_enter Tryz.func114,Tryz.ntmps114
 go_wp2_with (at_builtin; refine Lib.wpList_append_run _ rfl _ _ _ _ rfl _ _ rfl rfl _ _ (hrz _) ?_)
 go_region
 go_wp2_with fail
 go_ret
 exact HI.out
theorem insert_any (w : World) (ao : Option Addr) (n cap vb i : Nat) (M : List T) (r : T) (h : Own w 0 (.slice ao n cap) M) (hs : ∀ x ∈ M,Short x) (hv : w.heap[vb]? = some (block r)) (hne : ∀ b,(Value.slice ao n cap).ownBlock = some b → vb ≠ b) (hi : i ≤ n) (hm : n ≤ 1000) :
  Calls Tryz.prog 114 #[.slice ao n cap,.int .i64 (i : Int),.slice (some ⟨vb,0,none⟩) 1 1] w (InsE w (.slice ao n cap) M i r) := by
 by_cases e : i = n
 ·
  subst e
  exact insert_end w ao i cap vb M r h hs hm hv
 ·
  rcases h.2 with ⟨h1,h2⟩ | ⟨g,cap',cur,h1,_⟩
  ·
   simp only [Value.slice.injEq] at h1
   omega
  ·
   simp only [Value.slice.injEq] at h1
   obtain ⟨rfl,_,rfl⟩ := h1
   by_cases hr : n + 1 ≤ cap
   · exact insert_mid w g n cap vb i M r h hv (hne g rfl) (by omega) hr hm
   · exact insert_grow w g n cap vb i M r h hv (by omega) (by omega) hm
end Go.Proofs.YtlmjeackfepllaaGreatDoor.Fl
namespace Go.Proofs.YtlmjeackfepllaaGreatDoor
open Go.RowKit
open Mem Dk
theorem step_append_run {P : Program} {ops : Array Oper} {o : Oper} {a : Act} {w : World} {K : Act → World → Prop} {Q : Exit → Act → World → Prop} {E : Prop}
  (hg : o.guard = none) (s x : Operand) (t t' : TypeId) (hop : o.op = Op.call { callee := Callee.builtin Builtin.append,args := #[s,x],argTypes := #[t,t'] })
  (vs vx : Value) (hs : a.eval s = vs) (hx : a.eval x = vx) (v : Value) (W : World) (hrun : (Builtin.append_ #[t,t'] o.type #[vs,vx]).run P w = .ok v W)
  (hK : K (a.put o.dst v) W) : if Region.wanted o (yielded ops a.tmps) = true then Oper.wp P o a w K Q else E := by
 have hw : Region.wanted o (yielded ops a.tmps) = true := by simp [Region.wanted,hg]
 rw [if_pos hw]
 unfold Oper.wp
 simp [execOp,hop,resolve,invoke,builtin,hs,hx,hrun,Result.andThen]
 exact hK
namespace Fl
theorem rlaid_len {cs : List Value} {rs : List T} {o : Nat} (h : (o + rs.length) * 3 ≤ cs.length) : (rlaid cs rs o).length = cs.length := by
 unfold rlaid
 rw [List.length_append,List.length_append,List.length_take,List.length_drop,flat_len,Nat.min_eq_left (by omega)]
 omega
theorem rlaid_take {cs : List Value} {rs : List T} {o : Nat} (h : o * 3 ≤ cs.length) : (rlaid cs rs o).take (o * 3) = cs.take (o * 3) := by
 unfold rlaid
 rw [List.append_assoc,List.take_left' (by rw [List.length_take]; omega)]
theorem slice_any (g n c k l c' : Nat) (x : Int) (hx : x = (k : Int)) (hk : k + l = n) (hc : k + c' = c) (hn : n ≤ c) (h63 : c ≤ 9223372036854775807) :
  ∃ A : Addr,(∀ u,(Instr.slice 74 (.slice (some ⟨g,0,none⟩) n c) (some (.int .i64 x)) none none).run Tryz.prog u = .ok (.slice (some A) l c') u) ∧ (0 < c' → A = ⟨g,k * 3,none⟩) := by
 by_cases h : 0 < c'
 · exact ⟨_,fun u => slice_from g n c k l c' x hx hk hc h hn h63 u,fun _ => rfl⟩
 ·
  refine ⟨⟨g,0,none⟩,fun u => ?_,fun z => absurd z h⟩
  subst hx
  rw [run_slice_l u 74 (some ⟨g,0,none⟩) n c und .i64 k (by omega) (by omega),size]
  have e1 : n - k = l := by omega
  have e2 : c - k = c' := by omega
  have e3 : c = k := by omega
  have e4 : k - k = c' := by omega
  simp [Result.andThen,sliced,e1,e3,← e4]
theorem append_raw (u : World) (g i cap : Nat) (cs : List Value) (A : Addr) (m c : Nat) (rs : List T) (hb : Raw u g cs) (hm : rs.length = m) (hroom : i + m ≤ cap) (hl : cs.length = cap * 3) (hA : ∀ j x,(rs.flatMap rv)[j]? = some x → u.cell? (A.add j) = some x) (ty : TypeId) :
  (Builtin.append_ #[74,74] ty #[.slice (some ⟨g,0,none⟩) i cap,.slice (some A) m c]).run Tryz.prog u = .ok (.slice (some ⟨g,0,none⟩) (i + m) cap) (u.setRow g (rcells (rlaid cs rs i))) := by
 obtain ⟨i0,hi0,hz0,hz1,hz2⟩ := info_parts info
 have hfl : (rs.flatMap rv).length = m * i0.size := by rw [flat_len,hm,hz1]
 have hfc := run_firstCells_some (P := Tryz.prog) u i0.size m A m c (rs.flatMap rv) hfl hA
 have hst := run_storeCells_at Tryz.prog g (0 + i * i0.size) 90 (rs.flatMap rv) 0 _ u hb (by rw [List.size_toArray,flat_len,hz1,hm]; omega) (one_cell rs)
 have e : (cs.toArray.toList.take (0 + i * i0.size + 0) ++ rs.flatMap rv ++ cs.toArray.toList.drop (0 + i * i0.size + 0 + (rs.flatMap rv).length)) = rlaid cs rs i := by
  rw [List.toList_toArray,flat_len,hz1,Nat.add_zero,Nat.zero_add,show i * 3 + rs.length * 3 = (i + rs.length) * 3 by omega]
  rfl
 rw [e,Nat.zero_add] at hst
 unfold rcells
 simp [Builtin.append_,run_underlying Tryz.underlying74,sizeOf,typeInfo,hi0,Builtin.lenOf,hroom,hfc,Addr.add_lit,hst]
theorem clear_raw (u : World) (g k c : Nat) (cs : List Value) (hb : Raw u g cs) (hl : (k + 1) * 3 ≤ cs.length) (ty : TypeId) :
  (Builtin.clear_ #[74] ty #[.slice (some ⟨g,k * 3,none⟩) 1 c]).run Tryz.prog u = .ok (.tuple #[]) (u.setRow g (rcells (rlaid cs [zero] k))) := by
 have hst := run_storeCells_at Tryz.prog g (k * 3) 90 ((List.replicate 1 zero).flatMap rv) 0 _ u hb (by rw [List.size_toArray,flat_len,List.length_replicate]; omega) (one_cell _)
 have e : (cs.toArray.toList.take (k * 3 + 0) ++ (List.replicate 1 zero).flatMap rv ++ cs.toArray.toList.drop (k * 3 + 0 + ((List.replicate 1 zero).flatMap rv).length)) = rlaid cs [zero] k := by
  rw [List.toList_toArray,flat_len,Nat.add_zero,List.length_replicate,show k * 3 + 1 * 3 = (k + 1) * 3 by omega]
  rfl
 rw [e] at hst
 have hz : ∀ u,(zeroValue 90).run Tryz.prog u = .ok zeroV u := Tryz.zeroValue90
 unfold rcells
 simp only [Builtin.clear_,Sem.run_bind,Sem.run_pure,run_underlying Tryz.underlying74,Result.andThen_ok,List.getElem?_toArray,List.getElem?_cons_zero,hz,zero_cells,hst]
def DelE (w : World) (v : Value) (M : List T) (i : Nat) (e : Ending) (w' : World) : Prop := ∃ v',e = .returned v' ∧ Own w' 0 v' (M.take i ++ M.drop (i + 1)) ∧ v'.ownBlock = v.ownBlock ∧ UpdQ (fun b => v.ownBlock = some b) w w'
set_option maxHeartbeats 4000000 in
theorem delete_one (w : World) (ao : Option Addr) (n cap i : Nat) (M : List T) (h : Own w 0 (.slice ao n cap) M) (hi : i < n) (hm : n ≤ 1000) :
  Calls Tryz.prog 122 #[.slice ao n cap,.int .i64 (i : Int),.int .i64 ((i : Int) + 1)] w (DelE w (.slice ao n cap) M i) := by
 obtain ⟨g,rfl⟩ : ∃ g,ao = some ⟨g,0,none⟩ := by
  rcases h.2 with ⟨h1,h2⟩ | ⟨g,cap',cur,h1,_⟩
  ·
   simp only [Value.slice.injEq] at h1
   omega
  ·
   simp only [Value.slice.injEq] at h1
   exact ⟨g,h1.1⟩
 obtain ⟨cs,hR,hl,ht,hn,hnc,hcm,_⟩ := own_raw h
 have hs0 : ∀ u,(Instr.slice 74 (.slice (some ⟨g,0,none⟩) n cap) (some (.int .i64 (i : Int))) (some (.int .i64 ((i : Int) + 1))) (some (.int .i64 (n : Int)))).run Tryz.prog u = .ok (.slice (some ⟨g,i * 3,none⟩) 1 (n - i)) u := fun u => by
  rw [run_slice_lhm u 74 (some ⟨g,0,none⟩) n cap und .i64 .i64 .i64 i ((i : Int) + 1) n (by omega) (by omega) (by omega) (by omega),size]
  have e1 : ((i : Int) + 1).toNat = i + 1 := by omega
  have e3 : ¬ n = i := by omega
  simp [Result.andThen,sliced,e1,e3,Addr.add]
  intro z
  exact z.symm
 have hs1 := slice_to g n cap i (i : Int) rfl (by omega) hcm
 obtain ⟨A,hs2,hA⟩ := slice_any g n cap (i + 1) (n - (i + 1)) (cap - (i + 1)) ((i : Int) + 1) (by omega) (by omega) (by omega) (by omega) hcm
 have hd : (M.drop (i + 1)).length = n - (i + 1) := by rw [List.length_drop,hn]
 obtain ⟨W1,hW1⟩ : ∃ W1,w.drew.setRow g (rcells (rlaid cs (M.drop (i + 1)) i)) = W1 := ⟨_,rfl⟩
 have hnn : i + (n - (i + 1)) = n - 1 := by omega
 have hap : ∀ ty,(Builtin.append_ #[74,74] ty #[.slice (some ⟨g,0,none⟩) i cap,.slice (some A) (n - (i + 1)) (cap - (i + 1))]).run Tryz.prog w.drew = .ok (.slice (some ⟨g,0,none⟩) (n - 1) cap) W1 := fun ty => by
  have := append_raw w.drew g i cap cs A (n - (i + 1)) (cap - (i + 1)) (M.drop (i + 1)) hR.drew hd (by omega) hl (fun j x hx => by
   have hj : j < (M.drop (i + 1)).length * 3 := by
    have := (List.getElem?_eq_some_iff.1 hx).1
    rwa [flat_len] at this
   rw [hA (by omega)]
   refine news_of (off := (i + 1) * 3) (fun k hk => ?_) j x hx
   have hr := (own_at (own_drew h) (i + 1 + k) (by omega)).1
   rw [List.getElem_drop,show (i + 1) * 3 + k * 3 = (i + 1 + k) * 3 by omega]
   exact hr) ty
  rw [hnn,hW1] at this
  exact this
 have hlen1 : (rlaid cs (M.drop (i + 1)) i).length = cap * 3 := by rw [rlaid_len (by rw [hd]; omega),hl]
 have hR1 : Raw W1 g (rlaid cs (M.drop (i + 1)) i) := hW1 ▸ hR.drew.laid _
 have hs3 : ∀ u,(Instr.slice 74 (.slice (some ⟨g,0,none⟩) (n - 1) cap) (some (.int .i64 ((n - 1 : Nat) : Int))) (some (.int .i64 (n : Int))) none).run Tryz.prog u = .ok (.slice (some ⟨g,(n - 1) * 3,none⟩) 1 (cap - (n - 1))) u := fun u => by
  rw [run_slice_lh u 74 (some ⟨g,0,none⟩) (n - 1) cap und .i64 .i64 ((n - 1 : Nat) : Int) n (by omega) (by omega) (by omega),size]
  have e1 : ((n - 1 : Nat) : Int).toNat = n - 1 := by omega
  have e2 : n - (n - 1) = 1 := by omega
  have e3 : ¬ cap = n - 1 := by omega
  simp [Result.andThen,sliced,e1,e2,e3,Addr.add]
  intro z
  exact z.symm
 obtain ⟨W2,hW2⟩ : ∃ W2,W1.setRow g (rcells (rlaid (rlaid cs (M.drop (i + 1)) i) [zero] (n - 1))) = W2 := ⟨_,rfl⟩
 have hcl : ∀ ty c,(Builtin.clear_ #[74] ty #[.slice (some ⟨g,(n - 1) * 3,none⟩) 1 c]).run Tryz.prog W1 = .ok (.tuple #[]) W2 := fun ty c => hW2 ▸ clear_raw W1 g (n - 1) c _ hR1 (by rw [hlen1]; omega) ty
 have HI : Hid (DelE w (.slice (some ⟨g,0,none⟩) n cap) M i (.returned (.slice (some ⟨g,0,none⟩) (n - 1) cap)) W2) := Lib.hid (by
  refine ⟨_,rfl,raw_own (cs := rlaid (rlaid cs (M.drop (i + 1)) i) [zero] (n - 1)) ?_ ?_ ?_ ?_ (by omega) hcm (Nat.zero_le _),rfl,?_⟩
  ·
   rw [← hW2]
   exact hR1.laid _
  · rw [rlaid_len (by rw [hlen1,List.length_singleton]; omega),hlen1]
  ·
   rw [rlaid_take (by rw [hlen1]; omega)]
   unfold rlaid
   rw [flat_app,← flat_take,← ht,List.take_take,Nat.min_eq_left (by omega),List.take_left' (by rw [List.length_append,List.length_take,flat_len,hd,Nat.min_eq_left (by omega)]; omega)]
  ·
   rw [List.length_append,List.length_take,hd,Nat.min_eq_left (by omega)]
   omega
  ·
   rw [← hW2,← hW1]
   exact ((UpdQ.of (Below.refl _ _).drew).trans (UpdQ.row (Q := fun b => (Value.slice (some ⟨g,0,none⟩) n cap).ownBlock = some b) w.drew rfl _)).trans (UpdQ.row (Q := fun b => (Value.slice (some ⟨g,0,none⟩) n cap).ownBlock = some b) _ rfl _))
 have hin' : ((i : Int) == (i : Int) + 1) = false := beq_eq_false_iff_ne.2 (by omega)
 clear h hR hl ht hn hW1 hW2 hR1 hd hlen1 hnn hA
 go_enter Tryz.func122,Tryz.ntmps122
 go_wp2_with fail
 go_region_law (refine step_append_run rfl (.tmp 22) (.tmp 25) 74 74 rfl _ _ (by simp [Act.eval,Act.put]) (by simp [Act.eval,Act.put]) _ _ (hap _) ?_)
 go_wp2_with fail
 go_ret
 exact HI.out
end Fl
end Go.Proofs.YtlmjeackfepllaaGreatDoor
namespace Go.Proofs.YtlmjeackfepllaaGreatDoor.Et
open Go.RowKit
open Mem
theorem slice_from (g n c k l c' : Nat) (x : Int) (hx : x = (k : Int)) (hk : k + l = n) (hc : k + c' = c) (hl : 0 < c') (hn : n ≤ c) (h63 : c ≤ 9223372036854775807) (u : World) :
  (Instr.slice 28 (.slice (some ⟨g,0,none⟩) n c) (some (.int .i64 x)) none none).run Tryz.prog u = .ok (.slice (some ⟨g,k * 3,none⟩) l c') u := by
 subst hx
 rw [run_slice_l u 28 (some ⟨g,0,none⟩) n c und .i64 k (by omega) (by omega),size]
 have e1 : n - k = l := by omega
 have e2 : c - k = c' := by omega
 have e3 : ¬ c = k := by omega
 simp [Result.andThen,sliced,e1,e2,e3,Addr.add]
 intro h
 exact h.symm
theorem slice_to (g n c k : Nat) (x : Int) (hx : x = (k : Int)) (hk : k ≤ c) (h63 : c ≤ 9223372036854775807) (u : World) :
  (Instr.slice 28 (.slice (some ⟨g,0,none⟩) n c) none (some (.int .i64 x)) none).run Tryz.prog u = .ok (.slice (some ⟨g,0,none⟩) k c) u := by
 subst hx
 rw [run_slice_h u 28 (some ⟨g,0,none⟩) n c und .i64 k (by omega) (by omega),size]
 simp [Result.andThen,sliced,Addr.add]
def Raw (w : World) (g : Nat) (cs : List Value) : Prop := w.heap[g]? = some (.cells cs.toArray 36 (0,0))
def rlaid (cs : List Value) (rs : List T) (o : Nat) : List Value := cs.take (o * 3) ++ rs.flatMap rv ++ cs.drop ((o + rs.length) * 3)
def rcells (cs : List Value) : Array Value := cs.toArray
theorem Raw.laid {u : World} {g : Nat} {cs : List Value} (h : Raw u g cs) (ds : List Value) : Raw (u.setRow g (rcells ds)) g ds := setRow_heap u g _ _ 36 _ h
theorem Raw.drew {u : World} {g : Nat} {cs : List Value} (h : Raw u g cs) : Raw u.drew g cs := h
theorem flat_take : ∀ (M : List T) (o : Nat),(M.flatMap rv).take (o * 3) = (M.take o).flatMap rv
 | [],o => by simp
 | a :: l,0 => by simp
 | a :: l,o + 1 => by
  rw [List.flatMap_cons,List.take_succ_cons,List.flatMap_cons,show (o + 1) * 3 = (rv a).length + o * 3 by rw [rv_len]; omega,List.take_length_add_append,flat_take l o]
theorem own_raw {w : World} {B g n cap : Nat} {M : List T} (h : Own w B (.slice (some ⟨g,0,none⟩) n cap) M) : ∃ cs,Raw w g cs ∧ cs.length = cap * 3 ∧ cs.take (n * 3) = M.flatMap rv ∧ n = M.length ∧ n ≤ cap ∧ cap ≤ 9223372036854775807 ∧ B ≤ g := by
 rcases h.2 with ⟨h',_⟩ | ⟨g',cap',cur,h',hb,hg,hnc,hcm,hcs,htake⟩
 · cases h'
 ·
  simp only [Value.slice.injEq,Option.some.injEq,Addr.mk.injEq,and_true] at h'
  obtain ⟨e1,e2,e3⟩ := h'
  subst e1 e3
  refine ⟨cur.toList,?_,by rw [Array.length_toList,hcs],by rw [e2]; exact htake,e2,by rw [e2]; exact hnc,hcm,hb⟩
  unfold Raw
  rw [Array.toArray_toList]
  exact hg
theorem raw_own {w : World} {B g n cap : Nat} {M : List T} {cs : List Value} (h : Raw w g cs) (hl : cs.length = cap * 3) (ht : cs.take (n * 3) = M.flatMap rv) (hn : n = M.length) (hc : n ≤ cap) (hm : cap ≤ 9223372036854775807) (hB : B ≤ g) : Own w B (.slice (some ⟨g,0,none⟩) n cap) M := by
 subst hn
 exact ⟨by rw [flat_len],.inr ⟨g,cap,cs.toArray,rfl,hB,h,hc,by have : maxLen = 9223372036854775807 := rfl; omega,by rw [List.size_toArray,hl],by rw [List.toList_toArray]; exact ht⟩⟩
theorem flat_app (M N : List T) : (M ++ N).flatMap rv = M.flatMap rv ++ N.flatMap rv := List.flatMap_append
theorem zero_cells (n : Nat) : (Builtin.zeroCells zeroV.cells n).toList = (List.replicate n zero).flatMap rv := by
 have h := congrArg Array.toList (made n)
 unfold zeros at h
 rw [List.toList_toArray] at h
 exact h
theorem rlaid_len {cs : List Value} {rs : List T} {o : Nat} (h : (o + rs.length) * 3 ≤ cs.length) : (rlaid cs rs o).length = cs.length := by
 unfold rlaid
 rw [List.length_append,List.length_append,List.length_take,List.length_drop,flat_len,Nat.min_eq_left (by omega)]
 omega
theorem rlaid_take {cs : List Value} {rs : List T} {o : Nat} (h : o * 3 ≤ cs.length) : (rlaid cs rs o).take (o * 3) = cs.take (o * 3) := by
 unfold rlaid
 rw [List.append_assoc,List.take_left' (by rw [List.length_take]; omega)]
theorem slice_any (g n c k l c' : Nat) (x : Int) (hx : x = (k : Int)) (hk : k + l = n) (hc : k + c' = c) (hn : n ≤ c) (h63 : c ≤ 9223372036854775807) :
  ∃ A : Addr,(∀ u,(Instr.slice 28 (.slice (some ⟨g,0,none⟩) n c) (some (.int .i64 x)) none none).run Tryz.prog u = .ok (.slice (some A) l c') u) ∧ (0 < c' → A = ⟨g,k * 3,none⟩) := by
 by_cases h : 0 < c'
 · exact ⟨_,fun u => slice_from g n c k l c' x hx hk hc h hn h63 u,fun _ => rfl⟩
 ·
  refine ⟨⟨g,0,none⟩,fun u => ?_,fun z => absurd z h⟩
  subst hx
  rw [run_slice_l u 28 (some ⟨g,0,none⟩) n c und .i64 k (by omega) (by omega),size]
  have e1 : n - k = l := by omega
  have e2 : c - k = c' := by omega
  have e3 : c = k := by omega
  have e4 : k - k = c' := by omega
  simp [Result.andThen,sliced,e1,e3,← e4]
theorem append_raw (u : World) (g i cap : Nat) (cs : List Value) (A : Addr) (m c : Nat) (rs : List T) (hb : Raw u g cs) (hm : rs.length = m) (hroom : i + m ≤ cap) (hl : cs.length = cap * 3) (hA : ∀ j x,(rs.flatMap rv)[j]? = some x → u.cell? (A.add j) = some x) (ty : TypeId) :
  (Builtin.append_ #[28,28] ty #[.slice (some ⟨g,0,none⟩) i cap,.slice (some A) m c]).run Tryz.prog u = .ok (.slice (some ⟨g,0,none⟩) (i + m) cap) (u.setRow g (rcells (rlaid cs rs i))) := by
 obtain ⟨i0,hi0,hz0,hz1,hz2⟩ := info_parts info
 have hfl : (rs.flatMap rv).length = m * i0.size := by rw [flat_len,hm,hz1]
 have hfc := run_firstCells_some (P := Tryz.prog) u i0.size m A m c (rs.flatMap rv) hfl hA
 have hst := run_storeCells_at Tryz.prog g (0 + i * i0.size) 36 (rs.flatMap rv) 0 _ u hb (by rw [List.size_toArray,flat_len,hz1,hm]; omega) (one_cell rs)
 have e : (cs.toArray.toList.take (0 + i * i0.size + 0) ++ rs.flatMap rv ++ cs.toArray.toList.drop (0 + i * i0.size + 0 + (rs.flatMap rv).length)) = rlaid cs rs i := by
  rw [List.toList_toArray,flat_len,hz1,Nat.add_zero,Nat.zero_add,show i * 3 + rs.length * 3 = (i + rs.length) * 3 by omega]
  rfl
 rw [e,Nat.zero_add] at hst
 unfold rcells
 simp [Builtin.append_,run_underlying Tryz.underlying28,sizeOf,typeInfo,hi0,Builtin.lenOf,hroom,hfc,Addr.add_lit,hst]
theorem clear_raw (u : World) (g k m c : Nat) (cs : List Value) (hb : Raw u g cs) (hl : (k + m) * 3 ≤ cs.length) (h0 : 0 < m) (ty : TypeId) :
  (Builtin.clear_ #[28] ty #[.slice (some ⟨g,k * 3,none⟩) m c]).run Tryz.prog u = .ok (.tuple #[]) (u.setRow g (rcells (rlaid cs (List.replicate m zero) k))) := by
 have hst := run_storeCells_at Tryz.prog g (k * 3) 36 ((List.replicate m zero).flatMap rv) 0 _ u hb (by rw [List.size_toArray,flat_len,List.length_replicate]; omega) (one_cell _)
 have e : (cs.toArray.toList.take (k * 3 + 0) ++ (List.replicate m zero).flatMap rv ++ cs.toArray.toList.drop (k * 3 + 0 + ((List.replicate m zero).flatMap rv).length)) = rlaid cs (List.replicate m zero) k := by
  rw [List.toList_toArray,flat_len,Nat.add_zero,List.length_replicate]
  unfold rlaid
  rw [List.length_replicate,show k * 3 + m * 3 = (k + m) * 3 by omega]
 rw [e] at hst
 have hz : ∀ u,(zeroValue 36).run Tryz.prog u = .ok zeroV u := Tryz.zeroValue36
 unfold rcells
 obtain ⟨q,rfl⟩ : ∃ q,m = q + 1 := ⟨m - 1,by omega⟩
 simp only [Builtin.clear_,Sem.run_bind,Sem.run_pure,run_underlying Tryz.underlying28,Result.andThen_ok,List.getElem?_toArray,List.getElem?_cons_zero,hz,zero_cells,hst]
def CutE (w : World) (v : Value) (M : List T) (i : Nat) (e : Ending) (w' : World) : Prop := ∃ v',e = .returned v' ∧ Own w' 0 v' (M.take i) ∧ v'.ownBlock = v.ownBlock ∧ UpdQ (fun b => v.ownBlock = some b) w w'
set_option maxHeartbeats 4000000 in
theorem delete_tail (w : World) (ao : Option Addr) (n cap i : Nat) (M : List T) (h : Own w 0 (.slice ao n cap) M) (hi : i ≤ n) (hm : n ≤ 1000) :
  Calls Tryz.prog 187 #[.slice ao n cap,.int .i64 (i : Int),.int .i64 (n : Int)] w (CutE w (.slice ao n cap) M i) := by
 have hlen : n = M.length := by
  rcases h.2 with ⟨h1,h2⟩ | ⟨g,cap',cur,h1,_⟩
  ·
   simp only [Value.slice.injEq] at h1
   omega
  ·
   simp only [Value.slice.injEq] at h1
   exact h1.2.1
 have hnc' : n ≤ cap ∧ cap ≤ 9223372036854775807 := by
  rcases h.2 with ⟨h1,h2⟩ | ⟨g,cap',cur,h1,_,_,h3,h4,_⟩
  ·
   simp only [Value.slice.injEq] at h1
   omega
  ·
   simp only [Value.slice.injEq] at h1
   have : maxLen = 9223372036854775807 := rfl
   omega
 by_cases he : i = n
 ·
  subst he
  have hs0 : ∀ u,(Instr.slice 28 (.slice ao i cap) (some (.int .i64 (i : Int))) (some (.int .i64 (i : Int))) (some (.int .i64 (i : Int)))).run Tryz.prog u = .ok (.slice ao 0 0) u := fun u => by
   rw [run_slice_lhm u 28 ao i cap und .i64 .i64 .i64 i i i (by omega) (by omega) (by omega) (by omega),size]
   simp [Result.andThen,sliced]
  have HI : Hid (CutE w (.slice ao i cap) M i (.returned (.slice ao i cap)) w) := Lib.hid ⟨_,rfl,by rw [List.take_of_length_le (by omega)]; exact h,rfl,UpdQ.refl _ _⟩
  have hb : ((i : Int) == (i : Int)) = true := beq_self_eq_true _
  clear h hlen hi
  go_enter Tryz.func187,Tryz.ntmps187
  go_wp2
  go_ret
  exact HI.out
 obtain ⟨g,rfl⟩ : ∃ g,ao = some ⟨g,0,none⟩ := by
  rcases h.2 with ⟨h1,h2⟩ | ⟨g,cap',cur,h1,_⟩
  ·
   simp only [Value.slice.injEq] at h1
   omega
  ·
   simp only [Value.slice.injEq] at h1
   exact ⟨g,h1.1⟩
 obtain ⟨cs,hR,hl,ht,hn,hnc,hcm,_⟩ := own_raw h
 have hs0 : ∀ u,(Instr.slice 28 (.slice (some ⟨g,0,none⟩) n cap) (some (.int .i64 (i : Int))) (some (.int .i64 (n : Int))) (some (.int .i64 (n : Int)))).run Tryz.prog u = .ok (.slice (some ⟨g,i * 3,none⟩) (n - i) (n - i)) u := fun u => by
  rw [run_slice_lhm u 28 (some ⟨g,0,none⟩) n cap und .i64 .i64 .i64 i n n (by omega) (by omega) (by omega) (by omega),size]
  have e3 : ¬ n = i := by omega
  simp [Result.andThen,sliced,e3,Addr.add]
  intro z
  exact z.symm
 have hs1 := slice_to g n cap i (i : Int) rfl (by omega) hcm
 obtain ⟨A,hs2,hA⟩ := slice_any g n cap n 0 (cap - n) (n : Int) rfl (by omega) (by omega) (by omega) hcm
 obtain ⟨W1,hW1⟩ : ∃ W1,w.drew.setRow g (rcells (rlaid cs [] i)) = W1 := ⟨_,rfl⟩
 have hap : ∀ ty,(Builtin.append_ #[28,28] ty #[.slice (some ⟨g,0,none⟩) i cap,.slice (some A) 0 (cap - n)]).run Tryz.prog w.drew = .ok (.slice (some ⟨g,0,none⟩) i cap) W1 := fun ty => by
  have := append_raw w.drew g i cap cs A 0 (cap - n) [] hR.drew rfl (by omega) hl (fun j x hx => by simp at hx) ty
  rw [Nat.add_zero,hW1] at this
  exact this
 have hlen1 : (rlaid cs [] i).length = cap * 3 := by rw [rlaid_len (by simp; omega),hl]
 have hR1 : Raw W1 g (rlaid cs [] i) := hW1 ▸ hR.drew.laid _
 have hs3 : ∀ u,(Instr.slice 28 (.slice (some ⟨g,0,none⟩) i cap) (some (.int .i64 (i : Int))) (some (.int .i64 (n : Int))) none).run Tryz.prog u = .ok (.slice (some ⟨g,i * 3,none⟩) (n - i) (cap - i)) u := fun u => by
  rw [run_slice_lh u 28 (some ⟨g,0,none⟩) i cap und .i64 .i64 i n (by omega) (by omega) (by omega),size]
  have e3 : ¬ cap = i := by omega
  simp [Result.andThen,sliced,e3,Addr.add]
  intro z
  exact z.symm
 obtain ⟨W2,hW2⟩ : ∃ W2,W1.setRow g (rcells (rlaid (rlaid cs [] i) (List.replicate (n - i) zero) i)) = W2 := ⟨_,rfl⟩
 have hcl : ∀ ty c,(Builtin.clear_ #[28] ty #[.slice (some ⟨g,i * 3,none⟩) (n - i) c]).run Tryz.prog W1 = .ok (.tuple #[]) W2 := fun ty c => hW2 ▸ clear_raw W1 g i (n - i) c _ hR1 (by rw [hlen1]; omega) (by omega) ty
 have HI : Hid (CutE w (.slice (some ⟨g,0,none⟩) n cap) M i (.returned (.slice (some ⟨g,0,none⟩) i cap)) W2) := Lib.hid (by
  refine ⟨_,rfl,raw_own (cs := rlaid (rlaid cs [] i) (List.replicate (n - i) zero) i) ?_ ?_ ?_ ?_ (by omega) hcm (Nat.zero_le _),rfl,?_⟩
  ·
   rw [← hW2]
   exact hR1.laid _
  · rw [rlaid_len (by rw [hlen1,List.length_replicate]; omega),hlen1]
  · rw [rlaid_take (by rw [hlen1]; omega),rlaid_take (by omega),← flat_take,← ht,List.take_take,Nat.min_eq_left (by omega)]
  ·
   rw [List.length_take]
   omega
  ·
   rw [← hW2,← hW1]
   exact ((UpdQ.of (Below.refl _ _).drew).trans (UpdQ.row (Q := fun b => (Value.slice (some ⟨g,0,none⟩) n cap).ownBlock = some b) w.drew rfl _)).trans (UpdQ.row (Q := fun b => (Value.slice (some ⟨g,0,none⟩) n cap).ownBlock = some b) _ rfl _))
 have hin' : ((i : Int) == (n : Int)) = false := beq_eq_false_iff_ne.2 (by omega)
 clear h hR hl ht hn hW1 hW2 hR1 hlen1 hA hlen hnc'
 go_enter Tryz.func187,Tryz.ntmps187
 go_wp2_with fail
 go_region_law (refine step_append_run rfl (.tmp 22) (.tmp 25) 28 28 rfl _ _ (by simp [Act.eval,Act.put]) (by simp [Act.eval,Act.put]) _ _ (hap _) ?_)
 go_wp2_with fail
 go_ret
 exact HI.out
end Go.Proofs.YtlmjeackfepllaaGreatDoor.Et
namespace Go.Proofs.YtlmjeackfepllaaGreatDoor.Wl
open Go.RowKit
open Mem
open Go.Sort (grow)
theorem step_app {ops : Array Oper} {o : Oper} {a : Act} {K : Act → World → Prop} {Q : Exit → Act → World → Prop} {E : Prop} (X : World) (hgd : o.guard = none) (s t : Operand)
  (ho : o.op = .call { callee := .builtin .append,args := #[s,t],argTypes := #[28,28] })
  (v : Value) (xs : List Et.T) (hs : a.eval s = v) (hown : Et.Own X 0 v xs)
  (ao : Option Addr) (n cap : Nat) (zs : List Et.T) (ht : a.eval t = .slice ao n cap) (hn : n = zs.length) (hnil : ao = none → cap = 0) (hsrc : Et.Seg X ao zs) (hl : xs.length + n ≤ 100000)
  (h : ∀ v' w1,Et.Own w1 0 v' (xs ++ zs) → X.grownBy w1 v.ownBlock → (v'.ownBlock = v.ownBlock ∨ v'.ownBlock = some X.heap.size) → K (a.put o.dst v') w1) :
  if Region.wanted o (yielded ops a.tmps) = true then Oper.wp Tryz.prog o a X K Q else E := by
 have hw : Region.wanted o (yielded ops a.tmps) = true := by simp [Region.wanted,hgd]
 rw [if_pos hw]
 exact Et.wp_append X s t ho 0 v xs hs hown ao n cap zs ht hn hnil hsrc (by omega) (Nat.zero_le _) h
theorem fits_few {h : H} {e : Et.T} (k : fits h e = true) : h.log.length < 200 := by
 unfold fits at k
 simp only [Bool.and_eq_true,decide_eq_true_eq] at k
 exact k.1
theorem Seg.app {P : Nat → Prop} {w y : World} {g o : Nat} {ty : TypeId} {pre post : List Value} {v : Sl} {s : Sg} {e : Et.T} (h : Seg P w g o ty pre post v s) (hf : fits s.h e = true) (he : Et.Short e) {v' : Value}
  (ho : Et.Own y 0 v' (s.h.log ++ [e])) (hu : UpdQ (fun b => (sv v).ownBlock = some b) w y) (hb : v'.ownBlock = (sv v).ownBlock ∨ ∃ b,v'.ownBlock = some b ∧ w.heap.size ≤ b) :
  StepE P w g o ty pre post s (some (s.with (s.h.with (s.h.log ++ [e])))) (.returned (.bool true)) (y.setCell ⟨g,o + 6,none⟩ v') := by
 obtain ⟨ao,cap,rfl,l,_⟩ := Et.own_ls ho (fun x hx => (List.mem_append.1 hx).elim (h.short x) fun z => by rw [List.mem_singleton.1 z]; exact he)
 have hg : ∀ b,(sv v).ownBlock = some b → b ≠ g := fun b z => (h.pv b z).2
 have hB : Blk y g o ty pre post (row s.h v) s.begun s.ready := ⟨h.blk.1,(hu.block g h.blk.lt fun z => hg g z rfl).trans h.blk.2⟩
 have hs := upd_set y g (o + 6) (.slice ao (s.h.log ++ [e]).length cap)
 have hng : ∀ b,(Value.slice ao (s.h.log ++ [e]).length cap).ownBlock = some b → nw P w b ∧ b ≠ g := fun b z => by
  rcases hb with hb | ⟨c,hb,hc⟩
  ·
   rw [hb] at z
   exact ⟨.inl (h.pv b z).1,hg b z⟩
  ·
   rw [hb] at z
   cases z
   exact ⟨.inr hc,fun q => by have := h.blk.lt; omega⟩
 refine ⟨rfl,⟨⟨ao,(s.h.log ++ [e]).length,cap⟩,⟨hB.set 6 (by omega) _ rfl,hs.rows ho fun b z => (hng b z).2,.inl h.pg,hng,?_,?_,h.base,h.fit,h.snap⟩⟩,(hu.mono fun b z => (h.pv b z).1).trans (hs.mono fun b z => z ▸ h.pg)⟩
 ·
  intro x hx
  exact (List.mem_append.1 hx).elim (h.short x) fun z => by rw [List.mem_singleton.1 z]; exact he
 ·
  have := fits_few hf
  show (s.h.log ++ [e]).length ≤ 200
  rw [List.length_append,List.length_singleton]
  omega
theorem fits_ag (r : Hd.T) (l : List Et.T) (x : Et.T) (u : World) (hl : Et.Ls u r.log.ao r.log.n r.log.cap l) (hb : -1000000000000000000 ≤ r.base ∧ r.base ≤ 1000000000000000000) (hx : Et.Short x) (i : Nat) (os : Array Obj) :
  Calls Tryz.prog 58 #[Hd.val r,Et.val x] (grow (redrawn u i) os) fun e w'' => e = .returned (.bool (fits (Hd.h r l) x)) ∧ ∃ p : Regrown,w'' = grow (redrawn u p.d) p.os := Calls.regrown_of (wl_fits r l x _ (hl.below (below_regrown u i os)) hb hx)
set_option maxHeartbeats 4000000 in
theorem sg_add {P : Nat → Prop} {w : World} {g o : Nat} {ty : TypeId} {pre post : List Value} {s : Sg} (h : In P w g o ty pre post s) (e : Et.T) (he : Et.Short e) :
  Calls Tryz.prog 166 #[.pointer (some ⟨g,o,none⟩),Et.val e] w (StepE P w g o ty pre post s (addS s e)) := by
 have HI := Lib.hid h
 have HSh := Lib.hid he
 obtain ⟨v,h⟩ := h
 obtain ⟨⟨vo,vn,vc⟩,hv⟩ : ∃ x,x = v := ⟨_,rfl⟩
 subst hv
 obtain ⟨W,hW,hbW,hC⟩ := Et.boxed1 w e
 have HBW := Lib.hid hbW
 have hS := h.below hbW
 have HS := Lib.hid hS
 obtain ⟨c0,c1,c2,c3,c4,c5,c6,c7,c8⟩ := hS.blk.cells
 unfold row at c0 c1 c2 c3 c4 c5 c6
 unfold sv at c6
 dsimp only at c0 c1 c2 c3 c4 c5 c6
 unfold Et.C at hC
 obtain ⟨a0,a1,a2⟩ := hC
 have hlt := hS.blk.lt
 have fz := hS.blk.frozen (o + 6)
 have cF := fits_ag (row s.h ⟨vo,vn,vc⟩) s.h.log e W hS.ls (by have := h.base; exact ⟨(by show -1000000000000000000 ≤ s.h.base; omega),(by show s.h.base ≤ 1000000000000000000; omega)⟩) he
 rw [h_row] at cF
 unfold Hd.val Et.val row at cF
 dsimp only at cF
 unfold Et.val
 cases hb : s.begun
 ·
  have HE : Hid (addS s e = none) := Lib.hid (by unfold addS; rw [if_pos hb])
  rw [hb] at c7
  clear h hb hbW fz c0 c1 c2 c3 c4 c5 c6 c8 cF a0 a1 a2 hS
  have c7' := cell_regrown c7
  go_enter Tryz.func166,Tryz.ntmps166
  go_wp2_with fail
  clear hW c7
  refine wp_region_quiet_below (by kernel_rfl) (by kernel_rfl) ?_
  repeat (first | go_big_quiet_step (fail) | quiet_step (fail))
  refine wpQuiet_nil ?_
  intro _ hw'
  obtain ⟨⟨dq,osq⟩,hw''⟩ := hw'
  subst hw''
  have HB2 := Lib.hid (bchain HBW.out (below_regrown W dq osq))
  go_wp2_with fail
  go_ret
  exact StepE.no HE.out HI.out HB2.out
 rw [hb] at c7
 have c0' := cell_regrown c0
 have c1' := cell_regrown c1
 have c2' := cell_regrown c2
 have c3' := cell_regrown c3
 have c4' := cell_regrown c4
 have c5' := cell_regrown c5
 have c6' := cell_regrown c6
 have c7' := cell_regrown c7
 have a0' := cell_regrown a0
 have a1' := cell_regrown a1
 have a2' := cell_regrown a2
 cases hf : fits s.h e
 ·
  have HE : Hid (addS s e = none) := Lib.hid (by unfold addS; rw [if_neg (by rw [hb]; simp),if_pos hf])
  rw [hf] at cF
  clear h hb hbW fz c0 c1 c2 c3 c4 c5 c6 c7 c8 a0 a1 a2 hS hf
  go_enter Tryz.func166,Tryz.ntmps166
  go_wp2_with fail
  clear hW
  refine wp_region_quiet_below (by kernel_rfl) (by kernel_rfl) ?_
  repeat (first | go_big_quiet_step (first | (go_at_call 58; exact cF _ _)) | quiet_step (first | (go_at_call 58; exact cF _ _)))
  refine wpQuiet_nil ?_
  intro _ hw'
  obtain ⟨⟨dq,osq⟩,hw''⟩ := hw'
  subst hw''
  have HB2 := Lib.hid (bchain HBW.out (below_regrown W dq osq))
  go_wp2_with fail
  go_ret
  exact StepE.no HE.out HI.out HB2.out
 ·
  have HE : Hid (addS s e = some (s.with (s.h.with (s.h.log ++ [e])))) := Lib.hid (by unfold addS; rw [if_neg (by rw [hb]; simp),if_neg (by rw [hf]; simp)])
  have HFt := Lib.hid hf
  have HH := Lib.hid h
  rw [hf] at cF
  clear h hb hbW fz c0 c1 c2 c3 c4 c5 c6 c7 c8 hS hf
  go_enter Tryz.func166,Tryz.ntmps166
  go_wp2_with fail
  clear hW
  refine wp_region_quiet_below (by kernel_rfl) (by kernel_rfl) ?_
  repeat (first | go_big_quiet_step (first | (go_at_call 58; exact cF _ _)) | quiet_step (first | (go_at_call 58; exact cF _ _)))
  refine wpQuiet_nil ?_
  intro _ hw'
  obtain ⟨⟨dq,osq⟩,hw''⟩ := hw'
  subst hw''
  have hB2 := below_regrown W dq osq
  have HB2 := Lib.hid (bchain HBW.out hB2)
  have hS2 := HS.out.below hB2
  have b0 := a0' dq osq
  have b1 := a1' dq osq
  have b2 := a2' dq osq
  have d6 := c6' dq osq
  clear a0' a1' a2' c0' c1' c2' c3' c4' c5' c6' c7' cF a0 a1 a2
  generalize grow (redrawn W dq) osq = V at *
  have HS2 := Lib.hid hS2
  have fz := hS2.blk.frozen (o + 6)
  have hltV := hS2.blk.lt
  clear hB2 hS2 hlt
  have HF : Hid (∀ (X y : World) (v' : Value),Below V.heap.size V X → Et.Own y 0 v' (s.h.log ++ [e]) → X.grownBy y (Value.slice vo vn vc).ownBlock → (v'.ownBlock = (Value.slice vo vn vc).ownBlock ∨ v'.ownBlock = some X.heap.size) → (y.cell? ⟨g,o + 6,none⟩ = some (.slice vo vn vc) ∧ y.frozen? ⟨g,o + 6,none⟩ = false ∧ g < y.heap.size ∧ ∃ xa xn xc,v' = .slice xa xn xc) ∧ StepE P w g o ty pre post s (addS s e) (.returned (.bool true)) (y.setCell ⟨g,o + 6,none⟩ v')) := Lib.hid fun X y v' bX ho gr hb => by
   have hX := HS2.out.below bX
   have hu : UpdQ (fun b => (sv ⟨vo,vn,vc⟩).ownBlock = some b) X y := UpdQ.grown gr
   have hne : ¬ (sv ⟨vo,vn,vc⟩).ownBlock = some g := fun z => (hX.pv g z).2 rfl
   have hblk : Blk y g o ty pre post (row s.h ⟨vo,vn,vc⟩) s.begun s.ready := ⟨hX.blk.1,(hu.block g hX.blk.lt hne).trans hX.blk.2⟩
   refine ⟨⟨hblk.cells.2.2.2.2.2.2.1,hblk.frozen _,hblk.lt,?_⟩,?_⟩
   ·
    obtain ⟨ao,cap,z,_⟩ := Et.own_ls ho (fun x hx => (List.mem_append.1 hx).elim (hX.short x) fun z => by rw [List.mem_singleton.1 z]; exact HSh.out)
    exact ⟨_,_,_,z⟩
   ·
    rw [HE.out]
    have hwX : Below w.heap.size w X := bchain HB2.out bX
    exact HH.out.app HFt.out HSh.out ho ((UpdQ.of hwX).trans hu) (hb.imp id fun z => ⟨_,z,hwX.size⟩)
  have lb1 : Hid (∀ q,Below V.heap.size V (V.alloc q).drew) := Lib.hid fun q => ((Below.refl _ _).alloc (Nat.le_refl _) _).drew
  have lb2 : Hid (∀ q,Below V.heap.size V (V.drew.alloc q)) := Lib.hid fun q => (Below.refl _ _).drew.alloc (Nat.le_refl _) _
  have hfew : s.h.log.length + 1 ≤ 100000 := by
   have := HS2.out.few
   omega
  go_wp2_with fail
  go_region_law (refine step_app _ (by rfl) (.tmp 24) (.tmp 26) (by rfl) (.slice vo vn vc) s.h.log (by rfl) ((HS2.out.below (by first | exact lb1.out _ | exact lb2.out _)).own) (some ⟨V.heap.size,0,none⟩) 1 1 [e] (by rfl) rfl (fun z => by cases z) (Et.seg_block (heap_alloc_new V _)) hfew ?_; intro v' y ho gr hb; (obtain ⟨⟨t0,t1,t2,xa,xn,xc,rfl⟩,hz⟩ := HF.out _ y v' (by first | exact lb1.out _ | exact lb2.out _) ho gr hb); have HZ := Lib.hid hz; clear hz ho gr hb)
  all_goals
   go_wp2
   go_ret
   exact HZ.out
theorem cut_in {h : H} {n : Int} (k : within n h.base (last h) = true) : h.base ≤ n ∧ n ≤ h.base + (h.log.length : Int) := by
 unfold within last at k
 simp only [Bool.and_eq_true,decide_eq_true_eq] at k
 exact k
theorem Seg.cut {P : Nat → Prop} {w y : World} {g o : Nat} {ty : TypeId} {pre post : List Value} {v : Sl} {s : Sg} (h : Seg P w g o ty pre post v s) (i : Nat) {v' : Value}
  (ho : Et.Own y 0 v' (s.h.log.take i)) (hu : UpdQ (fun b => (sv v).ownBlock = some b) w y) (hb : v'.ownBlock = (sv v).ownBlock) :
  StepE P w g o ty pre post s (some (s.with (s.h.with (s.h.log.take i)))) (.returned (.bool true)) (y.setCell ⟨g,o + 6,none⟩ v') := by
 obtain ⟨ao,cap,rfl,l,_⟩ := Et.own_ls ho (fun x hx => h.short x (List.mem_of_mem_take hx))
 have hg : ∀ b,(sv v).ownBlock = some b → b ≠ g := fun b z => (h.pv b z).2
 have hB : Blk y g o ty pre post (row s.h v) s.begun s.ready := ⟨h.blk.1,(hu.block g h.blk.lt fun z => hg g z rfl).trans h.blk.2⟩
 have hs := upd_set y g (o + 6) (.slice ao (s.h.log.take i).length cap)
 have hng : ∀ b,(Value.slice ao (s.h.log.take i).length cap).ownBlock = some b → nw P w b ∧ b ≠ g := fun b z => by
  rw [hb] at z
  exact ⟨.inl (h.pv b z).1,hg b z⟩
 refine ⟨rfl,⟨⟨ao,(s.h.log.take i).length,cap⟩,⟨hB.set 6 (by omega) _ rfl,hs.rows ho fun b z => (hng b z).2,.inl h.pg,hng,fun x hx => h.short x (List.mem_of_mem_take hx),?_,h.base,h.fit,h.snap⟩⟩,(hu.mono fun b z => (h.pv b z).1).trans (hs.mono fun b z => z ▸ h.pg)⟩
 have := h.few
 show (s.h.log.take i).length ≤ 200
 rw [List.length_take]
 omega
set_option maxHeartbeats 4000000 in
theorem sg_cut {P : Nat → Prop} {w : World} {g o : Nat} {ty : TypeId} {pre post : List Value} {s : Sg} (h : In P w g o ty pre post s) (n : Int) (hn : Fit n) :
  Calls Tryz.prog 169 #[.pointer (some ⟨g,o,none⟩),.int .i64 n] w (StepE P w g o ty pre post s (cutS s n)) := by
 have HI := Lib.hid h
 obtain ⟨v,h⟩ := h
 obtain ⟨⟨vo,vn,vc⟩,hv⟩ : ∃ x,x = v := ⟨_,rfl⟩
 subst hv
 have HS := Lib.hid h
 obtain ⟨c0,c1,c2,c3,c4,c5,c6,c7,c8⟩ := h.blk.cells
 unfold row at c0 c1 c2 c3 c4 c5 c6
 unfold sv at c6
 dsimp only at c0 c1 c2 c3 c4 c5 c6
 have hlt := h.blk.lt
 have hls := h.ls
 have hlen := hls.len
 have hcap := hls.reach
 have hfit := hls.fits
 dsimp only at hls hlen hcap hfit
 have hbase := h.base
 have hfew := h.few
 have cL := last_ag (row s.h ⟨vo,vn,vc⟩) s.h.log w hls (by exact ⟨(by show -1000000000000000000 ≤ s.h.base; omega),(by show s.h.base ≤ 1000000000000000000; omega)⟩) (by omega)
 rw [h_row] at cL
 have c3w := within_ag n s.h.base (last s.h) w
 unfold Hd.val row at cL
 dsimp only at cL
 unfold AnsW at cL c3w
 obtain ⟨la,hla⟩ : ∃ la,last s.h = la := ⟨_,rfl⟩
 rw [hla] at cL c3w
 cases hr : s.ready
 ·
  have HE : Hid (cutS s n = none) := Lib.hid (by unfold cutS; rw [if_pos hr])
  rw [hr] at c8
  clear h hr c0 c1 c2 c3 c4 c5 c6 c7 cL c3w hla hbase hlen hls
  have c8' := cell_regrown c8
  go_enter Tryz.func169,Tryz.ntmps169
  go_wp2_with fail
  clear c8
  refine wp_region_quiet_below (by kernel_rfl) (by kernel_rfl) ?_
  repeat (first | go_big_quiet_step (fail) | quiet_step (fail))
  refine wpQuiet_nil ?_
  intro _ hw'
  obtain ⟨⟨dq,osq⟩,hw''⟩ := hw'
  subst hw''
  have HB2 := Lib.hid (below_regrown w dq osq)
  go_wp2_with fail
  go_ret
  exact StepE.no HE.out HI.out HB2.out
 rw [hr] at c8
 have c0' := cell_regrown c0
 have c1' := cell_regrown c1
 have c2' := cell_regrown c2
 have c3' := cell_regrown c3
 have c4' := cell_regrown c4
 have c5' := cell_regrown c5
 have c6' := cell_regrown c6
 have c8' := cell_regrown c8
 cases hf : within n s.h.base la
 ·
  have HE : Hid (cutS s n = none) := Lib.hid (by unfold cutS; rw [if_neg (by rw [hr]; simp),if_pos (by rw [hla]; exact hf)])
  rw [hf] at c3w
  clear h hr c0 c1 c2 c3 c4 c5 c6 c7 c8 hla hbase hlen hls hf
  go_enter Tryz.func169,Tryz.ntmps169
  go_wp2_with fail
  refine wp_region_quiet_below (by kernel_rfl) (by kernel_rfl) ?_
  repeat (first | go_big_quiet_step (first | (go_at_call 106; with_reducible exact cL _ _) | (go_at_call 105; with_reducible exact c3w _ _)) | quiet_step (first | (go_at_call 106; with_reducible exact cL _ _) | (go_at_call 105; with_reducible exact c3w _ _)))
  refine wpQuiet_nil ?_
  intro _ hw'
  obtain ⟨⟨dq,osq⟩,hw''⟩ := hw'
  subst hw''
  have HB2 := Lib.hid (below_regrown w dq osq)
  go_wp2_with fail
  go_ret
  exact StepE.no HE.out HI.out HB2.out
 ·
  have HE : Hid (cutS s n = some (s.with (s.h.with (s.h.log.take (n - s.h.base).toNat)))) := Lib.hid (by unfold cutS; rw [if_neg (by rw [hr]; simp),if_neg (by rw [hla,hf]; simp)])
  obtain ⟨k1,k2⟩ := cut_in (by rw [hla]; exact hf)
  obtain ⟨i,hi⟩ : ∃ i,(n - s.h.base).toNat = i := ⟨_,rfl⟩
  rw [hi] at HE
  have hsub : n - s.h.base = (i : Int) := by omega
  have hin : i ≤ vn := by omega
  have hvn : vn ≤ 1000 := by omega
  rw [hf] at c3w
  obtain ⟨n1,n2⟩ := hn
  clear h hr c0 c1 c2 c3 c4 c5 c6 c7 c8 hla hlen hls hf hi k1 k2
  go_enter Tryz.func169,Tryz.ntmps169
  go_wp2_with fail
  refine wp_region_quiet_below (by kernel_rfl) (by kernel_rfl) ?_
  repeat (first | go_big_quiet_step (first | (go_at_call 106; with_reducible exact cL _ _) | (go_at_call 105; with_reducible exact c3w _ _)) | quiet_step (first | (go_at_call 106; with_reducible exact cL _ _) | (go_at_call 105; with_reducible exact c3w _ _)))
  refine wpQuiet_nil ?_
  intro _ hw'
  obtain ⟨⟨dq,osq⟩,hw''⟩ := hw'
  subst hw''
  have hB2 := below_regrown w dq osq
  have HB2 := Lib.hid hB2
  have hS2 := HS.out.below hB2
  have d2 := c2' dq osq
  have d6 := c6' dq osq
  clear c0' c1' c2' c3' c4' c5' c6' c8' cL c3w hlt
  generalize grow (redrawn w dq) osq = V at *
  have HS2 := Lib.hid hS2
  have C := Lib.hid (Et.delete_tail V vo vn vc i s.h.log hS2.own hin hvn)
  have hltV := hS2.blk.lt
  have HF : Hid (∀ (y : World) (v' : Value),Et.Own y 0 v' (s.h.log.take i) → v'.ownBlock = (Value.slice vo vn vc).ownBlock → UpdQ (fun b => (Value.slice vo vn vc).ownBlock = some b) V y → (y.cell? ⟨g,o + 6,none⟩ = some (.slice vo vn vc) ∧ y.frozen? ⟨g,o + 6,none⟩ = false ∧ g < y.heap.size ∧ ∃ xa xn xc,v' = .slice xa xn xc) ∧ StepE P w g o ty pre post s (cutS s n) (.returned (.bool true)) (y.setCell ⟨g,o + 6,none⟩ v')) := Lib.hid fun y v' ho hb hu => by
   have hX := HS2.out
   have hne : ¬ (sv ⟨vo,vn,vc⟩).ownBlock = some g := fun z => (hX.pv g z).2 rfl
   have hblk : Blk y g o ty pre post (row s.h ⟨vo,vn,vc⟩) s.begun s.ready := ⟨hX.blk.1,(hu.block g hX.blk.lt hne).trans hX.blk.2⟩
   refine ⟨⟨hblk.cells.2.2.2.2.2.2.1,hblk.frozen _,hblk.lt,?_⟩,?_⟩
   ·
    obtain ⟨ao,cap,z,_⟩ := Et.own_ls ho (fun x hx => hX.short x (List.mem_of_mem_take hx))
    exact ⟨_,_,_,z⟩
   ·
    rw [HE.out]
    exact HS.out.cut i ho ((UpdQ.of HB2.out).trans hu) hb
  clear hS2 hB2
  go_wp2_with (go_at_call 187; refine C.out.mono ?_; rintro e' y ⟨v',rfl,ho,hb,hu⟩; (obtain ⟨⟨t0,t1,t2,xa,xn,xc,rfl⟩,hz⟩ := HF.out y v' ho hb hu); have HZ := Lib.hid hz; clear hz ho hb hu C)
  go_ret
  exact HZ.out
end Go.Proofs.YtlmjeackfepllaaGreatDoor.Wl
namespace Go.Proofs.YtlmjeackfepllaaGreatDoor.Wl
open Go.RowKit
open Mem Pk
def Rs (w : World) (p : Nat) (bs : List UInt8) (s : St) (u : World) : Prop := (∃ ao n cap,Rd u p ao n cap bs s) ∧ w.heap.size ≤ p ∧ Below w.heap.size w u
section
variable {w u v : World} {p : Nat} {bs : List UInt8} {s : St}
theorem Rs.below (h : Rs w p bs s u) (k : Below u.heap.size u v) : Rs w p bs s v := by
 obtain ⟨⟨ao,n,cap,h⟩,a,b⟩ := h
 exact ⟨⟨ao,n,cap,h.below k⟩,a,bchain b k⟩
theorem Rs.lt (h : Rs w p bs s u) : p < u.heap.size := by
 obtain ⟨⟨ao,n,cap,h⟩,a,b⟩ := h
 exact cell_lt h.c0
theorem rs_num {t : Int} {s' : St} (h : Rs w p bs s u) (e : rNum bs s = (t,s')) : Calls Tryz.prog 143 #[.pointer (some ⟨p,0,none⟩)] u fun e u' => e = .returned (.int .i64 t) ∧ Rs w p bs s' u' ∧ Upd u p u' := by
 obtain ⟨⟨ao,n,cap,h⟩,a,b⟩ := h
 refine (rd_num p ao n cap bs s u h).mono ?_
 rintro x u' ⟨rfl,h1,h2⟩
 rw [e] at h1 ⊢
 exact ⟨rfl,⟨⟨ao,n,cap,h1⟩,a,h2.below w b a⟩,h2⟩
theorem rs_text {t : ByteArray} {s' : St} (h : Rs w p bs s u) (e : rText bs 1100 s = (t,s')) : Calls Tryz.prog 144 #[.pointer (some ⟨p,0,none⟩),.int .i64 1100] u fun e u' => e = .returned (.string t) ∧ Rs w p bs s' u' ∧ Upd u p u' := by
 obtain ⟨⟨ao,n,cap,h⟩,a,b⟩ := h
 refine (rd_text p ao n cap bs 1100 s u h).mono ?_
 rintro x u' ⟨rfl,h1,h2⟩
 rw [e] at h1 ⊢
 exact ⟨rfl,⟨⟨ao,n,cap,h1⟩,a,h2.below w b a⟩,h2⟩
theorem rs_end {t : Int} {s' : St} (h : Rs w p bs s u) (e : rEnd bs s = (t,s')) : Calls Tryz.prog 145 #[.pointer (some ⟨p,0,none⟩)] u fun e u' => e = .returned (.int .i64 t) ∧ Rs w p bs s' u' ∧ Upd u p u' := by
 obtain ⟨⟨ao,n,cap,h⟩,a,b⟩ := h
 refine (rd_end p ao n cap bs s u h).mono ?_
 rintro x u' ⟨rfl,h1,h2⟩
 rw [e] at h1 ⊢
 exact ⟨rfl,⟨⟨ao,n,cap,h1⟩,a,h2.below w b a⟩,h2⟩
theorem hdc_upd {b : Nat} {r : Hd.T} (h : Hd.C u b r) (k : Upd u p v) (hp : b ≠ p) : Hd.C v b r := by
 obtain ⟨h0,h1,h2,h3,h4,h5,h6⟩ := h
 have hl := cell_lt h0
 unfold Hd.C
 rw [k.cell _ _ hl hp,k.cell _ _ hl hp,k.cell _ _ hl hp,k.cell _ _ hl hp,k.cell _ _ hl hp,k.cell _ _ hl hp,k.cell _ _ hl hp]
 exact ⟨h0,h1,h2,h3,h4,h5,h6⟩
theorem etc_upd {b : Nat} {r : Et.T} (h : Et.C u b r) (k : Upd u p v) (hp : b ≠ p) : Et.C v b r := by
 obtain ⟨h0,h1,h2⟩ := h
 have hl := cell_lt h0
 unfold Et.C
 rw [k.cell _ _ hl hp,k.cell _ _ hl hp,k.cell _ _ hl hp]
 exact ⟨h0,h1,h2⟩
end
theorem StepE.since {P : Nat → Prop} {w u u' : World} {g o : Nat} {ty : TypeId} {pre post : List Value} {s : Sg} {x : Option Sg} {e : Ending} (k : Below w.heap.size w u) (h : StepE P u g o ty pre post s x e u') : StepE P w g o ty pre post s x e u' :=
 ⟨h.1,h.2.1.mono fun b z => z.imp id fun z => Nat.le_trans k.size z,(UpdQ.of k).trans h.2.2⟩
theorem rText_size (bs : List UInt8) (s : St) (hb : bs.length ≤ 140737488355328) : (rText bs 1100 s).1.size ≤ 140737488355328 := by
 unfold rText
 rw [← txt_len]
 show ((bs.take _).drop _).length ≤ _
 rw [List.length_drop,List.length_take]
 omega
theorem eql0_of {e : Int} (h : e = 0) : (e == 0) = true := beq_iff_eq.2 h
theorem rNumFit {bs : List UInt8} {s s' : St} {t : Int} (h : rNum bs s = (t,s')) : Fit t := by
 have := rNum_fit bs s
 rw [h] at this
 exact this
set_option maxHeartbeats 4000000 in
theorem sg_take {P : Nat → Prop} {w : World} {g o : Nat} {ty : TypeId} {pre post : List Value} {s : Sg} (h : In P w g o ty pre post s) (ao : Option Addr) (m cap : Nat) (bs : List UInt8) (hL : By.Ls w ao m cap bs) (hm : m ≤ 1000000000000) :
  Calls Tryz.prog 128 #[.pointer (some ⟨g,o,none⟩),.slice ao m cap] w (StepE P w g o ty pre post s (take s bs)) := by
 have HI := Lib.hid h
 have C0 := Lib.hid (pack_read bs ao m cap w hL hm)
 have hbl : bs.length ≤ 140737488355328 := by
  have := hL.len
  omega
 have HNo : Hid (take s bs = none → ∀ u,Below w.heap.size w u → StepE P w g o ty pre post s (take s bs) (.returned (.bool false)) u) := Lib.hid fun hx u k => StepE.no hx h k
 clear h hL
 obtain ⟨k,s1,hk⟩ : ∃ k s1,rNum bs s0 = (k,s1) := ⟨_,_,rfl⟩
 have hpa : parse bs = if k = 1 then parseB bs s1 else if k = 2 then parseE bs s1 else if k = 3 then fin bs s1 .rdy else if k = 4 then parseV bs s1 else if k = 5 then parseC bs s1 else none := by
  unfold parse
  rw [hk]
 have HK := Lib.hid hk
 have HPa := Lib.hid hpa
 clear hk hpa
 by_cases hk1 : k = 1
 ·
  obtain ⟨t,s1t,ht⟩ : ∃ x y,rNum bs s1 = (x,y) := ⟨_,_,rfl⟩
  have Jt := Lib.hid ht
  obtain ⟨v,s1tv,hv⟩ : ∃ x y,rNum bs s1t = (x,y) := ⟨_,_,rfl⟩
  have Jv := Lib.hid hv
  obtain ⟨b,s1tvb,hb⟩ : ∃ x y,rNum bs s1tv = (x,y) := ⟨_,_,rfl⟩
  have Jb := Lib.hid hb
  obtain ⟨c,s1tvbc,hc⟩ : ∃ x y,rNum bs s1tvb = (x,y) := ⟨_,_,rfl⟩
  have Jc := Lib.hid hc
  obtain ⟨d,s1tvbcd,hd⟩ : ∃ x y,rNum bs s1tvbc = (x,y) := ⟨_,_,rfl⟩
  have Jd := Lib.hid hd
  obtain ⟨er,sz,he⟩ : ∃ x y,rEnd bs s1tvbcd = (x,y) := ⟨_,_,rfl⟩
  have He := Lib.hid he
  have hps : parse bs = if er = 0 then some (.beg t v b c d) else none := by
   rw [HPa.out,if_pos hk1]
   unfold parseB fin
   simp only [ht,hv,hb,hc,hd,he]
  have ft := rNumFit ht
  have fv := rNumFit hv
  have fb := rNumFit hb
  have fc := rNumFit hc
  have fd := rNumFit hd
  clear he ht hv hb hc hd
  by_cases z : er = 0
  ·
   have HT : Hid (take s bs = beginS s ⟨t,v,b,c,d,.empty,[]⟩) := Lib.hid (by unfold take; rw [hps,if_pos z]; rfl)
   subst z
   clear hps HNo
   have q1 : (k == 1) = true := beq_iff_eq.2 hk1
   go_enter Tryz.func128,Tryz.ntmps128
   go_wp2_with fail
   refine C0.out.mono ?_
   rintro e u0 ⟨⟨p,bo,rfl,hp,hR⟩,b0⟩
   have HR0 : Hid (Rs w p bs s0 u0) := Lib.hid ⟨⟨bo,m,m,hR⟩,hp,b0⟩
   clear hp hR b0 C0
   go_wp2_with fail
   refine (rs_num HR0.out HK.out).mono ?_
   rintro e u1 ⟨rfl,h1,-⟩
   have HR1 := Lib.hid h1
   clear h1 HR0
   go_wp2_with fail
   refine (rs_num HR1.out Jt.out).mono ?_
   rintro e u2 ⟨rfl,h1,-⟩
   have HR2 := Lib.hid h1
   clear h1 HR1
   go_wp2_with fail
   refine (rs_num HR2.out Jv.out).mono ?_
   rintro e u3 ⟨rfl,h1,-⟩
   have HR3 := Lib.hid h1
   clear h1 HR2
   go_wp2_with fail
   refine (rs_num HR3.out Jb.out).mono ?_
   rintro e u4 ⟨rfl,h1,-⟩
   have HR4 := Lib.hid h1
   clear h1 HR3
   go_wp2_with fail
   refine (rs_num HR4.out Jc.out).mono ?_
   rintro e u5 ⟨rfl,h1,-⟩
   have HR5 := Lib.hid h1
   clear h1 HR4
   go_wp2_with fail
   refine (rs_num HR5.out Jd.out).mono ?_
   rintro e u6 ⟨rfl,h1,-⟩
   have HR6 := Lib.hid h1
   clear h1 HR5
   have HC : Hid (Hd.C (Hd.box u6 ⟨t,v,b,c,d,⟨#[]⟩,⟨none,0,0⟩⟩) u6.heap.size ⟨t,v,b,c,d,⟨#[]⟩,⟨none,0,0⟩⟩) := Lib.hid (Hd.c_box _ _)
   have HRW : Hid (∀ q,Rs w p bs s1tvbcd (u6.alloc q)) := Lib.hid fun q => HR6.out.below ((Below.refl _ _).alloc (Nat.le_refl _) q)
   have hpl := HR6.out.lt
   go_wp2_with fail
   refine (rs_end (HRW.out _) He.out).mono ?_
   rintro e u7 ⟨rfl,h1,hU⟩
   have HR7 := Lib.hid h1
   have hC := hdc_upd HC.out hU (by omega)
   clear h1 hU HRW HC HR6
   unfold Hd.C at hC
   obtain ⟨a0,a1,a2,a3,a4,a5,a6⟩ := hC
   go_wp2_with fail
   refine (sg_begin (HI.out.below HR7.out.2.2) ⟨t,v,b,c,d,⟨#[]⟩,⟨none,0,0⟩⟩ rfl rfl).mono ?_
   rintro e uz hz
   have HZ := Lib.hid (hz.since HR7.out.2.2)
   obtain ⟨rfl,-,-⟩ := hz
   go_wp2_with fail
   go_ret
   rw [HT.out]
   exact HZ.out
  ·
   have HN := Lib.hid (HNo.out (by unfold take; rw [hps,if_neg z]; rfl))
   have qe : (er == 0) = false := beq_eq_false_iff_ne.2 z
   clear hps HNo z
   have q1 : (k == 1) = true := beq_iff_eq.2 hk1
   go_enter Tryz.func128,Tryz.ntmps128
   go_wp2_with fail
   refine C0.out.mono ?_
   rintro e u0 ⟨⟨p,bo,rfl,hp,hR⟩,b0⟩
   have HR0 : Hid (Rs w p bs s0 u0) := Lib.hid ⟨⟨bo,m,m,hR⟩,hp,b0⟩
   clear hp hR b0 C0
   go_wp2_with fail
   refine (rs_num HR0.out HK.out).mono ?_
   rintro e u1 ⟨rfl,h1,-⟩
   have HR1 := Lib.hid h1
   clear h1 HR0
   go_wp2_with fail
   refine (rs_num HR1.out Jt.out).mono ?_
   rintro e u2 ⟨rfl,h1,-⟩
   have HR2 := Lib.hid h1
   clear h1 HR1
   go_wp2_with fail
   refine (rs_num HR2.out Jv.out).mono ?_
   rintro e u3 ⟨rfl,h1,-⟩
   have HR3 := Lib.hid h1
   clear h1 HR2
   go_wp2_with fail
   refine (rs_num HR3.out Jb.out).mono ?_
   rintro e u4 ⟨rfl,h1,-⟩
   have HR4 := Lib.hid h1
   clear h1 HR3
   go_wp2_with fail
   refine (rs_num HR4.out Jc.out).mono ?_
   rintro e u5 ⟨rfl,h1,-⟩
   have HR5 := Lib.hid h1
   clear h1 HR4
   go_wp2_with fail
   refine (rs_num HR5.out Jd.out).mono ?_
   rintro e u6 ⟨rfl,h1,-⟩
   have HR6 := Lib.hid h1
   clear h1 HR5
   have HC : Hid (Hd.C (Hd.box u6 ⟨t,v,b,c,d,⟨#[]⟩,⟨none,0,0⟩⟩) u6.heap.size ⟨t,v,b,c,d,⟨#[]⟩,⟨none,0,0⟩⟩) := Lib.hid (Hd.c_box _ _)
   have HRW : Hid (∀ q,Rs w p bs s1tvbcd (u6.alloc q)) := Lib.hid fun q => HR6.out.below ((Below.refl _ _).alloc (Nat.le_refl _) q)
   have hpl := HR6.out.lt
   go_wp2_with fail
   refine (rs_end (HRW.out _) He.out).mono ?_
   rintro e u7 ⟨rfl,h1,hU⟩
   have HR7 := Lib.hid h1
   have hC := hdc_upd HC.out hU (by omega)
   clear h1 hU HRW HC HR6
   unfold Hd.C at hC
   obtain ⟨a0,a1,a2,a3,a4,a5,a6⟩ := hC
   go_wp2_with fail
   go_ret
   exact HN.out _ HR7.out.2.2
 by_cases hk2 : k = 2
 ·
  obtain ⟨t,s1t,ht⟩ : ∃ x y,rNum bs s1 = (x,y) := ⟨_,_,rfl⟩
  have Jt := Lib.hid ht
  obtain ⟨v,s1tv,hv⟩ : ∃ x y,rNum bs s1t = (x,y) := ⟨_,_,rfl⟩
  have Jv := Lib.hid hv
  obtain ⟨x,s1tvx,hx⟩ : ∃ x y,rText bs 1100 s1tv = (x,y) := ⟨_,_,rfl⟩
  have Jx := Lib.hid hx
  have hxs : x.size ≤ 140737488355328 := by
   have := rText_size bs s1tv hbl
   rw [hx] at this
   exact this
  obtain ⟨er,sz,he⟩ : ∃ x y,rEnd bs s1tvx = (x,y) := ⟨_,_,rfl⟩
  have He := Lib.hid he
  have hps : parse bs = if er = 0 then some (.ent ⟨t,v,x⟩) else none := by
   rw [HPa.out,if_neg (by omega),if_pos hk2]
   unfold parseE fin
   simp only [ht,hv,hx,he]
  have ft := rNumFit ht
  have fv := rNumFit hv
  clear he ht hv hx
  by_cases z : er = 0
  ·
   have HT : Hid (take s bs = addS s ⟨t,v,x⟩) := Lib.hid (by unfold take; rw [hps,if_pos z]; rfl)
   subst z
   clear hps HNo
   have q1 : (k == 1) = false := beq_eq_false_iff_ne.2 (by omega)
   have q2 : (k == 2) = true := beq_iff_eq.2 hk2
   go_enter Tryz.func128,Tryz.ntmps128
   go_wp2_with fail
   refine C0.out.mono ?_
   rintro e u0 ⟨⟨p,bo,rfl,hp,hR⟩,b0⟩
   have HR0 : Hid (Rs w p bs s0 u0) := Lib.hid ⟨⟨bo,m,m,hR⟩,hp,b0⟩
   clear hp hR b0 C0
   go_wp2_with fail
   refine (rs_num HR0.out HK.out).mono ?_
   rintro e u1 ⟨rfl,h1,-⟩
   have HR1 := Lib.hid h1
   clear h1 HR0
   go_wp2_with fail
   refine (rs_num HR1.out Jt.out).mono ?_
   rintro e u2 ⟨rfl,h1,-⟩
   have HR2 := Lib.hid h1
   clear h1 HR1
   go_wp2_with fail
   refine (rs_num HR2.out Jv.out).mono ?_
   rintro e u3 ⟨rfl,h1,-⟩
   have HR3 := Lib.hid h1
   clear h1 HR2
   go_wp2_with fail
   refine (rs_text HR3.out Jx.out).mono ?_
   rintro e u4 ⟨rfl,h1,-⟩
   have HR4 := Lib.hid h1
   clear h1 HR3
   obtain ⟨W,hW,hbW,hC⟩ := Et.boxed1 u4 ⟨t,v,x⟩
   have HR4W := Lib.hid (HR4.out.below hbW)
   have hpl := HR4.out.lt
   have HC := Lib.hid hC
   dsimp only at hW
   clear hbW hC
   go_wp2_with fail
   refine (rs_end HR4W.out He.out).mono ?_
   rintro e u5 ⟨rfl,h1,hU⟩
   have HR5 := Lib.hid h1
   have hC := etc_upd HC.out hU (by omega)
   clear h1 hU hW HR4W HC HR4
   unfold Et.C at hC
   obtain ⟨a0,a1,a2⟩ := hC
   go_wp2_with fail
   refine (sg_add (HI.out.below HR5.out.2.2) ⟨t,v,x⟩ ⟨ft,fv,hxs⟩).mono ?_
   rintro e uz hz
   have HZ := Lib.hid (hz.since HR5.out.2.2)
   obtain ⟨rfl,-,-⟩ := hz
   go_wp2_with fail
   go_ret
   rw [HT.out]
   exact HZ.out
  ·
   have HN := Lib.hid (HNo.out (by unfold take; rw [hps,if_neg z]; rfl))
   have qe : (er == 0) = false := beq_eq_false_iff_ne.2 z
   clear hps HNo z
   have q1 : (k == 1) = false := beq_eq_false_iff_ne.2 (by omega)
   have q2 : (k == 2) = true := beq_iff_eq.2 hk2
   go_enter Tryz.func128,Tryz.ntmps128
   go_wp2_with fail
   refine C0.out.mono ?_
   rintro e u0 ⟨⟨p,bo,rfl,hp,hR⟩,b0⟩
   have HR0 : Hid (Rs w p bs s0 u0) := Lib.hid ⟨⟨bo,m,m,hR⟩,hp,b0⟩
   clear hp hR b0 C0
   go_wp2_with fail
   refine (rs_num HR0.out HK.out).mono ?_
   rintro e u1 ⟨rfl,h1,-⟩
   have HR1 := Lib.hid h1
   clear h1 HR0
   go_wp2_with fail
   refine (rs_num HR1.out Jt.out).mono ?_
   rintro e u2 ⟨rfl,h1,-⟩
   have HR2 := Lib.hid h1
   clear h1 HR1
   go_wp2_with fail
   refine (rs_num HR2.out Jv.out).mono ?_
   rintro e u3 ⟨rfl,h1,-⟩
   have HR3 := Lib.hid h1
   clear h1 HR2
   go_wp2_with fail
   refine (rs_text HR3.out Jx.out).mono ?_
   rintro e u4 ⟨rfl,h1,-⟩
   have HR4 := Lib.hid h1
   clear h1 HR3
   obtain ⟨W,hW,hbW,hC⟩ := Et.boxed1 u4 ⟨t,v,x⟩
   have HR4W := Lib.hid (HR4.out.below hbW)
   have hpl := HR4.out.lt
   have HC := Lib.hid hC
   dsimp only at hW
   clear hbW hC
   go_wp2_with fail
   refine (rs_end HR4W.out He.out).mono ?_
   rintro e u5 ⟨rfl,h1,hU⟩
   have HR5 := Lib.hid h1
   have hC := etc_upd HC.out hU (by omega)
   clear h1 hU hW HR4W HC HR4
   unfold Et.C at hC
   obtain ⟨a0,a1,a2⟩ := hC
   go_wp2_with fail
   go_ret
   exact HN.out _ HR5.out.2.2
 by_cases hk3 : k = 3
 ·
  obtain ⟨er,sz,he⟩ : ∃ x y,rEnd bs s1 = (x,y) := ⟨_,_,rfl⟩
  have He := Lib.hid he
  have hps : parse bs = if er = 0 then some (.rdy) else none := by
   rw [HPa.out,if_neg (by omega),if_neg (by omega),if_pos hk3]
   unfold fin
   simp only [he]
  clear he
  by_cases z : er = 0
  ·
   have HT : Hid (take s bs = closeS s) := Lib.hid (by unfold take; rw [hps,if_pos z]; rfl)
   subst z
   clear hps HNo
   have q1 : (k == 1) = false := beq_eq_false_iff_ne.2 (by omega)
   have q2 : (k == 2) = false := beq_eq_false_iff_ne.2 (by omega)
   have q3 : (k == 3) = true := beq_iff_eq.2 hk3
   go_enter Tryz.func128,Tryz.ntmps128
   go_wp2_with fail
   refine C0.out.mono ?_
   rintro e u0 ⟨⟨p,bo,rfl,hp,hR⟩,b0⟩
   have HR0 : Hid (Rs w p bs s0 u0) := Lib.hid ⟨⟨bo,m,m,hR⟩,hp,b0⟩
   clear hp hR b0 C0
   go_wp2_with fail
   refine (rs_num HR0.out HK.out).mono ?_
   rintro e u1 ⟨rfl,h1,-⟩
   have HR1 := Lib.hid h1
   clear h1 HR0
   go_wp2_with fail
   refine (rs_end HR1.out He.out).mono ?_
   rintro e u2 ⟨rfl,h1,-⟩
   have HR2 := Lib.hid h1
   clear h1 HR1
   go_wp2_with fail
   refine (sg_close (HI.out.below HR2.out.2.2)).mono ?_
   rintro e uz hz
   have HZ := Lib.hid (hz.since HR2.out.2.2)
   obtain ⟨rfl,-,-⟩ := hz
   go_wp2_with fail
   go_ret
   rw [HT.out]
   exact HZ.out
  ·
   have HN := Lib.hid (HNo.out (by unfold take; rw [hps,if_neg z]; rfl))
   have qe : (er == 0) = false := beq_eq_false_iff_ne.2 z
   clear hps HNo z
   have q1 : (k == 1) = false := beq_eq_false_iff_ne.2 (by omega)
   have q2 : (k == 2) = false := beq_eq_false_iff_ne.2 (by omega)
   have q3 : (k == 3) = true := beq_iff_eq.2 hk3
   go_enter Tryz.func128,Tryz.ntmps128
   go_wp2_with fail
   refine C0.out.mono ?_
   rintro e u0 ⟨⟨p,bo,rfl,hp,hR⟩,b0⟩
   have HR0 : Hid (Rs w p bs s0 u0) := Lib.hid ⟨⟨bo,m,m,hR⟩,hp,b0⟩
   clear hp hR b0 C0
   go_wp2_with fail
   refine (rs_num HR0.out HK.out).mono ?_
   rintro e u1 ⟨rfl,h1,-⟩
   have HR1 := Lib.hid h1
   clear h1 HR0
   go_wp2_with fail
   refine (rs_end HR1.out He.out).mono ?_
   rintro e u2 ⟨rfl,h1,-⟩
   have HR2 := Lib.hid h1
   clear h1 HR1
   go_wp2_with fail
   go_ret
   exact HN.out _ HR2.out.2.2
 by_cases hk4 : k = 4
 ·
  obtain ⟨t,s1t,ht⟩ : ∃ x y,rNum bs s1 = (x,y) := ⟨_,_,rfl⟩
  have Jt := Lib.hid ht
  obtain ⟨v,s1tv,hv⟩ : ∃ x y,rNum bs s1t = (x,y) := ⟨_,_,rfl⟩
  have Jv := Lib.hid hv
  obtain ⟨er,sz,he⟩ : ∃ x y,rEnd bs s1tv = (x,y) := ⟨_,_,rfl⟩
  have He := Lib.hid he
  have hps : parse bs = if er = 0 then some (.vot t v) else none := by
   rw [HPa.out,if_neg (by omega),if_neg (by omega),if_neg (by omega),if_pos hk4]
   unfold parseV fin
   simp only [ht,hv,he]
  have ft := rNumFit ht
  have fv := rNumFit hv
  clear he ht hv
  by_cases z : er = 0
  ·
   have HT : Hid (take s bs = voteS s t v) := Lib.hid (by unfold take; rw [hps,if_pos z]; rfl)
   subst z
   clear hps HNo
   have q1 : (k == 1) = false := beq_eq_false_iff_ne.2 (by omega)
   have q2 : (k == 2) = false := beq_eq_false_iff_ne.2 (by omega)
   have q3 : (k == 3) = false := beq_eq_false_iff_ne.2 (by omega)
   have q4 : (k == 4) = true := beq_iff_eq.2 hk4
   go_enter Tryz.func128,Tryz.ntmps128
   go_wp2_with fail
   refine C0.out.mono ?_
   rintro e u0 ⟨⟨p,bo,rfl,hp,hR⟩,b0⟩
   have HR0 : Hid (Rs w p bs s0 u0) := Lib.hid ⟨⟨bo,m,m,hR⟩,hp,b0⟩
   clear hp hR b0 C0
   go_wp2_with fail
   refine (rs_num HR0.out HK.out).mono ?_
   rintro e u1 ⟨rfl,h1,-⟩
   have HR1 := Lib.hid h1
   clear h1 HR0
   go_wp2_with fail
   refine (rs_num HR1.out Jt.out).mono ?_
   rintro e u2 ⟨rfl,h1,-⟩
   have HR2 := Lib.hid h1
   clear h1 HR1
   go_wp2_with fail
   refine (rs_num HR2.out Jv.out).mono ?_
   rintro e u3 ⟨rfl,h1,-⟩
   have HR3 := Lib.hid h1
   clear h1 HR2
   go_wp2_with fail
   refine (rs_end HR3.out He.out).mono ?_
   rintro e u4 ⟨rfl,h1,-⟩
   have HR4 := Lib.hid h1
   clear h1 HR3
   go_wp2_with fail
   refine (sg_vote (HI.out.below HR4.out.2.2) t v ft fv).mono ?_
   rintro e uz hz
   have HZ := Lib.hid (hz.since HR4.out.2.2)
   obtain ⟨rfl,-,-⟩ := hz
   go_wp2_with fail
   go_ret
   rw [HT.out]
   exact HZ.out
  ·
   have HN := Lib.hid (HNo.out (by unfold take; rw [hps,if_neg z]; rfl))
   have qe : (er == 0) = false := beq_eq_false_iff_ne.2 z
   clear hps HNo z
   have q1 : (k == 1) = false := beq_eq_false_iff_ne.2 (by omega)
   have q2 : (k == 2) = false := beq_eq_false_iff_ne.2 (by omega)
   have q3 : (k == 3) = false := beq_eq_false_iff_ne.2 (by omega)
   have q4 : (k == 4) = true := beq_iff_eq.2 hk4
   go_enter Tryz.func128,Tryz.ntmps128
   go_wp2_with fail
   refine C0.out.mono ?_
   rintro e u0 ⟨⟨p,bo,rfl,hp,hR⟩,b0⟩
   have HR0 : Hid (Rs w p bs s0 u0) := Lib.hid ⟨⟨bo,m,m,hR⟩,hp,b0⟩
   clear hp hR b0 C0
   go_wp2_with fail
   refine (rs_num HR0.out HK.out).mono ?_
   rintro e u1 ⟨rfl,h1,-⟩
   have HR1 := Lib.hid h1
   clear h1 HR0
   go_wp2_with fail
   refine (rs_num HR1.out Jt.out).mono ?_
   rintro e u2 ⟨rfl,h1,-⟩
   have HR2 := Lib.hid h1
   clear h1 HR1
   go_wp2_with fail
   refine (rs_num HR2.out Jv.out).mono ?_
   rintro e u3 ⟨rfl,h1,-⟩
   have HR3 := Lib.hid h1
   clear h1 HR2
   go_wp2_with fail
   refine (rs_end HR3.out He.out).mono ?_
   rintro e u4 ⟨rfl,h1,-⟩
   have HR4 := Lib.hid h1
   clear h1 HR3
   go_wp2_with fail
   go_ret
   exact HN.out _ HR4.out.2.2
 by_cases hk5 : k = 5
 ·
  obtain ⟨t,s1t,ht⟩ : ∃ x y,rNum bs s1 = (x,y) := ⟨_,_,rfl⟩
  have Jt := Lib.hid ht
  obtain ⟨er,sz,he⟩ : ∃ x y,rEnd bs s1t = (x,y) := ⟨_,_,rfl⟩
  have He := Lib.hid he
  have hps : parse bs = if er = 0 then some (.cut t) else none := by
   rw [HPa.out,if_neg (by omega),if_neg (by omega),if_neg (by omega),if_neg (by omega),if_pos hk5]
   unfold parseC fin
   simp only [ht,he]
  have ft := rNumFit ht
  clear he ht
  by_cases z : er = 0
  ·
   have HT : Hid (take s bs = cutS s t) := Lib.hid (by unfold take; rw [hps,if_pos z]; rfl)
   subst z
   clear hps HNo
   have q1 : (k == 1) = false := beq_eq_false_iff_ne.2 (by omega)
   have q2 : (k == 2) = false := beq_eq_false_iff_ne.2 (by omega)
   have q3 : (k == 3) = false := beq_eq_false_iff_ne.2 (by omega)
   have q4 : (k == 4) = false := beq_eq_false_iff_ne.2 (by omega)
   have q5 : (k == 5) = true := beq_iff_eq.2 hk5
   go_enter Tryz.func128,Tryz.ntmps128
   go_wp2_with fail
   refine C0.out.mono ?_
   rintro e u0 ⟨⟨p,bo,rfl,hp,hR⟩,b0⟩
   have HR0 : Hid (Rs w p bs s0 u0) := Lib.hid ⟨⟨bo,m,m,hR⟩,hp,b0⟩
   clear hp hR b0 C0
   go_wp2_with fail
   refine (rs_num HR0.out HK.out).mono ?_
   rintro e u1 ⟨rfl,h1,-⟩
   have HR1 := Lib.hid h1
   clear h1 HR0
   go_wp2_with fail
   refine (rs_num HR1.out Jt.out).mono ?_
   rintro e u2 ⟨rfl,h1,-⟩
   have HR2 := Lib.hid h1
   clear h1 HR1
   go_wp2_with fail
   refine (rs_end HR2.out He.out).mono ?_
   rintro e u3 ⟨rfl,h1,-⟩
   have HR3 := Lib.hid h1
   clear h1 HR2
   go_wp2_with fail
   refine (sg_cut (HI.out.below HR3.out.2.2) t ft).mono ?_
   rintro e uz hz
   have HZ := Lib.hid (hz.since HR3.out.2.2)
   obtain ⟨rfl,-,-⟩ := hz
   go_wp2_with fail
   go_ret
   rw [HT.out]
   exact HZ.out
  ·
   have HN := Lib.hid (HNo.out (by unfold take; rw [hps,if_neg z]; rfl))
   have qe : (er == 0) = false := beq_eq_false_iff_ne.2 z
   clear hps HNo z
   have q1 : (k == 1) = false := beq_eq_false_iff_ne.2 (by omega)
   have q2 : (k == 2) = false := beq_eq_false_iff_ne.2 (by omega)
   have q3 : (k == 3) = false := beq_eq_false_iff_ne.2 (by omega)
   have q4 : (k == 4) = false := beq_eq_false_iff_ne.2 (by omega)
   have q5 : (k == 5) = true := beq_iff_eq.2 hk5
   go_enter Tryz.func128,Tryz.ntmps128
   go_wp2_with fail
   refine C0.out.mono ?_
   rintro e u0 ⟨⟨p,bo,rfl,hp,hR⟩,b0⟩
   have HR0 : Hid (Rs w p bs s0 u0) := Lib.hid ⟨⟨bo,m,m,hR⟩,hp,b0⟩
   clear hp hR b0 C0
   go_wp2_with fail
   refine (rs_num HR0.out HK.out).mono ?_
   rintro e u1 ⟨rfl,h1,-⟩
   have HR1 := Lib.hid h1
   clear h1 HR0
   go_wp2_with fail
   refine (rs_num HR1.out Jt.out).mono ?_
   rintro e u2 ⟨rfl,h1,-⟩
   have HR2 := Lib.hid h1
   clear h1 HR1
   go_wp2_with fail
   refine (rs_end HR2.out He.out).mono ?_
   rintro e u3 ⟨rfl,h1,-⟩
   have HR3 := Lib.hid h1
   clear h1 HR2
   go_wp2_with fail
   go_ret
   exact HN.out _ HR3.out.2.2
 have q1 : (k == 1) = false := beq_eq_false_iff_ne.2 hk1
 have q2 : (k == 2) = false := beq_eq_false_iff_ne.2 hk2
 have q3 : (k == 3) = false := beq_eq_false_iff_ne.2 hk3
 have q4 : (k == 4) = false := beq_eq_false_iff_ne.2 hk4
 have q5 : (k == 5) = false := beq_eq_false_iff_ne.2 hk5
 have HN := Lib.hid (HNo.out (by unfold take; rw [HPa.out,if_neg hk1,if_neg hk2,if_neg hk3,if_neg hk4,if_neg hk5]; rfl))
 clear HNo
 go_enter Tryz.func128,Tryz.ntmps128
 go_wp2_with fail
 refine C0.out.mono ?_
 rintro e u0 ⟨⟨p,bo,rfl,hp,hR⟩,b0⟩
 have HR0 : Hid (Rs w p bs s0 u0) := Lib.hid ⟨⟨bo,m,m,hR⟩,hp,b0⟩
 clear hp hR b0 C0
 go_wp2_with fail
 refine (rs_num HR0.out HK.out).mono ?_
 rintro e u1 ⟨rfl,h1,-⟩
 have HR1 := Lib.hid h1
 clear h1 HR0
 go_wp2_with fail
 go_ret
 exact HN.out _ HR1.out.2.2
end Go.Proofs.YtlmjeackfepllaaGreatDoor.Wl
namespace Go.Proofs.YtlmjeackfepllaaGreatDoor
open Go.RowKit
open Mem
def Fm.scanF : Nat → List UInt8 → Nat → List (List UInt8) × Nat
 | 0,_,i => ([],i)
 | n + 1,b,i => if (Fm.nextF (b.drop i)).2.2 = 0 then ((Fm.nextF (b.drop i)).1 :: (Fm.scanF n b (i + (Fm.nextF (b.drop i)).2.1)).1,(Fm.scanF n b (i + (Fm.nextF (b.drop i)).2.1)).2) else ([],i)
def Fm.scan (b : List UInt8) : List (List UInt8) × Nat := Fm.scanF (b.length + 1) b 0
theorem Fm.next_ok {f : List UInt8} (h : (Fm.nextF f).2.2 = 0) : 9 ≤ (Fm.nextF f).2.1 ∧ (Fm.nextF f).2.1 ≤ f.length ∧ (Fm.nextF f).1.length ≤ f.length := by
 unfold Fm.nextF at h ⊢
 split at h
 · cases h
 rename_i h0
 rw [if_neg h0]
 split at h
 · cases h
 rename_i h1
 rw [if_neg h1]
 split at h
 · cases h
 rename_i h2
 rw [if_neg h2]
 split at h
 · cases h
 rename_i h3
 rw [if_neg h3]
 refine ⟨?_,?_,?_⟩
 ·
  show 9 ≤ Crc.le (f.take 4) + 8
  omega
 ·
  show Crc.le (f.take 4) + 8 ≤ f.length
  omega
 ·
  show ((f.drop 4).take _).length ≤ f.length
  rw [List.length_take,List.length_drop]
  omega
namespace Sq
theorem info : (Tryz.prog.info? 59).map (fun i => (i.zero,i.size,i.bytes)) = some (some (.slice none 0 0),1,24) := by kernel_rfl
def val (q : Nat × List UInt8) : Value := .slice (some ⟨q.1,0,none⟩) q.2.length q.2.length
def Own (w : World) (B : Nat) (v : Value) (xs : List (Nat × List UInt8)) : Prop := w.ownsRow B 59 1 v xs.length (xs.map val)
theorem own_nil (w : World) (B : Nat) : Own w B (.slice none 0 0) [] := ⟨rfl,.inl ⟨rfl,rfl⟩⟩
theorem cell_one (u : World) (v : Value) (t : TypeId) (j : Nat) (z : Value) (h : [v][j]? = some z) : (u.alloc (.cells #[v] t)).cell? ((⟨u.heap.size,0,none⟩ : Addr).add j) = some z := by
 rcases j with _ | j
 ·
  simp only [List.getElem?_cons_zero,Option.some.injEq] at h
  subst h
  simp [Addr.add,go_sem]
 · simp at h
theorem app {ops : Array Oper} {rest : List Oper} {o : Oper} {a : Act} {Q : Exit → Act → World → Prop} (u : World) (q : Nat × List UInt8) (hgd : o.guard = none) (s t : Operand)
  (ho : o.op = .call { callee := .builtin .append,args := #[s,t],argTypes := #[126,126] }) (B : Nat) (v : Value) (xs : List (Nat × List UInt8)) (hs : a.eval s = v) (hown : Own u B v xs)
  (hx : a.eval t = .slice (some ⟨u.heap.size,0,none⟩) 1 1) (hm : xs.length ≤ 1000000000) (hB : B ≤ u.heap.size)
  (h : ∀ v' w1,Own w1 B v' (xs ++ [q]) → (u.alloc (.cells #[val q] 59)).grownBy w1 v.ownBlock → (v'.ownBlock = v.ownBlock ∨ v'.ownBlock = some (u.heap.size + 1)) → wpList Tryz.prog ops Q rest (a.put o.dst v') w1) :
  wpList Tryz.prog ops Q (o :: rest) a (u.alloc (.cells #[val q] 59)) := by
 obtain ⟨i0,hi,hz0,hz1,hz2⟩ := info_parts info
 have hmx : maxLen = 9223372036854775807 := rfl
 refine wpList_append_own_at (w := u.alloc (.cells #[val q] 59)) hgd s t 126 ho B 59 i0 (.slice none 0 0) 1 24 Tryz.underlying126 hi hz0 hz1 hz2 rfl (by omega) v xs.length (xs.map val) hs (World.ownsRow.alloc hown _) ⟨u.heap.size,0,none⟩ 1 1 [val q] hx rfl (cell_one u _ _) (fun z hz => by rw [List.mem_singleton.1 hz]; rfl) (by omega) (by omega) (by simp; omega) ?_
 intro v' w' h1 h2 _ h3
 rw [show (u.alloc (.cells #[val q] 59)).heap.size = u.heap.size + 1 by simp] at h3
 refine h v' w' ?_ h2 h3
 unfold Own
 rw [List.length_append,List.map_append]
 exact h1
theorem own_ge {w : World} {B : Nat} {v : Value} {xs : List (Nat × List UInt8)} (h : Own w B v xs) : ∀ k,v.ownBlock = some k → B ≤ k ∧ k < w.heap.size := fun k hk => World.ownsRow.lt h k hk
end Sq
structure Fm.ScI (w : World) (bs : List UInt8) (i : Nat) (t : Value) (gs : List (Nat × List UInt8)) (wr : World) : Prop where
 own : Sq.Own wr w.heap.size t gs
 each : ∀ q ∈ gs,By.Block wr q.1 q.2 ∧ w.heap.size ≤ q.1 ∧ t.ownBlock ≠ some q.1
 bel : Below w.heap.size w wr
 le : i ≤ bs.length
 len : gs.length ≤ i
 told : ∃ n,bs.length < n + i ∧ Fm.scan bs = (gs.map Prod.snd ++ (Fm.scanF n bs i).1,(Fm.scanF n bs i).2)
theorem Fm.sc_start (w : World) (bs : List UInt8) : Fm.ScI w bs 0 (.slice none 0 0) [] w :=
 ⟨Sq.own_nil _ _,fun q hq => (by cases hq),Below.refl _ _,Nat.zero_le _,Nat.le_refl _,⟨bs.length + 1,by omega,rfl⟩⟩
def Fm.ScanE (w : World) (bs : List UInt8) (e : Ending) (w' : World) : Prop := ∃ (t : Value) (gs : List (Nat × List UInt8)),e = .returned (.tuple #[t,.int .i64 ((Fm.scan bs).2 : Nat)]) ∧ Sq.Own w' w.heap.size t gs ∧ gs.map Prod.snd = (Fm.scan bs).1 ∧ (∀ q ∈ gs,By.Block w' q.1 q.2 ∧ w.heap.size ≤ q.1 ∧ t.ownBlock ≠ some q.1) ∧ Below w.heap.size w w'
theorem Fm.ScI.done {w wr wx : World} {bs : List UInt8} {i : Nat} {t : Value} {gs : List (Nat × List UInt8)} (h : Fm.ScI w bs i t gs wr) (b : Below wr.heap.size wr wx) (he : (Fm.nextF (bs.drop i)).2.2 ≠ 0) : Fm.ScanE w bs (.returned (.tuple #[t,.int .i64 (i : Int)])) wx := by
 obtain ⟨n,hn,ht⟩ := h.told
 have e : Fm.scanF n bs i = ([],i) := by
  cases n with
  | zero => rfl
  | succ n => rw [Fm.scanF,if_neg he]
 rw [e] at ht
 simp only [List.append_nil] at ht
 refine ⟨t,gs,by rw [ht],?_,by rw [ht],fun q hq => ?_,bchain h.bel b⟩
 · exact rows_keep h.own fun g hg => b.block g (World.ownsRow.lt h.own g hg).2
 ·
  obtain ⟨h1,h2,h3⟩ := h.each q hq
  exact ⟨h1.below b,h2,h3⟩
theorem Fm.ScI.more {w wr wx wy : World} {bs : List UInt8} {i : Nat} {t t' : Value} {gs : List (Nat × List UInt8)} (h : Fm.ScI w bs i t gs wr) (b : Below wr.heap.size wr wx) (he : (Fm.nextF (bs.drop i)).2.2 = 0) {g : Nat} (hg : wr.heap.size ≤ g) (hb : By.Block wx g (Fm.nextF (bs.drop i)).1) (o : Sq.Own wy w.heap.size t' (gs ++ [(g,(Fm.nextF (bs.drop i)).1)])) (gr : (wx.alloc (.cells #[Sq.val (g,(Fm.nextF (bs.drop i)).1)] 59)).grownBy wy t.ownBlock) (hat : t'.ownBlock = t.ownBlock ∨ t'.ownBlock = some (wx.heap.size + 1)) : Fm.ScI w bs (i + (Fm.nextF (bs.drop i)).2.1) t' (gs ++ [(g,(Fm.nextF (bs.drop i)).1)]) wy := by
 obtain ⟨n1,n2,n3⟩ := Fm.next_ok he
 rw [List.length_drop] at n2
 have hile := h.le
 have hto : ∀ c,t.ownBlock = some c → c < wr.heap.size := fun c e => (World.ownsRow.lt h.own c e).2
 have hblk : ∀ c,c < wx.heap.size → t.ownBlock ≠ some c → wy.heap[c]? = wx.heap[c]? := fun c hc hne => by
  have h1 := gr.block c (by simp; omega) (fun z => hne z.symm)
  rw [h1]
  exact (((Below.refl wx.heap.size wx).alloc (Nat.le_refl _) _).block c hc)
 refine ⟨o,fun q hq => ?_,?_,by omega,?_,?_⟩
 ·
  rcases List.mem_append.1 hq with hq | hq
  ·
   obtain ⟨h1,h2,h3⟩ := h.each q hq
   have hl := Nat.lt_of_lt_of_le h1.lt b.size
   refine ⟨(hblk q.1 hl h3).trans (h1.below b),h2,fun z => ?_⟩
   rcases hat with z2 | z2
   · exact h3 (z2 ▸ z)
   ·
    rw [z2] at z
    have : wx.heap.size + 1 = q.1 := Option.some.inj z
    omega
  ·
   rw [List.mem_singleton.1 hq]
   have hne : t.ownBlock ≠ some g := fun z => by
    have := hto g z
    omega
   refine ⟨(hblk g hb.lt hne).trans hb,Nat.le_trans h.bel.size hg,fun z => ?_⟩
   rcases hat with z2 | z2
   · exact hne (z2 ▸ z)
   ·
    rw [z2] at z
    have : wx.heap.size + 1 = g := Option.some.inj z
    have := hb.lt
    omega
 ·
  have h1 := bchain h.bel b
  exact (h1.alloc h1.size _).grown gr (by have := h1.size; simp; omega) fun c e => (World.ownsRow.lt h.own c e).1
 ·
  rw [List.length_append,List.length_singleton]
  have := h.len
  omega
 ·
  obtain ⟨n,hn,ht⟩ := h.told
  cases n with
  | zero => omega
  | succ n =>
   refine ⟨n,by omega,?_⟩
   rw [ht,Fm.scanF,if_pos he,List.map_append,List.append_assoc]
   rfl
end Go.Proofs.YtlmjeackfepllaaGreatDoor
