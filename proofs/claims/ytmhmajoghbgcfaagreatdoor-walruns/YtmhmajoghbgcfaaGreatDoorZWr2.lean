import Derived.Maps.AppendAt
import Derived.Laws.AppendOwnNone
import Derived.Laws.Rows
import Derived.Laws.CopyOwn
import Derived.Laws.MakeOwn
import Derived.Lib.QuietBelow
import Derived.Deep.RegionWith
import Derived.RegionTactic
import Derived.Test.YtmhmajoghbgcfaaGreatDoorZWr1
set_option maxRecDepth 100000
set_option linter.unusedVariables false
namespace Go.Proofs.YtmhmajoghbgcfaaGreatDoor
open Go.RowKit
open Mem
theorem fm_copied (ao : Option Addr) (n cap : Nat) (bs : List UInt8) (w : World) (hL : By.Ls w ao n cap bs) (hn : n ≤ 140737488355328) :
  Calls Tryz.prog 164 #[.slice ao n cap] w fun e w' => ∃ g,e = .returned (.slice (some ⟨g,0,none⟩) n n) ∧ By.Block w' g bs ∧ w.heap.size ≤ g ∧ Below w.heap.size w w' := by
 have hlen := hL.len
 have hmk := By.make n hn w
 obtain ⟨W2,hW2⟩ : ∃ W2,w.alloc (.cells (By.zeros n) 5) = W2 := ⟨_,rfl⟩
 have b2 : Below w.heap.size w W2 := hW2 ▸ (Below.refl _ _).alloc (Nat.le_refl _) _
 have hbl : By.Block W2 w.heap.size (List.replicate n 0) := hW2 ▸ By.block_made w _
 rw [hW2] at hmk
 obtain ⟨W3,hcp,hb3,hbel,hsz⟩ := By.copy W2 w.heap.size 0 [] [] n ao n cap bs (by simpa using hbl) rfl hlen (hL.seg.below b2) (some ⟨w.heap.size,0,none⟩) (fun _ => rfl)
 simp only [List.length_nil,Nat.add_zero] at hcp
 have HF : Hid (By.Block W3 w.heap.size bs ∧ Below w.heap.size w W3) := Lib.hid ⟨by simpa using hb3,hbel _ w b2 (Nat.le_refl _)⟩
 have hfit := hL.fits
 have hrch := hL.reach
 clear hL hlen hbl hb3 hbel hsz b2
 go_enter Tryz.func164,Tryz.ntmps164
 go_wp2
 go_ret
 exact ⟨_,rfl,HF.out.1,Nat.le_refl _,HF.out.2⟩
theorem Fm.or_at (m x p : Nat) (hp : ∃ i,p = 2 ^ i) (hm : m < p) (hx : m + x * p < 4294967296) : bits .or .u32 (m : Int) ((x : Int) * (p : Int)) = ((m + x * p : Nat) : Int) := by
 obtain ⟨i,rfl⟩ := hp
 have h1 := Nat.two_pow_add_eq_or_of_lt hm x
 have h2 := u32_or_nat m (x * 2 ^ i) (by omega) (by omega)
 rw [Int.natCast_mul] at h2
 rw [h2,Nat.or_comm,Nat.mul_comm x,← h1,Nat.add_comm]
set_option maxHeartbeats 2000000 in
theorem fm_read (g off n cap : Nat) (a b c d : UInt8) (w : World) (h0 : w.cell? ⟨g,off,none⟩ = some (.int .u8 (a.toNat : Int))) (h1 : w.cell? ⟨g,off + 1,none⟩ = some (.int .u8 (b.toNat : Int))) (h2 : w.cell? ⟨g,off + 2,none⟩ = some (.int .u8 (c.toNat : Int))) (h3 : w.cell? ⟨g,off + 3,none⟩ = some (.int .u8 (d.toNat : Int))) (hn : 4 ≤ n) (hc : n ≤ cap) (hr : cap ≤ 9223372036854775807) :
  Calls Tryz.prog 162 #[.slice (some ⟨g,off,none⟩) n cap] w fun e w' => e = .returned (.int .u32 (Crc.le [a,b,c,d] : Nat)) ∧ w' = w := by
 have ha := a.toNat_lt
 have hb := b.toNat_lt
 have hcc := c.toNat_lt
 have hd := d.toNat_lt
 go_enter Tryz.func162,Tryz.ntmps162
 go_wp2
 go_loop [3,4,5] (fun t _ j => ∃ k m : Nat,k ≤ 4 ∧ j = .int .i64 k ∧ t = .int .u32 m ∧ Hid (m = Crc.le ([a,b,c,d].take k))) (fun _ _ j => 4 - (intOf j).toNat)
 case atStart => exact ⟨0,0,by omega,rfl,rfl,Lib.hid rfl⟩
 case round =>
  obtain ⟨k,m,hk,rfl,rfl,HM⟩ := hrel
  rcases (by omega : k = 0 ∨ k = 1 ∨ k = 2 ∨ k = 3 ∨ k = 4) with rfl | rfl | rfl | rfl | rfl
  ·
   have e : m = 0 := HM.out
   subst e
   have hor := Fm.or_at 0 a.toNat 1 ⟨0,rfl⟩ (by omega) (by omega)
   simp only [Int.natCast_one,Int.mul_one,Nat.mul_one,Nat.zero_add] at hor
   go_wp2
   go_round
   case rel => exact ⟨1,a.toNat,by omega,by go_num,by go_num,Lib.hid rfl⟩
   case measure => simp [intOf]
  ·
   have e : m = a.toNat + 256 * 0 := HM.out
   have hor : bits .or .u32 (m : Int) ((b.toNat : Int) * 256) = ((m + b.toNat * 256 : Nat) : Int) := Fm.or_at m b.toNat 256 ⟨8,rfl⟩ (by omega) (by omega)
   have HE := Lib.hid e
   clear e
   go_wp2
   go_round
   case rel => exact ⟨2,m + b.toNat * 256,by omega,by go_num,by go_num,Lib.hid (by rw [HE.out]; show _ = a.toNat + 256 * (b.toNat + 256 * 0); omega)⟩
   case measure => simp [intOf]
  ·
   have e : m = a.toNat + 256 * (b.toNat + 256 * 0) := HM.out
   have hor : bits .or .u32 (m : Int) ((c.toNat : Int) * 65536) = ((m + c.toNat * 65536 : Nat) : Int) := Fm.or_at m c.toNat 65536 ⟨16,rfl⟩ (by omega) (by omega)
   have HE := Lib.hid e
   clear e
   go_wp2
   go_round
   case rel => exact ⟨3,m + c.toNat * 65536,by omega,by go_num,by go_num,Lib.hid (by rw [HE.out]; show _ = a.toNat + 256 * (b.toNat + 256 * (c.toNat + 256 * 0)); omega)⟩
   case measure => simp [intOf]
  ·
   have e : m = a.toNat + 256 * (b.toNat + 256 * (c.toNat + 256 * 0)) := HM.out
   have hor : bits .or .u32 (m : Int) ((d.toNat : Int) * 16777216) = ((m + d.toNat * 16777216 : Nat) : Int) := Fm.or_at m d.toNat 16777216 ⟨24,rfl⟩ (by omega) (by omega)
   have HE := Lib.hid e
   clear e
   go_wp2
   go_round
   case rel => exact ⟨4,m + d.toNat * 16777216,by omega,by go_num,by go_num,Lib.hid (by rw [HE.out]; show _ = a.toNat + 256 * (b.toNat + 256 * (c.toNat + 256 * (d.toNat + 256 * 0))); omega)⟩
   case measure => simp [intOf]
  ·
   have HE : Hid (m = Crc.le [a,b,c,d]) := HM
   go_wp2
   go_ret
   exact ⟨by rw [HE.out]; rfl,rfl⟩
def Fm.over (bs xs : List UInt8) (o : Nat) : List UInt8 := bs.take o ++ xs ++ bs.drop (o + xs.length)
theorem Fm.over_len {bs xs : List UInt8} {o : Nat} (h : o + xs.length ≤ bs.length) : (Fm.over bs xs o).length = bs.length := by
 unfold Fm.over
 rw [List.length_append,List.length_append,List.length_take,List.length_drop]
 omega
theorem Fm.over_snoc {bs xs : List UInt8} {o : Nat} {y : UInt8} (h : o + xs.length < bs.length) : (Fm.over bs xs o).set (o + xs.length) y = Fm.over bs (xs ++ [y]) o := by
 unfold Fm.over
 have hl : (bs.take o ++ xs).length = o + xs.length := by
  rw [List.length_append,List.length_take]
  omega
 rw [List.set_append_right _ _ (by omega),hl,Nat.sub_self,List.drop_eq_getElem_cons h,List.set_cons_zero,List.length_append,List.length_singleton,← Nat.add_assoc,List.append_assoc,List.append_assoc,List.append_assoc,List.singleton_append]
set_option maxHeartbeats 4000000 in
theorem fm_write (g off n cap v : Nat) (bs : List UInt8) (w : World) (hB : By.Block w g bs) (ho : off + 4 ≤ bs.length) (hn : 4 ≤ n) (hc : n ≤ cap) (hr : cap ≤ 9223372036854775807) (hv : v < 4294967296) :
  Calls Tryz.prog 178 #[.slice (some ⟨g,off,none⟩) n cap,.int .u32 (v : Int)] w fun e w' => e = .returned (.tuple #[]) ∧ By.Block w' g (Fm.over bs (Crc.four v) off) ∧ UpdQ (fun b => b = g) w w' := by
 have HB := Lib.hid hB
 clear hB
 have H0 : Hid (By.Block w g (Fm.over bs ((Crc.four v).take 0) off) ∧ UpdQ (fun b => b = g) w w) := Lib.hid ⟨by
  have e : Fm.over bs ((Crc.four v).take 0) off = bs := by
   unfold Fm.over
   simp
  rw [e]
  exact HB.out,UpdQ.refl _ _⟩
 have hl4 : (Crc.four v).length = 4 := rfl
 go_enter Tryz.func178,Tryz.ntmps178
 go_wp2
 go_loopw [4,5] (fun _ j wr => ∃ k : Nat,k ≤ 4 ∧ j = .int .i64 k ∧ Hid (By.Block wr g (Fm.over bs ((Crc.four v).take k) off) ∧ UpdQ (fun b => b = g) w wr)) (fun _ j _ => 4 - (intOf j).toNat)
 case atStart => exact ⟨0,by omega,rfl,H0⟩
 case round =>
  clear H0
  rename World => wz
  obtain ⟨k,hk,rfl,H⟩ := hrel
  by_cases hlt : k < 4
  ·
   have hlk : ((Crc.four v).take k).length = k := by rw [List.length_take,hl4]; omega
   have hov : (Fm.over bs ((Crc.four v).take k) off).length = bs.length := Fm.over_len (by rw [hlk]; omega)
   have hin : off + k < (Fm.over bs ((Crc.four v).take k) off).length := by omega
   obtain ⟨oc,c0⟩ : ∃ oc,wz.cell? ⟨g,off + k,none⟩ = some oc := ⟨_,H.out.1.row (off + k) hin⟩
   have f0 := H.out.1.frozen (off + k)
   have HN : Hid (∀ y,(Crc.four v)[k]? = some y → By.Block (wz.setCell ⟨g,off + k,none⟩ (By.bv y)) g (Fm.over bs ((Crc.four v).take (k + 1)) off) ∧ UpdQ (fun b => b = g) w (wz.setCell ⟨g,off + k,none⟩ (By.bv y))) := Lib.hid fun y hy => by
    obtain ⟨h4,e4⟩ := List.getElem?_eq_some_iff.1 hy
    have h1 := H.out.1.store (off + k) y
    have h2 := Fm.over_snoc (bs := bs) (xs := (Crc.four v).take k) (o := off) (y := y) (by rw [hlk]; omega)
    rw [hlk] at h2
    rw [h2] at h1
    rw [List.take_succ_eq_append_getElem h4,e4]
    exact ⟨h1,H.out.2.trans (UpdQ.set (Q := fun b => b = g) _ rfl _ _)⟩
   clear H hlk hov hin hl4
   rcases (by omega : k = 0 ∨ k = 1 ∨ k = 2 ∨ k = 3) with rfl | rfl | rfl | rfl
   ·
    have hb : By.bv (UInt8.ofNat (v)) = .int .u8 ((v : Int) % 256) := by
     unfold By.bv
     rw [UInt8.toNat_ofNat']
     congr 1
    have hn0 := HN.out (UInt8.ofNat (v)) rfl
    rw [hb] at hn0
    have HN0 := Lib.hid hn0
    clear hn0 hb HN
    rw [Nat.add_zero] at c0 f0 HN0
    go_wp2
    go_roundw
    case rel => exact ⟨1,by omega,by go_num,HN0⟩
    case measure => simp [intOf]
   ·
    have hb : By.bv (UInt8.ofNat (v / 256)) = .int .u8 ((v : Int) / 256 % 256) := by
     unfold By.bv
     rw [UInt8.toNat_ofNat']
     congr 1
    have hn0 := HN.out (UInt8.ofNat (v / 256)) rfl
    rw [hb] at hn0
    have HN0 := Lib.hid hn0
    clear hn0 hb HN
    go_wp2
    go_roundw
    case rel => exact ⟨2,by omega,by go_num,HN0⟩
    case measure => simp [intOf]
   ·
    have hb : By.bv (UInt8.ofNat (v / 65536)) = .int .u8 ((v : Int) / 65536 % 256) := by
     unfold By.bv
     rw [UInt8.toNat_ofNat']
     congr 1
    have hn0 := HN.out (UInt8.ofNat (v / 65536)) rfl
    rw [hb] at hn0
    have HN0 := Lib.hid hn0
    clear hn0 hb HN
    go_wp2
    go_roundw
    case rel => exact ⟨3,by omega,by go_num,HN0⟩
    case measure => simp [intOf]
   ·
    have hb : By.bv (UInt8.ofNat (v / 16777216)) = .int .u8 ((v : Int) / 16777216) := by
     unfold By.bv
     rw [UInt8.toNat_ofNat',Nat.mod_eq_of_lt (by omega)]
     congr 1
    have hn0 := HN.out (UInt8.ofNat (v / 16777216)) rfl
    rw [hb] at hn0
    have HN0 := Lib.hid hn0
    clear hn0 hb HN
    go_wp2
    go_roundw
    case rel => exact ⟨4,by omega,by go_num,HN0⟩
    case measure => simp [intOf]
  ·
   obtain rfl : k = 4 := by omega
   have HF : Hid (By.Block wz g (Fm.over bs (Crc.four v) off) ∧ UpdQ (fun b => b = g) w wz) := H
   go_wp2
   go_end0
   exact ⟨rfl,HF.out.1,HF.out.2⟩
end Go.Proofs.YtmhmajoghbgcfaaGreatDoor
namespace Go.Proofs.YtmhmajoghbgcfaaGreatDoor
open Go.RowKit
open Mem
def Fm.frame (p : List UInt8) : List UInt8 := Crc.four p.length ++ p ++ Crc.four (Crc.on 0 (Crc.four p.length ++ p))
def Fm.put (b p : List UInt8) : List UInt8 := if p.length = 0 ∨ 131072 < p.length then b else b ++ Fm.frame p
theorem Fm.four_len (n : Nat) : (Crc.four n).length = 4 := rfl
theorem Fm.over_at (a b c x : List UInt8) (h : b.length = x.length) : Fm.over (a ++ b ++ c) x a.length = a ++ x ++ c := by
 unfold Fm.over
 rw [show a ++ b ++ c = a ++ (b ++ c) from List.append_assoc _ _ _,List.take_left' rfl,← h,← List.drop_drop,List.drop_left' rfl,List.drop_left' rfl]
theorem Fm.seg_mid {w : World} {g : Nat} {a x c : List UInt8} {n : Nat} (h : By.Block w g (a ++ x ++ c)) (hn : n = a.length) : Seg w (some ⟨g,n,none⟩) x := by
 refine .inr ⟨g,n,rfl,fun k hk => ?_⟩
 have hi : n + k < (a ++ x ++ c).length := by
  rw [List.length_append,List.length_append]
  omega
 have h1 := h.row (n + k) hi
 have e : (a ++ x ++ c)[n + k] = x[k] := by
  rw [List.getElem_append_left (by rw [List.length_append]; omega),List.getElem_append_right (by omega)]
  congr 1
  omega
 rw [e] at h1
 exact h1
def Fm.PutE (w : World) (bs : List UInt8) (e : Ending) (w' : World) : Prop := ∃ g,e = .returned (.slice (some ⟨g,0,none⟩) bs.length bs.length) ∧ By.Block w' g bs ∧ w.heap.size ≤ g ∧ Below w.heap.size w w'
set_option maxHeartbeats 4000000 in
theorem fm_put (ao : Option Addr) (n cap : Nat) (bs : List UInt8) (po : Option Addr) (m pcap : Nat) (ps : List UInt8) (w : World) (hB : By.Ls w ao n cap bs) (hP : By.Ls w po m pcap ps) (hn : n ≤ 140737488000000) :
  Calls Tryz.prog 148 #[.slice ao n cap,.slice po m pcap] w (Fm.PutE w (Fm.put bs ps)) := by
 have hbl := hB.len
 have hpl := hP.len
 have b1 := hB.fits
 have b2 := hB.reach
 have p1 := hP.fits
 have p2 := hP.reach
 by_cases hbad : m = 0 ∨ 131072 < m
 ·
  have HE : Hid (Fm.put bs ps = bs) := Lib.hid (if_pos (by rw [← hpl]; exact hbad))
  have C := Lib.hid (fm_copied ao n cap bs w hB (by omega))
  have HL := Lib.hid hbl
  clear hB hP hbl hpl
  by_cases h0 : m = 0
  ·
   subst h0
   go_enter Tryz.func148,Tryz.ntmps148
   go_wp2_with (go_at_call 164; refine C.out.mono ?_; rintro e W1 ⟨g,rfl,h1,h2,h3⟩; have HF := Lib.hid (And.intro h1 (And.intro h2 h3)); clear h1 h2 h3 C)
   go_ret
   exact ⟨g,by rw [HE.out,← HL.out]; rfl,by rw [HE.out]; exact HF.out.1,HF.out.2.1,HF.out.2.2⟩
  ·
   have hbig : (131072 : Int) < (m : Int) := by omega
   have hq : ((m : Int) == 0) = false := by
    rw [beq_eq_false_iff_ne]
    omega
   go_enter Tryz.func148,Tryz.ntmps148
   go_wp2_with (go_at_call 164; refine C.out.mono ?_; rintro e W1 ⟨g,rfl,h1,h2,h3⟩; have HF := Lib.hid (And.intro h1 (And.intro h2 h3)); clear h1 h2 h3 C)
   go_ret
   exact ⟨g,by rw [HE.out,← HL.out]; rfl,by rw [HE.out]; exact HF.out.1,HF.out.2.1,HF.out.2.2⟩
 ·
  have hm0 : m ≠ 0 := fun z => hbad (.inl z)
  have hm1 : m ≤ 131072 := by omega
  have hq : ((m : Int) == 0) = false := by
   rw [beq_eq_false_iff_ne]
   omega
  have hsm : ¬ (131072 : Int) < (m : Int) := by omega
  obtain ⟨bd,hbd⟩ : ∃ bd,4 + m = bd := ⟨_,rfl⟩
  obtain ⟨e1,he1⟩ : ∃ e1,n + bd = e1 := ⟨_,rfl⟩
  obtain ⟨N,hN⟩ : ∃ N,e1 + 4 = N := ⟨_,rfl⟩
  have i1 : (4 : Int) + (m : Int) = (bd : Int) := by omega
  have i2 : (n : Int) + (bd : Int) = (e1 : Int) := by omega
  have i3 : (e1 : Int) + 4 = (N : Int) := by omega
  obtain ⟨fl,hfl⟩ : ∃ fl,N - n = fl := ⟨_,rfl⟩
  obtain ⟨f4,hf4⟩ : ∃ f4,fl - 4 = f4 := ⟨_,rfl⟩
  have hmk := By.make N (by omega) w
  obtain ⟨W1,hW1⟩ : ∃ W1,w.alloc (.cells (By.zeros N) 5) = W1 := ⟨_,rfl⟩
  have c1 : Below w.heap.size w W1 := hW1 ▸ (Below.refl _ _).alloc (Nat.le_refl _) _
  have hb1 : By.Block W1 w.heap.size (List.replicate N 0) := hW1 ▸ By.block_made w _
  rw [hW1] at hmk
  obtain ⟨g,hg⟩ : ∃ g,w.heap.size = g := ⟨_,rfl⟩
  have hrep : List.replicate N (0 : UInt8) = [] ++ List.replicate n 0 ++ List.replicate (bd + 4) 0 := by
   rw [List.nil_append,List.replicate_append_replicate]
   congr 1
   omega
  rw [hrep] at hb1
  obtain ⟨W2,hcp,hb2,hbel2,hsz2⟩ := By.copy W1 w.heap.size 0 [] (List.replicate (bd + 4) 0) N ao n cap bs hb1 rfl hbl (hB.seg.below c1) (some ⟨w.heap.size,0,none⟩) (fun _ => rfl)
  rw [List.length_replicate,show n + (bd + 4) = N by omega] at hcp
  have c2 : Below w.heap.size w W2 := hbel2 _ w c1 (Nat.le_refl _)
  have hb2' : By.Block W2 g (bs ++ List.replicate 4 0 ++ List.replicate (m + 4) 0) := by
   rw [List.append_assoc,List.replicate_append_replicate,show 4 + (m + 4) = bd + 4 by omega,← hg]
   exact hb2
  have CW1 := Lib.hid (fm_write g n fl fl m _ W2 hb2' (by rw [List.length_append,List.length_append,List.length_replicate,List.length_replicate]; omega) (by omega) (Nat.le_refl _) (by omega) (by omega))
  rw [show n = bs.length from hbl,Fm.over_at bs (List.replicate 4 0) (List.replicate (m + 4) 0) (Crc.four m) rfl,← hbl] at CW1
  have HC2 := Lib.hid c2
  have HBl := Lib.hid hbl
  have HPl := Lib.hid hpl
  have HG := Lib.hid hg
  have HPs := Lib.hid hP.seg
  have HPut : Hid (Fm.put bs ps = bs ++ Fm.frame ps) := Lib.hid (if_neg (by rw [← hpl]; omega))
  rw [hg] at hmk hcp
  have hNn : ¬ N = n := by omega
  have hnN : n ≤ N := by omega
  have hf4' : ¬ fl = 4 := by omega
  have h4f : 4 ≤ fl := by omega
  have hfb : ¬ fl = bd := by omega
  have hbf : bd ≤ fl := by omega
  have hmod : (m : Int) % 4294967296 = (m : Int) := by omega
  have hNb : N ≤ 140737488355328 := by omega
  have HAr : Hid (4 + m = bd ∧ n + bd = e1 ∧ e1 + 4 = N ∧ fl = bd + 4 ∧ f4 = m + 4) := Lib.hid ⟨hbd,he1,hN,by omega,by omega⟩
  clear hbad hB hP hb1 hb2 hb2' hbel2 hsz2 hrep c1 c2 hbl hpl hm0 hbd he1 hN hg
  go_enter Tryz.func148,Tryz.ntmps148
  go_wp2_with fail
  refine CW1.out.mono ?_
  rintro e W3 ⟨rfl,hb3,u3⟩
  obtain ⟨r1,r2,r3,r4,r5⟩ := HAr.out
  have c3 : Below w.heap.size w W3 := u3.below w HC2.out fun b z => by have := HG.out; omega
  rw [show m + 4 = m + 4 from rfl,← List.replicate_append_replicate,← List.append_assoc] at hb3
  obtain ⟨W4,hcp2,hb4,hbel4,hsz4⟩ := By.copy W3 g (n + 4) (bs ++ Crc.four m) (List.replicate 4 0) f4 po m pcap ps hb3 (by rw [List.length_append,Fm.four_len,← HBl.out]) HPl.out (HPs.out.below c3) (some ⟨g,n + 4,none⟩) (fun _ => rfl)
  rw [List.length_replicate,show m + 4 = f4 by omega] at hcp2
  have c4 : Below w.heap.size w W4 := hbel4 _ w c3 (by have := HG.out; omega)
  have HB4 := Lib.hid hb4
  have HC4 := Lib.hid c4
  have hl4 : (Crc.four m ++ ps).length = bd := by
   rw [List.length_append,Fm.four_len,← HPl.out]
   exact r1
  obtain ⟨sv,hsv⟩ : ∃ sv,Crc.on 0 (Crc.four m ++ ps) = sv := ⟨_,rfl⟩
  have hsvl : sv < 4294967296 := hsv ▸ Crc.on_lt 0 _ (by omega)
  have hseg : Seg W4.drew (some ⟨g,n,none⟩) (Crc.four m ++ ps) := Fm.seg_mid (a := bs) (c := List.replicate 4 0) (by rw [← List.append_assoc]; exact hb4) HBl.out
  have CO := Lib.hid (of_one (Crc.four m ++ ps) (some ⟨g,n,none⟩) bd fl W4.heap.size W4.drew rfl hseg hl4.symm (by omega))
  rw [hsv] at CO
  have HCW : Hid (∀ u,Below W4.heap.size W4 u → Calls Tryz.prog 178 #[.slice (some ⟨g,n + bd,none⟩) 4 4,.int .u32 (sv : Int)] u fun e w' => e = .returned (.tuple #[]) ∧ By.Block w' g (Fm.put bs ps) ∧ Below w.heap.size w w') := Lib.hid fun u b => by
   have hbu : By.Block u g ((bs ++ Crc.four m ++ ps) ++ List.replicate 4 0 ++ []) := by
    rw [List.append_nil]
    exact HB4.out.below b
   have hlen : (bs ++ Crc.four m ++ ps).length = n + bd := by
    rw [List.append_assoc,List.length_append,hl4,← HBl.out]
   refine (fm_write g (n + bd) 4 4 sv _ u hbu (by rw [List.append_nil,List.length_append,hlen,List.length_replicate]; omega) (Nat.le_refl _) (Nat.le_refl _) (by omega) hsvl).mono ?_
   rintro e w' ⟨rfl,hbw,uw⟩
   rw [← hlen,Fm.over_at _ (List.replicate 4 0) [] (Crc.four sv) rfl,List.append_nil] at hbw
   refine ⟨rfl,?_,uw.below w (bchain HC4.out b) fun c z => by have := HG.out; omega⟩
   rw [HPut.out]
   unfold Fm.frame
   rw [← HPl.out,hsv,← List.append_assoc,← List.append_assoc]
   exact hbw
  have hfb4 : fl - bd = 4 := by omega
  have HPL : Hid ((Fm.put bs ps).length = N) := Lib.hid (by
   rw [HPut.out]
   unfold Fm.frame
   rw [List.length_append,List.length_append,← HPl.out,hl4,Fm.four_len,← HBl.out]
   omega)
  have HGe : Hid (w.heap.size ≤ g) := Lib.hid (by have := HG.out; omega)
  clear hb3 u3 c3 hb4 hbel4 hsz4 c4 hseg hsv CW1 HC2 HB4 hl4 HAr HPs r1 r2 r3 r4 r5
  go_wp2_with fail
  go_region_with (first | (go_at_call 163; refine CO.out.mono ?_; rintro e u ⟨rfl,hu⟩; rw [hu]; have CW2 := Lib.hid (HCW.out (W4.drew.alloc (.cells #[.slice (some ⟨g,n,none⟩) bd fl] 59)) (((Below.refl W4.heap.size W4).drew).alloc (Nat.le_refl _) _)); clear hu u CO) | (go_at_call 178; refine CW2.out.mono ?_; rintro e W6 ⟨rfl,hb6,c6⟩; have HB6 := Lib.hid hb6; have HC6 := Lib.hid c6; clear hb6 c6 CW2))
  all_goals
   go_wp2_with fail
   go_ret
   exact ⟨g,by rw [HPL.out]; rfl,HB6.out,HGe.out,HC6.out⟩
end Go.Proofs.YtmhmajoghbgcfaaGreatDoor
namespace Go.Proofs.YtmhmajoghbgcfaaGreatDoor
open Go.RowKit
open Mem
def Fm.nextF (f : List UInt8) : List UInt8 × Nat × Nat :=
 if f.length < 4 then ([],0,3) else if Crc.le (f.take 4) = 0 ∨ 131072 < Crc.le (f.take 4) then ([],0,4) else
 if f.length < Crc.le (f.take 4) + 8 then ([],0,3) else
 if Crc.on 0 (f.take (4 + Crc.le (f.take 4))) ≠ Crc.le ((f.drop (4 + Crc.le (f.take 4))).take 4) then ([],0,6) else
 ((f.drop 4).take (Crc.le (f.take 4)),Crc.le (f.take 4) + 8,0)
def Fm.NextE (w : World) (bs : List UInt8) (i : Int) (e : Ending) (w' : World) : Prop :=
 Below w.heap.size w w' ∧ (((i < 0 ∨ (bs.length : Int) < i) ∧ e = .returned (.tuple #[.slice none 0 0,.int .i64 0,.int .i64 1])) ∨
  ∃ k : Nat,i = (k : Int) ∧ k ≤ bs.length ∧ (((Fm.nextF (bs.drop k)).2.2 ≠ 0 ∧ e = .returned (.tuple #[.slice none 0 0,.int .i64 0,.int .i64 ((Fm.nextF (bs.drop k)).2.2 : Nat)])) ∨
   ((Fm.nextF (bs.drop k)).2.2 = 0 ∧ ∃ g,w.heap.size ≤ g ∧ By.Block w' g (Fm.nextF (bs.drop k)).1 ∧ e = .returned (.tuple #[.slice (some ⟨g,0,none⟩) (Fm.nextF (bs.drop k)).1.length (Fm.nextF (bs.drop k)).1.length,.int .i64 ((k + (Fm.nextF (bs.drop k)).2.1 : Nat) : Int),.int .i64 0]))))
theorem Fm.four_of {f : List UInt8} (h : 4 ≤ f.length) : ∃ a b c d : UInt8,f.take 4 = [a,b,c,d] ∧ f[0]? = some a ∧ f[1]? = some b ∧ f[2]? = some c ∧ f[3]? = some d := by
 match f,h with
 | a :: b :: c :: d :: l,_ => exact ⟨a,b,c,d,rfl,rfl,rfl,rfl,rfl⟩
theorem Fm.byte {w : World} {b off n cap : Nat} {bs : List UInt8} (h : By.Ls w (some ⟨b,off,none⟩) n cap bs) {i : Nat} {x : UInt8} (hx : bs[i]? = some x) : w.cell? ⟨b,off + i,none⟩ = some (.int .u8 (x.toNat : Int)) := by
 obtain ⟨hl,e⟩ := List.getElem?_eq_some_iff.1 hx
 have := h.row i hl
 rw [e] at this
 exact this
theorem Fm.part {w : World} {b off n cap : Nat} {bs : List UInt8} (h : By.Ls w (some ⟨b,off,none⟩) n cap bs) (k m c : Nat) (hk : k + m ≤ n) (hc : m ≤ c) (hr : c ≤ 9223372036854775807) : By.Ls w (some ⟨b,off + k,none⟩) m c ((bs.drop k).take m) := by
 have hl := h.len
 refine ⟨by rw [List.length_take,List.length_drop]; omega,hc,hr,(fun z => by cases z),.inr ⟨b,off + k,rfl,fun i hi => ?_⟩⟩
 rw [List.length_take,List.length_drop] at hi
 have h1 := h.row (k + i) (by omega)
 rw [List.getElem_take,List.getElem_drop,Nat.add_assoc]
 exact h1
set_option maxHeartbeats 8000000 in
theorem fm_next (ao : Option Addr) (n cap : Nat) (bs : List UInt8) (i : Int) (w : World) (hB : By.Ls w ao n cap bs) (hn : n ≤ 140737488355328) (hi : Fit i) :
  Calls Tryz.prog 127 #[.slice ao n cap,.int .i64 i] w (Fm.NextE w bs i) := by
 have hbl := hB.len
 have b1 := hB.fits
 have b2 := hB.reach
 obtain ⟨i1,i2⟩ := hi
 by_cases hout : i < 0 ∨ (n : Int) < i
 ·
  have HE : Hid (Fm.NextE w bs i (.returned (.tuple #[.slice none 0 0,.int .i64 0,.int .i64 1])) w) := Lib.hid ⟨Below.refl _ _,.inl ⟨by rw [← hbl]; exact hout,rfl⟩⟩
  clear hB hbl
  by_cases h0 : i < 0
  ·
   go_enter Tryz.func127,Tryz.ntmps127
   go_wp2
   go_ret3
   exact HE.out
  ·
   have h1 : (n : Int) < i := hout.resolve_left h0
   clear hout
   go_enter Tryz.func127,Tryz.ntmps127
   go_wp2
   go_ret3
   exact HE.out
 obtain ⟨k,rfl⟩ : ∃ k : Nat,i = (k : Int) := ⟨i.toNat,by omega⟩
 have hk : k ≤ n := by omega
 have hk0 : ¬ (k : Int) < 0 := by omega
 have hk1 : ¬ (n : Int) < (k : Int) := by omega
 have hfl : (bs.drop k).length = n - k := by rw [List.length_drop,hbl]
 obtain ⟨fl,hflv⟩ : ∃ fl,n - k = fl := ⟨_,rfl⟩
 rw [hflv] at hfl
 have HBad : Hid (∀ er : Nat,er ≠ 0 → (Fm.nextF (bs.drop k)).2.2 = er → ∀ u,Below w.heap.size w u → Fm.NextE w bs (k : Int) (.returned (.tuple #[.slice none 0 0,.int .i64 0,.int .i64 (er : Int)])) u) := Lib.hid fun er h0 he u hu => ⟨hu,.inr ⟨k,rfl,by omega,.inl ⟨by rw [he]; exact h0,by rw [he]⟩⟩⟩
 clear hout
 by_cases hsh : fl < 4
 ·
  have HE := Lib.hid (HBad.out 3 (by omega) (by unfold Fm.nextF; rw [if_pos (by omega)]) w (Below.refl _ _))
  have hsh' : (fl : Int) < 4 := by omega
  clear hB hbl HBad hfl
  by_cases hc : cap = k
  ·
   subst hc
   go_enter Tryz.func127,Tryz.ntmps127
   go_wp2
   go_ret3
   exact HE.out
  ·
   go_enter Tryz.func127,Tryz.ntmps127
   go_wp2
   go_ret3
   exact HE.out
 ·
  have hck : ¬ cap = k := by omega
  have hsh' : ¬ (fl : Int) < 4 := by omega
  obtain ⟨b,off,rfl⟩ := hB.at (by omega)
  obtain ⟨xa,xb,xc,xd,ht4,g0,g1,g2,g3⟩ := Fm.four_of (f := bs.drop k) (by omega)
  rw [List.getElem?_drop] at g0 g1 g2 g3
  have r0 := Fm.byte hB g0
  have r1 := Fm.byte hB g1
  have r2 := Fm.byte hB g2
  have r3 := Fm.byte hB g3
  obtain ⟨fc,hfc⟩ : ∃ fc,cap - k = fc := ⟨_,rfl⟩
  have CR := Lib.hid (fm_read b (off + k) fl fc xa xb xc xd w (by rw [Nat.add_zero] at r0; exact r0) (by rw [← Nat.add_assoc] at r1; exact r1) (by rw [← Nat.add_assoc] at r2; exact r2) (by rw [← Nat.add_assoc] at r3; exact r3) (by omega) (by omega) (by omega))
  rw [← ht4] at CR
  obtain ⟨nv,hnv⟩ : ∃ nv,Crc.le ((bs.drop k).take 4) = nv := ⟨_,rfl⟩
  rw [hnv] at CR
  have hnvb : nv < 4294967296 := by
   have h1 := Crc.le_lt ((bs.drop k).take 4)
   rw [List.length_take,hfl,Nat.min_eq_left (by omega),hnv,show 2 ^ (8 * 4) = 4294967296 from rfl] at h1
   exact h1
  clear r0 r1 r2 r3 g0 g1 g2 g3 ht4
  by_cases hz : nv = 0 ∨ 131072 < nv
  ·
   have HE := Lib.hid (HBad.out 4 (by omega) (by unfold Fm.nextF; rw [if_neg (by omega),if_pos (by rw [hnv]; exact hz)]) w (Below.refl _ _))
   clear hB hbl HBad hfl hnv
   by_cases h0 : nv = 0
   ·
    subst h0
    go_enter Tryz.func127,Tryz.ntmps127
    go_wp2_with (go_at_call 162; refine CR.out.mono ?_; rintro e u ⟨rfl,hu⟩; rw [hu]; clear hu u CR)
    go_ret3
    exact HE.out
   ·
    have h0' : ((nv : Int) == 0) = false := by
     rw [beq_eq_false_iff_ne]
     omega
    have h1' : (131072 : Int) < (nv : Int) := by omega
    clear hz
    go_enter Tryz.func127,Tryz.ntmps127
    go_wp2_with (go_at_call 162; refine CR.out.mono ?_; rintro e u ⟨rfl,hu⟩; rw [hu]; clear hu u CR)
    go_ret3
    exact HE.out
  have h0' : ((nv : Int) == 0) = false := by
   rw [beq_eq_false_iff_ne]
   omega
  have h1' : ¬ (131072 : Int) < (nv : Int) := by omega
  obtain ⟨bd,hbd⟩ : ∃ bd,4 + nv = bd := ⟨_,rfl⟩
  have hbi : (4 : Int) + (nv : Int) = (bd : Int) := by omega
  by_cases hs2 : fl < nv + 8
  ·
   have HE := Lib.hid (HBad.out 3 (by omega) (by unfold Fm.nextF; rw [if_neg (by omega),if_neg (by rw [hnv]; exact hz),if_pos (by rw [hnv,hfl]; exact hs2)]) w (Below.refl _ _))
   have hs2' : (fl : Int) < (bd : Int) + 4 := by omega
   clear hB hbl HBad hfl hnv hz
   go_enter Tryz.func127,Tryz.ntmps127
   go_wp2_with (go_at_call 162; refine CR.out.mono ?_; rintro e u ⟨rfl,hu⟩; rw [hu]; clear hu u CR)
   go_ret3
   exact HE.out
  ·
   have hs2' : ¬ (fl : Int) < (bd : Int) + 4 := by omega
   obtain ⟨ya,yb,yc,yd,ht5,g0,g1,g2,g3⟩ := Fm.four_of (f := (bs.drop k).drop bd) (by rw [List.length_drop]; omega)
   have hdd : (bs.drop k).drop bd = bs.drop (k + bd) := List.drop_drop
   rw [hdd,List.getElem?_drop] at g0 g1 g2 g3
   obtain ⟨sm,hsm⟩ : ∃ sm,Crc.le (((bs.drop k).drop bd).take 4) = sm := ⟨_,rfl⟩
   obtain ⟨tl2,htl2⟩ : ∃ tl2,fl - bd = tl2 := ⟨_,rfl⟩
   obtain ⟨tc2,htc2⟩ : ∃ tc2,fc - bd = tc2 := ⟨_,rfl⟩
   have HCR2 : Hid (∀ u,Below w.heap.size w u → Calls Tryz.prog 162 #[.slice (some ⟨b,off + k + bd,none⟩) tl2 tc2] u fun e w' => e = .returned (.int .u32 (sm : Nat)) ∧ w' = u) := Lib.hid fun u hu => by
    have hBu := hB.below hu
    have r0 := Fm.byte hBu g0
    have r1 := Fm.byte hBu g1
    have r2 := Fm.byte hBu g2
    have r3 := Fm.byte hBu g3
    have := fm_read b (off + k + bd) tl2 tc2 ya yb yc yd u (by rw [Nat.add_zero,← Nat.add_assoc] at r0; exact r0) (by rw [← Nat.add_assoc,← Nat.add_assoc] at r1; exact r1) (by rw [← Nat.add_assoc,← Nat.add_assoc] at r2; exact r2) (by rw [← Nat.add_assoc,← Nat.add_assoc] at r3; exact r3) (by omega) (by omega) (by omega)
    rw [← ht5,hsm] at this
    exact this
   obtain ⟨sv,hsv⟩ : ∃ sv,Crc.on 0 ((bs.drop k).take bd) = sv := ⟨_,rfl⟩
   have hpart := Fm.part hB k bd fc (by omega) (by omega) (by omega)
   have hseg : Seg w.drew (some ⟨b,off + k,none⟩) ((bs.drop k).take bd) := hpart.seg
   have CO := Lib.hid (of_one ((bs.drop k).take bd) (some ⟨b,off + k,none⟩) bd fc w.heap.size w.drew rfl hseg hpart.len (by omega))
   rw [hsv] at CO
   have HU1 : Hid (Below w.heap.size w (w.drew.alloc (.cells #[.slice (some ⟨b,off + k,none⟩) bd fc] 59))) := Lib.hid (((Below.refl w.heap.size w).drew).alloc (Nat.le_refl _) _)
   have CR2 := Lib.hid (HCR2.out _ HU1.out)
   have hcb : ¬ fc = bd := by omega
   have hbf : bd ≤ fl := by omega
   have hbc : bd ≤ fc := by omega
   have hfc4 : ¬ fc = 4 := by omega
   have h4b : 4 ≤ bd := by omega
   have hnx : (Fm.nextF (bs.drop k)) = if sv ≠ sm then ([],0,6) else (((bs.drop k).drop 4).take nv,nv + 8,0) := by
    unfold Fm.nextF
    rw [if_neg (by omega),if_neg (by rw [hnv]; exact hz),if_neg (by rw [hnv,hfl]; exact hs2),hnv,hbd,hsv,hsm]
   by_cases heq : sv = sm
   ·
    subst heq
    rw [if_neg (fun z => z rfl)] at hnx
    have hp2 := Fm.part hB (k + 4) nv (fc - 4) (by omega) (by omega) (by omega)
    obtain ⟨f4,hf4⟩ : ∃ f4,fc - 4 = f4 := ⟨_,rfl⟩
    have hb4 : bd - 4 = nv := by omega
    have HCC : Hid (∀ u,Below w.heap.size w u → Calls Tryz.prog 164 #[.slice (some ⟨b,off + k + 4,none⟩) nv f4] u fun e w' => ∃ g,e = .returned (.slice (some ⟨g,0,none⟩) nv nv) ∧ Fm.NextE w bs (k : Int) (.returned (.tuple #[.slice (some ⟨g,0,none⟩) nv nv,.int .i64 ((k : Int) + (bd : Int) + 4),.int .i64 0])) w') := Lib.hid fun u hu => by
     have hq := hp2.below hu
     rw [hf4,← Nat.add_assoc] at hq
     refine (fm_copied _ _ _ _ u hq (by omega)).mono ?_
     rintro e w' ⟨g,rfl,h1,h2,h3⟩
     refine ⟨g,rfl,bchain hu h3,.inr ⟨k,rfl,by omega,.inr ⟨by rw [hnx],g,Nat.le_trans hu.size h2,?_,?_⟩⟩⟩
     ·
      rw [hnx]
      simp only [List.drop_drop]
      exact h1
     ·
      rw [hnx]
      have hl2 : (((bs.drop k).drop 4).take nv).length = nv := by
       rw [List.length_take,List.length_drop,hfl]
       omega
      simp only [hl2]
      have e5 : ((k + (nv + 8) : Nat) : Int) = (k : Int) + (bd : Int) + 4 := by omega
      rw [e5]
    have CC := Lib.hid (HCC.out _ HU1.out)
    clear hB hbl HBad hfl hnv hz hsv hsm hnx hp2 hpart hseg HCR2 HCC ht5 g0 g1 g2 g3 hdd hbd hs2 HU1
    go_enter Tryz.func127,Tryz.ntmps127
    go_wp2_with (go_at_call 162; refine CR.out.mono ?_; rintro e u ⟨rfl,hu⟩; rw [hu]; clear hu u CR)
    go_region_with (first | (go_at_call 163; refine CO.out.mono ?_; rintro e u ⟨rfl,hu⟩; rw [hu]; clear hu u CO) | (go_at_call 162; refine CR2.out.mono ?_; rintro e u ⟨rfl,hu⟩; rw [hu]; clear hu u CR2))
    all_goals
     go_wp2_with (go_at_call 164; refine CC.out.mono ?_; rintro e W6 ⟨g,rfl,h6⟩; have HF := Lib.hid h6; clear h6 CC)
     go_ret3
     exact HF.out
   ·
    rw [if_pos heq] at hnx
    have hne : ((sv : Int) == (sm : Int)) = false := by
     rw [beq_eq_false_iff_ne]
     omega
    have hne2 : ((sv : Int) != (sm : Int)) = true := by rw [bne,hne]; rfl
    have hne3 : ¬ (sv : Int) = (sm : Int) := beq_eq_false_iff_ne.1 hne
    have HE := Lib.hid (HBad.out 6 (by omega) (by rw [hnx]) _ HU1.out)
    clear hB hbl HBad hfl hnv hz hsv hsm hnx hpart hseg HCR2 ht5 g0 g1 g2 g3 hdd hbd hs2 HU1
    go_enter Tryz.func127,Tryz.ntmps127
    go_wp2_with (go_at_call 162; refine CR.out.mono ?_; rintro e u ⟨rfl,hu⟩; rw [hu]; clear hu u CR)
    go_region_with (first | (go_at_call 163; refine CO.out.mono ?_; rintro e u ⟨rfl,hu⟩; rw [hu]; clear hu u CO) | (go_at_call 162; refine CR2.out.mono ?_; rintro e u ⟨rfl,hu⟩; rw [hu]; clear hu u CR2))
    all_goals
     go_wp2
     go_ret3
     exact HE.out
end Go.Proofs.YtmhmajoghbgcfaaGreatDoor
namespace Go.Proofs.YtmhmajoghbgcfaaGreatDoor.Et
open Go.RowKit
open Mem
structure T where
 term : Int
 mem : Int
 data : ByteArray
def val (r : T) : Value := .agg #[.int .i64 r.term,.int .i64 r.mem,.string r.data]
def Short (r : T) : Prop := Fit r.term ∧ Fit r.mem ∧ r.data.size ≤ 140737488355328
def box (w : World) (r : T) : World := w.alloc (.cells #[.int .i64 r.term,.int .i64 r.mem,.string r.data] 36)
def C (u : World) (b : Nat) (r : T) : Prop :=
 u.cell? ⟨b,0,none⟩ = some (.int .i64 r.term) ∧ u.cell? ⟨b,1,none⟩ = some (.int .i64 r.mem) ∧ u.cell? ⟨b,2,none⟩ = some (.string r.data)
theorem C.below {u v : World} {b : Nat} {r : T} (h : C u b r) (k : Below u.heap.size u v) : C v b r := by
 obtain ⟨h0,h1,h2⟩ := h
 have hl := cell_lt h0
 unfold C
 rw [(bcell k).1 _ _ hl,(bcell k).1 _ _ hl,(bcell k).1 _ _ hl]
 exact ⟨h0,h1,h2⟩
theorem c_box (w : World) (r : T) : C (box w r) w.heap.size r := by
 unfold box C
 simp [go_sem]
theorem below_own (w : World) (r : T) : Below w.heap.size w (box w r) := (Below.refl _ _).alloc (Nat.le_refl _) _
theorem boxed1 (w : World) (a : T) : ∃ W,w.alloc (.cells #[.int .i64 a.term,.int .i64 a.mem,.string a.data] 36) = W ∧ Below w.heap.size w W ∧ C W w.heap.size a :=
 ⟨_,rfl,below_own w a,c_box w a⟩
end Go.Proofs.YtmhmajoghbgcfaaGreatDoor.Et
namespace Go.Proofs.YtmhmajoghbgcfaaGreatDoor.Wl
open Pk
structure H where
 term : Int
 vote : Int
 base : Int
 bt : Int
 mem : Int
 snap : ByteArray
 log : List Et.T
def H.with (h : H) (l : List Et.T) : H := ⟨h.term,h.vote,h.base,h.bt,h.mem,h.snap,l⟩
def H.bare (h : H) : H := ⟨h.term,h.vote,h.base,h.bt,h.mem,.empty,h.log⟩
def within (n lo hi : Int) : Bool := decide (lo ≤ n) && decide (n ≤ hi)
def top : Int := 1099511627776
def headed (h : H) : Bool := within h.term 0 top && (within h.vote (-1) 6 && (within h.base 0 top && (within h.bt 0 h.term && (((h.bt == 0) == (h.base == 0)) && within h.mem 1 127))))
def last (h : H) : Int := h.base + (h.log.length : Int)
def lastTerm (h : H) : Int := (h.log.getLast?.map Et.T.term).getD h.bt
def fits (h : H) (e : Et.T) : Bool := decide (h.log.length < 200) && (decide (last h < top) && (within e.term (max 1 (lastTerm h)) h.term && (within e.mem 0 127 && (decide (e.data.size ≤ 1100) && ((e.mem == 0) || decide (e.data.size = 0))))))
def more (h : H) : List Et.T → Bool
 | [] => true
 | e :: l => fits h e && more (h.with (h.log ++ [e])) l
def snapOk (h : H) : Bool := (decide (h.snap.size = 0) == (h.base == 0)) && decide (h.snap.size ≤ 65536)
def right (h : H) : Bool := headed h && (snapOk h && more (h.with []) h.log)
inductive Rec where
 | beg (term vote base bt mem : Int)
 | ent (e : Et.T)
 | rdy
 | vot (term vote : Int)
 | cut (n : Int)
def Rec.Ok : Rec → Prop
 | .beg t v b c m => Fit t ∧ Fit v ∧ Fit b ∧ Fit c ∧ Fit m
 | .ent e => Fit e.term ∧ Fit e.mem ∧ e.data.size ≤ 1100
 | .rdy => True
 | .vot t v => Fit t ∧ Fit v
 | .cut n => Fit n
def pay : Rec → List UInt8
 | .beg t v b c m => nm 1 ++ (nm t ++ (nm v ++ (nm b ++ (nm c ++ nm m))))
 | .ent e => nm 2 ++ (nm e.term ++ (nm e.mem ++ tx e.data))
 | .rdy => nm 3
 | .vot t v => nm 4 ++ (nm t ++ nm v)
 | .cut n => nm 5 ++ nm n
def fin (bs : List UInt8) (s : St) (r : Rec) : Option Rec := if (rEnd bs s).1 = 0 then some r else none
def parseB (bs : List UInt8) (s : St) : Option Rec :=
 fin bs (rNum bs (rNum bs (rNum bs (rNum bs (rNum bs s).2).2).2).2).2 (.beg (rNum bs s).1 (rNum bs (rNum bs s).2).1 (rNum bs (rNum bs (rNum bs s).2).2).1 (rNum bs (rNum bs (rNum bs (rNum bs s).2).2).2).1 (rNum bs (rNum bs (rNum bs (rNum bs (rNum bs s).2).2).2).2).1)
def parseE (bs : List UInt8) (s : St) : Option Rec :=
 fin bs (rText bs 1100 (rNum bs (rNum bs s).2).2).2 (.ent ⟨(rNum bs s).1,(rNum bs (rNum bs s).2).1,(rText bs 1100 (rNum bs (rNum bs s).2).2).1⟩)
def parseV (bs : List UInt8) (s : St) : Option Rec := fin bs (rNum bs (rNum bs s).2).2 (.vot (rNum bs s).1 (rNum bs (rNum bs s).2).1)
def parseC (bs : List UInt8) (s : St) : Option Rec := fin bs (rNum bs s).2 (.cut (rNum bs s).1)
def parse (bs : List UInt8) : Option Rec :=
 if (rNum bs s0).1 = 1 then parseB bs (rNum bs s0).2 else if (rNum bs s0).1 = 2 then parseE bs (rNum bs s0).2 else if (rNum bs s0).1 = 3 then fin bs (rNum bs s0).2 .rdy
 else if (rNum bs s0).1 = 4 then parseV bs (rNum bs s0).2 else if (rNum bs s0).1 = 5 then parseC bs (rNum bs s0).2 else none
theorem fit_small {n : Int} (h : 0 ≤ n) (k : n ≤ 1000) : Fit n := ⟨by omega,by omega⟩
theorem fin_ok {bs : List UInt8} {s : St} {r : Rec} (h : Rem bs s []) : fin bs s r = some r := if_pos (rem_end h)
theorem parse_pay {r : Rec} (h : r.Ok) : parse (pay r) = some r := by
 have h0 := rem_start (pay r)
 unfold parse
 cases r with
 | beg t v b c m =>
  obtain ⟨k1,k2,k3,k4,k5⟩ := h
  obtain ⟨e0,h1⟩ := fwd_num (n := 1) h0 (fit_small (by omega) (by omega))
  rw [if_pos e0]
  obtain ⟨e1,h2⟩ := fwd_num h1 k1
  obtain ⟨e2,h3⟩ := fwd_num h2 k2
  obtain ⟨e3,h4⟩ := fwd_num h3 k3
  obtain ⟨e4,h5⟩ := fwd_num h4 k4
  obtain ⟨e5,h6⟩ := fwd_num (r := []) (by rw [List.append_nil]; exact h5) k5
  unfold parseB
  rw [fin_ok h6,e1,e2,e3,e4,e5]
 | ent e =>
  obtain ⟨k1,k2,k3⟩ := h
  obtain ⟨e0,h1⟩ := fwd_num (n := 2) h0 (fit_small (by omega) (by omega))
  rw [if_neg (by omega),if_pos e0]
  obtain ⟨e1,h2⟩ := fwd_num h1 k1
  obtain ⟨e2,h3⟩ := fwd_num h2 k2
  obtain ⟨e3,h4⟩ := fwd_text (most := 1100) (r := []) (by rw [List.append_nil]; exact h3) (by omega) (by omega)
  unfold parseE
  rw [fin_ok h4,e1,e2,e3]
 | rdy =>
  obtain ⟨e0,h1⟩ := fwd_num (n := 3) (r := []) (by rw [List.append_nil]; exact h0) (fit_small (by omega) (by omega))
  rw [if_neg (by omega),if_neg (by omega),if_pos e0,fin_ok h1]
 | vot t v =>
  obtain ⟨k1,k2⟩ := h
  obtain ⟨e0,h1⟩ := fwd_num (n := 4) h0 (fit_small (by omega) (by omega))
  rw [if_neg (by omega),if_neg (by omega),if_neg (by omega),if_pos e0]
  obtain ⟨e1,h2⟩ := fwd_num h1 k1
  obtain ⟨e2,h3⟩ := fwd_num (r := []) (by rw [List.append_nil]; exact h2) k2
  unfold parseV
  rw [fin_ok h3,e1,e2]
 | cut n =>
  obtain ⟨e0,h1⟩ := fwd_num (n := 5) h0 (fit_small (by omega) (by omega))
  rw [if_neg (by omega),if_neg (by omega),if_neg (by omega),if_neg (by omega),if_pos e0]
  obtain ⟨e1,h2⟩ := fwd_num (r := []) (by rw [List.append_nil]; exact h1) h
  unfold parseC
  rw [fin_ok h2,e1]
structure Sg where
 h : H
 begun : Bool
 ready : Bool
def empty : Sg := ⟨⟨0,-1,0,0,0,.empty,[]⟩,false,false⟩
def Sg.with (s : Sg) (h : H) : Sg := ⟨h,s.begun,s.ready⟩
def beginS (s : Sg) (h : H) : Option Sg := if s.begun = true then none else if headed h = false then none else some ⟨h,true,s.ready⟩
def addS (s : Sg) (e : Et.T) : Option Sg := if s.begun = false then none else if fits s.h e = false then none else some (s.with (s.h.with (s.h.log ++ [e])))
def closeS (s : Sg) : Option Sg := if s.begun = false then none else if s.ready = true then none else some ⟨s.h,s.begun,true⟩
def H.vote' (h : H) (t v : Int) : H := ⟨t,v,h.base,h.bt,h.mem,h.snap,h.log⟩
def voteS (s : Sg) (t v : Int) : Option Sg :=
 if s.ready = false then none else if t < s.h.term then none else if t = s.h.term ∧ s.h.vote ≠ -1 then none else if headed (s.h.vote' t v) = false then none else some (s.with (s.h.vote' t v))
def cutS (s : Sg) (n : Int) : Option Sg := if s.ready = false then none else if within n s.h.base (last s.h) = false then none else some (s.with (s.h.with (s.h.log.take (n - s.h.base).toNat)))
def step (s : Sg) : Rec → Option Sg
 | .beg t v b c m => beginS s ⟨t,v,b,c,m,.empty,[]⟩
 | .ent e => addS s e
 | .rdy => closeS s
 | .vot t v => voteS s t v
 | .cut n => cutS s n
def take (s : Sg) (p : List UInt8) : Option Sg := (parse p).bind (step s)
def readF : Nat → Sg → List UInt8 → Sg × Nat
 | 0,s,_ => (s,0)
 | k + 1,s,bs => if (Fm.nextF bs).2.2 ≠ 0 then (s,0) else match take s (Fm.nextF bs).1 with
  | none => (s,0)
  | some s' => ((readF k s' (bs.drop (Fm.nextF bs).2.1)).1,(Fm.nextF bs).2.1 + (readF k s' (bs.drop (Fm.nextF bs).2.1)).2)
def read (bs : List UInt8) : Sg × Nat := readF (bs.length + 1) empty bs
def runAll (s : Sg) : List (List UInt8) → Sg
 | [] => s
 | p :: l => runAll ((take s p).getD s) l
def frames : List (List UInt8) → List UInt8
 | [] => []
 | p :: l => Fm.frame p ++ frames l
def ents (l : List Et.T) : List Rec := l.map .ent
def whole (h : H) : List Rec := .beg h.term h.vote h.base h.bt h.mem :: (ents h.log ++ [.rdy])
def begun : List Et.T → List Et.T → Nat
 | a :: l,b :: m => if a.term = b.term ∧ a.mem = b.mem ∧ a.data = b.data then begun l m + 1 else 0
 | _,_ => 0
def change (was h : H) : List Rec :=
 (if h.term ≠ was.term ∨ h.vote ≠ was.vote then [.vot h.term h.vote] else []) ++ ((if begun was.log h.log < was.log.length then [.cut (h.base + (begun was.log h.log : Int))] else []) ++ ents (h.log.drop (begun was.log h.log)))
def pays (l : List Rec) : List (List UInt8) := l.map pay
end Go.Proofs.YtmhmajoghbgcfaaGreatDoor.Wl
namespace Go.Proofs.YtmhmajoghbgcfaaGreatDoor.Et
open Go.RowKit
open Mem
structure At (u : World) (b o : Nat) (r : T) : Prop where
 c0 : u.cell? ⟨b,o,none⟩ = some (.int .i64 r.term)
 c1 : u.cell? ⟨b,o + 1,none⟩ = some (.int .i64 r.mem)
 c2 : u.cell? ⟨b,o + 2,none⟩ = some (.string r.data)
theorem At.below {u v : World} {b o : Nat} {r : T} (h : At u b o r) (k : Below u.heap.size u v) : At v b o r := by
 have hl := cell_lt h.c0
 exact ⟨by rw [(bcell k).1 _ _ hl]; exact h.c0,by rw [(bcell k).1 _ _ hl]; exact h.c1,by rw [(bcell k).1 _ _ hl]; exact h.c2⟩
def Seg (w : World) (ao : Option Addr) (rs : List T) : Prop := rs = [] ∨ ∃ b off,ao = some ⟨b,off,none⟩ ∧ ∀ (k : Nat) (hk : k < rs.length),At w b (off + k * 3) rs[k]
theorem Seg.below {w v : World} {ao : Option Addr} {rs : List T} (h : Seg w ao rs) (k : Below w.heap.size w v) : Seg v ao rs := by
 rcases h with h | ⟨b,off,e,h⟩
 · exact .inl h
 · exact .inr ⟨b,off,e,fun i hi => (h i hi).below k⟩
structure Ls (w : World) (ao : Option Addr) (n cap : Nat) (rs : List T) : Prop where
 len : n = rs.length
 fits : n ≤ cap
 reach : cap ≤ 9223372036854775807
 nil : ao = none → cap = 0
 seg : Seg w ao rs
 short : ∀ r ∈ rs,Short r
theorem Ls.below {w v : World} {ao : Option Addr} {n cap : Nat} {rs : List T} (h : Ls w ao n cap rs) (k : Below w.heap.size w v) : Ls v ao n cap rs :=
 ⟨h.len,h.fits,h.reach,h.nil,h.seg.below k,h.short⟩
theorem Ls.at {w : World} {ao : Option Addr} {n cap : Nat} {rs : List T} (h : Ls w ao n cap rs) (hn : 0 < n) : ∃ b off,ao = some ⟨b,off,none⟩ := by
 rcases h.seg with e | ⟨b,off,e,_⟩
 ·
  have := h.len
  rw [e] at this
  simp at this
  omega
 · exact ⟨b,off,e⟩
theorem Ls.row {w : World} {b off n cap : Nat} {rs : List T} (h : Ls w (some ⟨b,off,none⟩) n cap rs) (k : Nat) (hk : k < rs.length) : At w b (off + k * 3) rs[k] := by
 rcases h.seg with e | ⟨b',off',e,hs⟩
 ·
  subst e
  simp at hk
 ·
  cases e
  exact hs k hk
theorem ls_nil (w : World) : Ls w none 0 0 [] := ⟨rfl,Nat.le_refl _,by omega,fun _ => rfl,.inl rfl,by simp⟩
theorem und : Tryz.prog.underlying 28 = some (.slice (Tryz.prog.elem 28)) := by kernel_rfl
theorem size (u : World) : (sizeOf (Tryz.prog.elem 28)).run Tryz.prog u = .ok 3 u := by
 have h : (Tryz.prog.info? (Tryz.prog.elem 28)).map (·.size) = some 3 := by kernel_rfl
 obtain ⟨i,hi,hs⟩ := Option.map_eq_some_iff.1 h
 simp [sizeOf,typeInfo,hi,hs]
theorem Ls.to {w : World} {ao : Option Addr} {n cap : Nat} {rs : List T} (h : Ls w ao n cap rs) (k : Nat) (hk : k ≤ n) :
  (∀ u,(Instr.slice 28 (.slice ao n cap) none (some (.int .i64 (k : Int))) none).run Tryz.prog u = .ok (.slice ao k cap) u) ∧ Ls w ao k cap (rs.take k) := by
 have hl := h.len
 have hf := h.fits
 refine ⟨fun u => ?_,⟨by rw [List.length_take]; omega,by omega,h.reach,h.nil,?_,fun r hr => h.short r (List.mem_of_mem_take hr)⟩⟩
 ·
  rw [run_slice_h u 28 ao n cap und .i64 k (by omega) (by omega),size]
  have e : Option.map (fun x : Addr => x.add 0) ao = ao := by cases ao <;> simp [Addr.add]
  simp [Result.andThen,sliced,e]
 ·
  rcases h.seg with e | ⟨b,off,e,hc⟩
  · exact .inl (by rw [e]; simp)
  ·
   refine .inr ⟨b,off,e,fun j hj => ?_⟩
   rw [List.length_take] at hj
   rw [List.getElem_take]
   exact hc j (by omega)
theorem Ls.from {w : World} {ao : Option Addr} {n cap : Nat} {rs : List T} (h : Ls w ao n cap rs) (k : Nat) (hk : k ≤ n) :
  ∃ ao2 cap2,(∀ u,(Instr.slice 28 (.slice ao n cap) (some (.int .i64 (k : Int))) none none).run Tryz.prog u = .ok (.slice ao2 (n - k) cap2) u) ∧ Ls w ao2 (n - k) cap2 (rs.drop k) := by
 have hl := h.len
 have hf := h.fits
 refine ⟨if cap = k then ao else ao.map (·.add (k * 3)),cap - k,fun u => ?_,⟨by rw [List.length_drop]; omega,by omega,by have := h.reach; omega,?_,?_,fun r hr => h.short r (List.mem_of_mem_drop hr)⟩⟩
 ·
  rw [run_slice_l u 28 ao n cap und .i64 k (by omega) (by omega),size]
  simp [Result.andThen,sliced]
 ·
  by_cases e : cap = k
  · omega
  ·
   rw [if_neg e]
   cases ao with
   | none => have := h.nil rfl; omega
   | some a => exact fun k => by cases k
 ·
  by_cases hkn : k = n
  · exact .inl (List.drop_eq_nil_of_le (by omega))
  ·
   rcases h.seg with e | ⟨b,off,rfl,hc⟩
   · exact .inl (by rw [e]; simp)
   ·
    refine .inr ⟨b,off + k * 3,?_,fun j hj => ?_⟩
    ·
     rw [if_neg (by omega)]
     unfold Addr.add
     simp only [Option.map_some,Option.some.injEq]
     split
     ·
      rename_i e
      rw [e]
      rfl
     · rfl
    ·
     rw [List.length_drop] at hj
     rw [List.getElem_drop,show off + k * 3 + j * 3 = off + (k + j) * 3 by omega]
     exact hc (k + j) (by omega)
end Go.Proofs.YtmhmajoghbgcfaaGreatDoor.Et
namespace Go.Proofs.YtmhmajoghbgcfaaGreatDoor.Mem
structure Sl where
 ao : Option Addr
 n : Nat
 cap : Nat
end Go.Proofs.YtmhmajoghbgcfaaGreatDoor.Mem
namespace Go.Proofs.YtmhmajoghbgcfaaGreatDoor.Hd
open Go.RowKit
open Mem
structure T where
 term : Int
 vote : Int
 base : Int
 bt : Int
 mem : Int
 snap : ByteArray
 log : Sl
def val (r : T) : Value := .agg #[.int .i64 r.term,.int .i64 r.vote,.int .i64 r.base,.int .i64 r.bt,.int .i64 r.mem,.string r.snap,.slice r.log.ao r.log.n r.log.cap]
def box (w : World) (r : T) : World := w.alloc (.cells #[.int .i64 r.term,.int .i64 r.vote,.int .i64 r.base,.int .i64 r.bt,.int .i64 r.mem,.string r.snap,.slice r.log.ao r.log.n r.log.cap] 30)
def C (u : World) (b : Nat) (r : T) : Prop :=
 u.cell? ⟨b,0,none⟩ = some (.int .i64 r.term) ∧ u.cell? ⟨b,1,none⟩ = some (.int .i64 r.vote) ∧ u.cell? ⟨b,2,none⟩ = some (.int .i64 r.base) ∧ u.cell? ⟨b,3,none⟩ = some (.int .i64 r.bt) ∧ u.cell? ⟨b,4,none⟩ = some (.int .i64 r.mem) ∧ u.cell? ⟨b,5,none⟩ = some (.string r.snap) ∧ u.cell? ⟨b,6,none⟩ = some (.slice r.log.ao r.log.n r.log.cap)
theorem C.below {u v : World} {b : Nat} {r : T} (h : C u b r) (k : Below u.heap.size u v) : C v b r := by
 obtain ⟨h0,h1,h2,h3,h4,h5,h6⟩ := h
 have hl := cell_lt h0
 unfold C
 rw [(bcell k).1 _ _ hl,(bcell k).1 _ _ hl,(bcell k).1 _ _ hl,(bcell k).1 _ _ hl,(bcell k).1 _ _ hl,(bcell k).1 _ _ hl,(bcell k).1 _ _ hl]
 exact ⟨h0,h1,h2,h3,h4,h5,h6⟩
theorem c_box (w : World) (r : T) : C (box w r) w.heap.size r := by
 unfold box C
 simp [go_sem]
theorem below_own (w : World) (r : T) : Below w.heap.size w (box w r) := (Below.refl _ _).alloc (Nat.le_refl _) _
theorem boxed1 (w : World) (a : T) : ∃ W,w.alloc (.cells #[.int .i64 a.term,.int .i64 a.vote,.int .i64 a.base,.int .i64 a.bt,.int .i64 a.mem,.string a.snap,.slice a.log.ao a.log.n a.log.cap] 30) = W ∧ Below w.heap.size w W ∧ C W w.heap.size a :=
 ⟨_,rfl,below_own w a,c_box w a⟩
end Go.Proofs.YtmhmajoghbgcfaaGreatDoor.Hd
namespace Go.Proofs.YtmhmajoghbgcfaaGreatDoor
open Go.RowKit
open Mem
open Go.Sort (grow)
theorem wl_within (n lo hi : Int) (w : World) : Calls Tryz.prog 105 #[.int .i64 n,.int .i64 lo,.int .i64 hi] w fun e w' => e = .returned (.bool (Wl.within n lo hi)) ∧ w' = w := by
 by_cases h1 : lo ≤ n
 ·
  by_cases h2 : n ≤ hi
  ·
   have HE : Hid (Wl.within n lo hi = true) := Lib.hid (by unfold Wl.within; rw [decide_eq_true h1,decide_eq_true h2]; rfl)
   go_enter Tryz.func105,Tryz.ntmps105
   go_wp2
   go_ret
   exact ⟨ret_bool HE.out.symm,rfl⟩
  ·
   have HE : Hid (Wl.within n lo hi = false) := Lib.hid (by unfold Wl.within; rw [decide_eq_false h2,Bool.and_false])
   go_enter Tryz.func105,Tryz.ntmps105
   go_wp2
   go_ret
   exact ⟨ret_bool HE.out.symm,rfl⟩
 ·
  have HE : Hid (Wl.within n lo hi = false) := Lib.hid (by unfold Wl.within; rw [decide_eq_false h1,Bool.false_and])
  go_enter Tryz.func105,Tryz.ntmps105
  go_wp2
  go_ret
  exact ⟨ret_bool HE.out.symm,rfl⟩
def Hd.h (r : Hd.T) (l : List Et.T) : Wl.H := ⟨r.term,r.vote,r.base,r.bt,r.mem,r.snap,l⟩
theorem wl_last (r : Hd.T) (l : List Et.T) (w : World) (hl : Et.Ls w r.log.ao r.log.n r.log.cap l) (hb : -1000000000000000000 ≤ r.base ∧ r.base ≤ 1000000000000000000) (hn : l.length ≤ 100000) :
  Calls Tryz.prog 106 #[Hd.val r] w fun e w' => e = .returned (.int .i64 (Wl.last (Hd.h r l))) ∧ Below w.heap.size w w' := by
 have hlen := hl.len
 have HE : Hid (Wl.last (Hd.h r l) = r.base + (r.log.n : Int)) := Lib.hid (by unfold Wl.last Hd.h; rw [hlen])
 have hn' : r.log.n ≤ 100000 := by omega
 obtain ⟨hb1,hb2⟩ := hb
 clear hl hlen hn
 obtain ⟨W,hW,hbW,hC⟩ := Hd.boxed1 w r
 have HBW := Lib.hid hbW
 unfold Hd.C at hC
 obtain ⟨a0,a1,a2,a3,a4,a5,a6⟩ := hC
 clear hbW
 unfold Hd.val
 go_enter Tryz.func106,Tryz.ntmps106
 go_wp2
 go_ret
 exact ⟨by rw [HE.out]; rfl,HBW.out⟩
theorem wl_lastTerm (r : Hd.T) (l : List Et.T) (w : World) (hl : Et.Ls w r.log.ao r.log.n r.log.cap l) :
  Calls Tryz.prog 107 #[Hd.val r] w fun e w' => e = .returned (.int .i64 (Wl.lastTerm (Hd.h r l))) ∧ Below w.heap.size w w' := by
 have hlen := hl.len
 have hf := hl.fits
 have hr := hl.reach
 obtain ⟨W,hW,hbW,hC⟩ := Hd.boxed1 w r
 have HBW := Lib.hid hbW
 by_cases h0 : r.log.n = 0
 ·
  have HE : Hid (Wl.lastTerm (Hd.h r l) = r.bt) := Lib.hid (by
   have : l = [] := List.length_eq_zero_iff.1 (by omega)
   subst this
   rfl)
  have q : ((r.log.n : Int) == 0) = true := by rw [h0]; rfl
  unfold Hd.C at hC
  obtain ⟨a0,a1,a2,a3,a4,a5,a6⟩ := hC
  clear hbW hl hlen h0
  unfold Hd.val
  go_enter Tryz.func107,Tryz.ntmps107
  go_wp2
  go_ret
  exact ⟨by rw [HE.out]; rfl,HBW.out⟩
 ·
  obtain ⟨b,off,hao⟩ := hl.at (by omega)
  have hk : r.log.n - 1 < l.length := by omega
  have hl' := hl.below hbW
  rw [hao] at hl'
  have hrow := hl'.row (r.log.n - 1) hk
  have HE : Hid (Wl.lastTerm (Hd.h r l) = l[r.log.n - 1].term) := Lib.hid (by
   show (l.getLast?.map Et.T.term).getD r.bt = _
   have e : l.getLast? = some l[r.log.n - 1] := by
    rw [List.getLast?_eq_getElem?,← hlen,List.getElem?_eq_getElem hk]
   rw [e]
   rfl)
  obtain ⟨x,hx⟩ : ∃ x,l[r.log.n - 1] = x := ⟨_,rfl⟩
  rw [hx] at hrow HE
  have q : ((r.log.n : Int) == 0) = false := beq_eq_false_iff_ne.2 (by omega)
  obtain ⟨k,hkn⟩ : ∃ k,r.log.n - 1 = k := ⟨_,rfl⟩
  have e1 : (r.log.n : Int) - 1 = (k : Int) := by omega
  have hkl : k < r.log.n := by omega
  rw [hkn] at hrow
  obtain ⟨c0,c1,c2⟩ := hrow
  unfold Hd.C at hC
  rw [hao] at hC
  obtain ⟨a0,a1,a2,a3,a4,a5,a6⟩ := hC
  unfold Hd.val
  rw [hao] at hW ⊢
  clear hbW hl hl' hlen hx h0 hk hao hkn
  go_enter Tryz.func107,Tryz.ntmps107
  go_wp2
  go_ret
  exact ⟨by rw [HE.out]; rfl,HBW.out⟩
set_option maxHeartbeats 2000000 in
theorem wl_headed (r : Hd.T) (l : List Et.T) (w : World) :
  Calls Tryz.prog 57 #[Hd.val r] w fun e w' => e = .returned (.bool (Wl.headed (Hd.h r l))) ∧ Below w.heap.size w w' := by
 obtain ⟨W,hW,hbW,hC⟩ := Hd.boxed1 w r
 have HBW := Lib.hid hbW
 unfold Hd.C at hC
 obtain ⟨a0,a1,a2,a3,a4,a5,a6⟩ := hC
 clear hbW
 have HE : Hid (Wl.headed (Hd.h r l) = (Wl.within r.term 0 1099511627776 && (Wl.within r.vote (-1) 6 && (Wl.within r.base 0 1099511627776 && (Wl.within r.bt 0 r.term && (((r.bt == 0) == (r.base == 0)) && Wl.within r.mem 1 127)))))) := Lib.hid rfl
 cases q1 : Wl.within r.term 0 1099511627776
 ·
  rw [q1,Bool.false_and] at HE
  unfold Hd.val
  go_enter Tryz.func57,Tryz.ntmps57
  go_wp2_with (go_at_call 105; refine (wl_within _ _ _ _).mono ?_; rintro e u ⟨rfl,rfl⟩; first | rw [q1])
  go_ret
  exact ⟨ret_bool HE.out.symm,HBW.out⟩
 rw [q1,Bool.true_and] at HE
 cases q2 : Wl.within r.vote (-1) 6
 ·
  rw [q2,Bool.false_and] at HE
  unfold Hd.val
  go_enter Tryz.func57,Tryz.ntmps57
  go_wp2_with (go_at_call 105; refine (wl_within _ _ _ _).mono ?_; rintro e u ⟨rfl,rfl⟩; first | rw [q1] | rw [q2])
  go_ret
  exact ⟨ret_bool HE.out.symm,HBW.out⟩
 rw [q2,Bool.true_and] at HE
 cases q3 : Wl.within r.base 0 1099511627776
 ·
  rw [q3,Bool.false_and] at HE
  unfold Hd.val
  go_enter Tryz.func57,Tryz.ntmps57
  go_wp2_with (go_at_call 105; refine (wl_within _ _ _ _).mono ?_; rintro e u ⟨rfl,rfl⟩; first | rw [q1] | rw [q2] | rw [q3])
  go_ret
  exact ⟨ret_bool HE.out.symm,HBW.out⟩
 rw [q3,Bool.true_and] at HE
 cases q4 : Wl.within r.bt 0 r.term
 ·
  rw [q4,Bool.false_and] at HE
  unfold Hd.val
  go_enter Tryz.func57,Tryz.ntmps57
  go_wp2_with (go_at_call 105; refine (wl_within _ _ _ _).mono ?_; rintro e u ⟨rfl,rfl⟩; first | rw [q1] | rw [q2] | rw [q3] | rw [q4])
  go_ret
  exact ⟨ret_bool HE.out.symm,HBW.out⟩
 rw [q4,Bool.true_and] at HE
 cases q5 : ((r.bt == 0) == (r.base == 0))
 ·
  rw [q5,Bool.false_and] at HE
  unfold Hd.val
  go_enter Tryz.func57,Tryz.ntmps57
  go_wp2_with (go_at_call 105; refine (wl_within _ _ _ _).mono ?_; rintro e u ⟨rfl,rfl⟩; first | rw [q1] | rw [q2] | rw [q3] | rw [q4])
  go_ret
  exact ⟨ret_bool HE.out.symm,HBW.out⟩
 ·
  rw [q5,Bool.true_and] at HE
  unfold Hd.val
  go_enter Tryz.func57,Tryz.ntmps57
  go_wp2_with (go_at_call 105; refine (wl_within _ _ _ _).mono ?_; rintro e u ⟨rfl,rfl⟩; try (first | rw [q1] | rw [q2] | rw [q3] | rw [q4]))
  go_ret
  exact ⟨ret_bool HE.out.symm,HBW.out⟩
end Go.Proofs.YtmhmajoghbgcfaaGreatDoor
namespace Go.Proofs.YtmhmajoghbgcfaaGreatDoor
open Go.RowKit
open Mem
open Go.Sort (grow)
def AnsW (f : FuncId) (args : Array Value) (u : World) (i : Nat) (os : Array Obj) (v : Value) : Prop :=
 Calls Tryz.prog f args (grow (redrawn u i) os) fun e w'' => e = .returned v ∧ ∃ p : Regrown,w'' = grow (redrawn u p.d) p.os
theorem within_ag (n lo hi : Int) (u : World) (i : Nat) (os : Array Obj) : AnsW 105 #[.int .i64 n,.int .i64 lo,.int .i64 hi] u i os (.bool (Wl.within n lo hi)) :=
 Calls.regrown_of ((wl_within n lo hi _).mono fun e w' h => ⟨h.1,by rw [h.2]; exact Below.refl _ _⟩)
theorem last_ag (r : Hd.T) (l : List Et.T) (u : World) (hl : Et.Ls u r.log.ao r.log.n r.log.cap l) (hb : -1000000000000000000 ≤ r.base ∧ r.base ≤ 1000000000000000000) (hn : l.length ≤ 100000) (i : Nat) (os : Array Obj) :
  AnsW 106 #[Hd.val r] u i os (.int .i64 (Wl.last (Hd.h r l))) := Calls.regrown_of (wl_last r l _ (hl.below (below_regrown u i os)) hb hn)
theorem lastTerm_ag (r : Hd.T) (l : List Et.T) (u : World) (hl : Et.Ls u r.log.ao r.log.n r.log.cap l) (i : Nat) (os : Array Obj) :
  AnsW 107 #[Hd.val r] u i os (.int .i64 (Wl.lastTerm (Hd.h r l))) := Calls.regrown_of (wl_lastTerm r l _ (hl.below (below_regrown u i os)))
set_option maxHeartbeats 4000000 in
theorem wl_fits (r : Hd.T) (l : List Et.T) (x : Et.T) (w : World) (hl : Et.Ls w r.log.ao r.log.n r.log.cap l) (hb : -1000000000000000000 ≤ r.base ∧ r.base ≤ 1000000000000000000) (hx : Et.Short x) :
  Calls Tryz.prog 58 #[Hd.val r,Et.val x] w fun e w' => e = .returned (.bool (Wl.fits (Hd.h r l) x)) ∧ Below w.heap.size w w' := by
 have HL := Lib.hid hl
 have HS := Lib.hid hx
 have hr1 := hl.fits
 have hr2 := hl.reach
 have hsz := hx.2.2
 obtain ⟨W,hW,hbW,hC⟩ := Hd.boxed1 w r
 obtain ⟨V,hV,hbV,hE⟩ := Et.boxed1 W x
 have HBW := Lib.hid (bchain hbW hbV)
 have hC2 := hC.below hbV
 have hV' := (hl.below hbW).below hbV
 have hen : Hid (Wl.fits (Hd.h r l) x = (decide ((r.log.n : Int) < 200) && (decide (Wl.last (Hd.h r l) < 1099511627776) && (Wl.within x.term (max 1 (Wl.lastTerm (Hd.h r l))) r.term && (Wl.within x.mem 0 127 && (decide ((x.data.size : Int) ≤ 1100) && ((x.mem == 0) || (x.data.toList == [])))))))) := Lib.hid (by
  unfold Wl.fits
  have e1 : decide ((Hd.h r l).log.length < 200) = decide ((r.log.n : Int) < 200) := by rw [hl.len]; show decide (l.length < 200) = _; rw [decide_eq_decide]; omega
  have e2 : decide (x.data.size ≤ 1100) = decide ((x.data.size : Int) ≤ 1100) := by rw [decide_eq_decide]; omega
  have e3 : decide (x.data.size = 0) = (x.data.toList == []) := by
   have := txt_len x.data
   rw [tl,Bool.eq_iff_iff,decide_eq_true_iff,beq_iff_eq,← List.length_eq_zero_iff,this]
  rw [e1,e2,e3]
  rfl)
 obtain ⟨f,hf⟩ : ∃ f,Wl.fits (Hd.h r l) x = f := ⟨_,rfl⟩
 have HE := hen
 unfold Hd.C at hC2
 obtain ⟨a0,a1,a2,a3,a4,a5,a6⟩ := hC2
 unfold Et.C at hE
 obtain ⟨k0,k1,k2⟩ := hE
 have a0' := cell_regrown a0
 have a1' := cell_regrown a1
 have a2' := cell_regrown a2
 have a3' := cell_regrown a3
 have a4' := cell_regrown a4
 have a5' := cell_regrown a5
 have a6' := cell_regrown a6
 have k0' := cell_regrown k0
 have k1' := cell_regrown k1
 have k2' := cell_regrown k2
 have hn0 : (r.log.n : Int) < 200 → l.length ≤ 100000 := fun z => by have := hl.len; omega
 have cL := fun (z : (r.log.n : Int) < 200) => last_ag r l V hV' hb (hn0 z)
 have cT := lastTerm_ag r l V hV'
 have c3 := fun m => within_ag x.term m r.term V
 have c4 := within_ag x.mem 0 127 V
 unfold Hd.val at cL cT
 unfold AnsW at cL cT c3 c4
 clear a0 a1 a2 a3 a4 a5 a6 k0 k1 k2 hl hC hbW hbV hV' hen hn0 hf hx
 unfold Hd.val Et.val
 obtain ⟨la,hla⟩ : ∃ la,Wl.last (Hd.h r l) = la := ⟨_,rfl⟩
 obtain ⟨lt,hlt⟩ : ∃ lt,Wl.lastTerm (Hd.h r l) = lt := ⟨_,rfl⟩
 rw [hla,hlt] at HE
 rw [hla] at cL
 rw [hlt] at cT
 obtain ⟨mx,hmx⟩ : ∃ mx,(if 1 < lt then lt else 1) = mx := ⟨_,rfl⟩
 have hm2 : max 1 lt = mx := by
  rw [← hmx]
  split <;> omega
 rw [hm2] at HE
 have c3 := c3 mx
 clear hm2
 clear hla hlt
 by_cases b1 : (r.log.n : Int) < 200
 ·
  have cL := cL b1
  have d1 := decide_eq_true b1
  rw [d1,Bool.true_and] at HE
  clear b1
  by_cases b2 : la < 1099511627776
  ·
   have d2 := decide_eq_true b2
   rw [d2,Bool.true_and] at HE
   clear b2
   cases b3 : Wl.within x.term mx r.term
   ·
    rw [b3] at c3
    rw [b3,Bool.false_and] at HE
    clear HL HS
    go_enter Tryz.func58,Tryz.ntmps58
    go_wp2_with fail
    clear hW hV
    refine wp_region_quiet_below (by kernel_rfl) (by kernel_rfl) ?_
    repeat (first | go_big_quiet_step (first | (go_at_call 106; with_reducible exact cL _ _) | (go_at_call 107; with_reducible exact cT _ _) | (go_at_call 105; with_reducible exact c3 _ _)) | quiet_step (first | (go_at_call 106; with_reducible exact cL _ _) | (go_at_call 107; with_reducible exact cT _ _) | (go_at_call 105; with_reducible exact c3 _ _)))
    refine wpQuiet_nil ?_
    intro _ hw'
    obtain ⟨⟨dq,osq⟩,hw''⟩ := hw'
    subst hw''
    have HB2 := Lib.hid (bchain HBW.out (below_regrown V dq osq))
    go_wp2_with fail
    go_ret
    exact ⟨ret_bool HE.out.symm,HB2.out⟩
   ·
    rw [b3] at c3
    rw [b3,Bool.true_and] at HE
    cases b4 : Wl.within x.mem 0 127
    ·
     rw [b4] at c4
     rw [b4,Bool.false_and] at HE
     clear HL HS
     go_enter Tryz.func58,Tryz.ntmps58
     go_wp2_with fail
     clear hW hV
     refine wp_region_quiet_below (by kernel_rfl) (by kernel_rfl) ?_
     repeat (first | go_big_quiet_step (first | (go_at_call 106; with_reducible exact cL _ _) | (go_at_call 107; with_reducible exact cT _ _) | (go_at_call 105; with_reducible exact c3 _ _) | (go_at_call 105; with_reducible exact c4 _ _)) | quiet_step (first | (go_at_call 106; with_reducible exact cL _ _) | (go_at_call 107; with_reducible exact cT _ _) | (go_at_call 105; with_reducible exact c3 _ _) | (go_at_call 105; with_reducible exact c4 _ _)))
     refine wpQuiet_nil ?_
     intro _ hw'
     obtain ⟨⟨dq,osq⟩,hw''⟩ := hw'
     subst hw''
     have HB2 := Lib.hid (bchain HBW.out (below_regrown V dq osq))
     go_wp2_with fail
     go_ret
     exact ⟨ret_bool HE.out.symm,HB2.out⟩
    ·
     rw [b4] at c4
     rw [b4,Bool.true_and] at HE
     by_cases b5 : (x.data.size : Int) ≤ 1100
     ·
      have d5 := decide_eq_true b5
      rw [d5,Bool.true_and] at HE
      clear b5
      cases b6 : (x.mem == 0)
      ·
       rw [b6,Bool.false_or] at HE
       cases b7 : (x.data.toList == [])
       ·
        rw [b7] at HE
        clear HL HS
        go_enter Tryz.func58,Tryz.ntmps58
        go_wp2_with fail
        clear hW hV
        refine wp_region_quiet_below (by kernel_rfl) (by kernel_rfl) ?_
        repeat (first | go_big_quiet_step (first | (go_at_call 106; with_reducible exact cL _ _) | (go_at_call 107; with_reducible exact cT _ _) | (go_at_call 105; with_reducible exact c3 _ _) | (go_at_call 105; with_reducible exact c4 _ _)) | quiet_step (first | (go_at_call 106; with_reducible exact cL _ _) | (go_at_call 107; with_reducible exact cT _ _) | (go_at_call 105; with_reducible exact c3 _ _) | (go_at_call 105; with_reducible exact c4 _ _)))
        refine wpQuiet_nil ?_
        intro _ hw'
        obtain ⟨⟨dq,osq⟩,hw''⟩ := hw'
        subst hw''
        have HB2 := Lib.hid (bchain HBW.out (below_regrown V dq osq))
        go_wp2_with fail
        go_ret
        exact ⟨ret_bool HE.out.symm,HB2.out⟩
       ·
        rw [b7] at HE
        clear HL HS
        go_enter Tryz.func58,Tryz.ntmps58
        go_wp2_with fail
        clear hW hV
        refine wp_region_quiet_below (by kernel_rfl) (by kernel_rfl) ?_
        repeat (first | go_big_quiet_step (first | (go_at_call 106; with_reducible exact cL _ _) | (go_at_call 107; with_reducible exact cT _ _) | (go_at_call 105; with_reducible exact c3 _ _) | (go_at_call 105; with_reducible exact c4 _ _)) | quiet_step (first | (go_at_call 106; with_reducible exact cL _ _) | (go_at_call 107; with_reducible exact cT _ _) | (go_at_call 105; with_reducible exact c3 _ _) | (go_at_call 105; with_reducible exact c4 _ _)))
        refine wpQuiet_nil ?_
        intro _ hw'
        obtain ⟨⟨dq,osq⟩,hw''⟩ := hw'
        subst hw''
        have HB2 := Lib.hid (bchain HBW.out (below_regrown V dq osq))
        go_wp2_with fail
        go_ret
        exact ⟨ret_bool HE.out.symm,HB2.out⟩
      ·
       rw [b6,Bool.true_or] at HE
       clear HL HS
       go_enter Tryz.func58,Tryz.ntmps58
       go_wp2_with fail
       clear hW hV
       refine wp_region_quiet_below (by kernel_rfl) (by kernel_rfl) ?_
       repeat (first | go_big_quiet_step (first | (go_at_call 106; with_reducible exact cL _ _) | (go_at_call 107; with_reducible exact cT _ _) | (go_at_call 105; with_reducible exact c3 _ _) | (go_at_call 105; with_reducible exact c4 _ _)) | quiet_step (first | (go_at_call 106; with_reducible exact cL _ _) | (go_at_call 107; with_reducible exact cT _ _) | (go_at_call 105; with_reducible exact c3 _ _) | (go_at_call 105; with_reducible exact c4 _ _)))
       refine wpQuiet_nil ?_
       intro _ hw'
       obtain ⟨⟨dq,osq⟩,hw''⟩ := hw'
       subst hw''
       have HB2 := Lib.hid (bchain HBW.out (below_regrown V dq osq))
       go_wp2_with fail
       go_ret
       exact ⟨ret_bool HE.out.symm,HB2.out⟩
     ·
      have d5 := decide_eq_false b5
      rw [d5,Bool.false_and] at HE
      clear b5
      clear HL HS
      go_enter Tryz.func58,Tryz.ntmps58
      go_wp2_with fail
      clear hW hV
      refine wp_region_quiet_below (by kernel_rfl) (by kernel_rfl) ?_
      repeat (first | go_big_quiet_step (first | (go_at_call 106; with_reducible exact cL _ _) | (go_at_call 107; with_reducible exact cT _ _) | (go_at_call 105; with_reducible exact c3 _ _) | (go_at_call 105; with_reducible exact c4 _ _)) | quiet_step (first | (go_at_call 106; with_reducible exact cL _ _) | (go_at_call 107; with_reducible exact cT _ _) | (go_at_call 105; with_reducible exact c3 _ _) | (go_at_call 105; with_reducible exact c4 _ _)))
      refine wpQuiet_nil ?_
      intro _ hw'
      obtain ⟨⟨dq,osq⟩,hw''⟩ := hw'
      subst hw''
      have HB2 := Lib.hid (bchain HBW.out (below_regrown V dq osq))
      go_wp2_with fail
      go_ret
      exact ⟨ret_bool HE.out.symm,HB2.out⟩
  ·
   have d2 := decide_eq_false b2
   rw [d2,Bool.false_and] at HE
   clear b2
   clear HL HS
   go_enter Tryz.func58,Tryz.ntmps58
   go_wp2_with fail
   clear hW hV
   refine wp_region_quiet_below (by kernel_rfl) (by kernel_rfl) ?_
   repeat (first | go_big_quiet_step (first | (go_at_call 106; with_reducible exact cL _ _)) | quiet_step (first | (go_at_call 106; with_reducible exact cL _ _)))
   refine wpQuiet_nil ?_
   intro _ hw'
   obtain ⟨⟨dq,osq⟩,hw''⟩ := hw'
   subst hw''
   have HB2 := Lib.hid (bchain HBW.out (below_regrown V dq osq))
   go_wp2_with fail
   go_ret
   exact ⟨ret_bool HE.out.symm,HB2.out⟩
 ·
  have d1 := decide_eq_false b1
  rw [d1,Bool.false_and] at HE
  clear b1 cL
  clear HL HS
  go_enter Tryz.func58,Tryz.ntmps58
  go_wp2_with fail
  clear hW hV
  refine wp_region_quiet_below (by kernel_rfl) (by kernel_rfl) ?_
  repeat (first | go_big_quiet_step (first | fail) | quiet_step (first | fail))
  refine wpQuiet_nil ?_
  intro _ hw'
  obtain ⟨⟨dq,osq⟩,hw''⟩ := hw'
  subst hw''
  have HB2 := Lib.hid (bchain HBW.out (below_regrown V dq osq))
  go_wp2_with fail
  go_ret
  exact ⟨ret_bool HE.out.symm,HB2.out⟩
end Go.Proofs.YtmhmajoghbgcfaaGreatDoor
namespace Go.Proofs.YtmhmajoghbgcfaaGreatDoor.Et
open Go.RowKit
open Mem
def rv (r : T) : List Value := [.int .i64 r.term,.int .i64 r.mem,.string r.data]
theorem rv_len (r : T) : (rv r).length = 3 := rfl
theorem flat_len : ∀ rs : List T,(rs.flatMap rv).length = rs.length * 3
 | [] => rfl
 | r :: l => by
  rw [List.flatMap_cons,List.length_append,rv_len,flat_len l,List.length_cons]
  omega
theorem flat_at : ∀ (rs : List T) (k p : Nat) (hk : k < rs.length),p < 3 → (rs.flatMap rv)[k * 3 + p]? = (rv rs[k])[p]?
 | r :: l,0,p,_,hp => by
  rw [List.flatMap_cons,List.getElem?_append_left (by rw [rv_len]; omega),Nat.zero_mul,Nat.zero_add]
  rfl
 | r :: l,k + 1,p,hk,hp => by
  rw [List.flatMap_cons,List.getElem?_append_right (by rw [rv_len]; omega),rv_len,show (k + 1) * 3 + p - 3 = k * 3 + p by omega]
  exact flat_at l k p (by simpa using hk) hp
theorem one_cell (rs : List T) : ∀ v ∈ rs.flatMap rv,v.oneCell' = true := by
 intro v hv
 obtain ⟨r,_,h⟩ := List.mem_flatMap.1 hv
 unfold rv at h
 simp only [List.mem_cons,List.not_mem_nil,or_false] at h
 rcases h with rfl | rfl | rfl <;> rfl
theorem news_of {w : World} {b off : Nat} {rs : List T} (h : ∀ (k : Nat) (hk : k < rs.length),At w b (off + k * 3) rs[k]) (j : Nat) (u : Value) (hu : (rs.flatMap rv)[j]? = some u) : w.cell? ((⟨b,off,none⟩ : Addr).add j) = some u := by
 have hj : j < (rs.flatMap rv).length := by
  obtain ⟨hj,_⟩ := List.getElem?_eq_some_iff.1 hu
  exact hj
 rw [flat_len] at hj
 obtain ⟨k,p,rfl,hp⟩ : ∃ k p,j = k * 3 + p ∧ p < 3 := ⟨j / 3,j % 3,by omega,by omega⟩
 have hk : k < rs.length := by omega
 rw [flat_at rs k p hk hp] at hu
 have ha : (⟨b,off,none⟩ : Addr).add (k * 3 + p) = ⟨b,off + k * 3 + p,none⟩ := by
  unfold Addr.add
  split
  ·
   rename_i e
   simp only [Addr.mk.injEq,true_and,and_true]
   omega
  ·
   simp only [Addr.mk.injEq,true_and,and_true]
   omega
 rw [ha]
 obtain ⟨c0,c1,c2⟩ := h k hk
 have hp' : p = 0 ∨ p = 1 ∨ p = 2 := by omega
 unfold rv at hu
 rcases hp' with rfl | rfl | rfl
 all_goals simp at hu
 all_goals subst hu
 · exact c0
 · exact c1
 · exact c2
def Own (w : World) (B : Nat) (v : Value) (xs : List T) : Prop := w.ownsRow B 36 3 v xs.length (xs.flatMap rv)
theorem own_nil (w : World) (B : Nat) : Own w B (.slice none 0 0) [] := ⟨rfl,.inl ⟨rfl,rfl⟩⟩
theorem own_ls {w : World} {B : Nat} {v : Value} {xs : List T} (h : Own w B v xs) (hs : ∀ r ∈ xs,Short r) : ∃ ao cap,v = .slice ao xs.length cap ∧ Ls w ao xs.length cap xs ∧ (∀ ad,ao = some ad → ∃ g,ad = ⟨g,0,none⟩ ∧ B ≤ g) := by
 rcases h.2 with ⟨h',h2⟩ | ⟨g,cap,cur,h',hb,hg,hnc,hcm,hcs,htake⟩
 ·
  have e : xs = [] := List.length_eq_zero_iff.1 h2
  subst e
  exact ⟨none,0,h',⟨rfl,Nat.le_refl _,by omega,fun _ => rfl,.inl rfl,hs⟩,fun ad k => by cases k⟩
 ·
  refine ⟨some ⟨g,0,none⟩,cap,h',⟨rfl,hnc,hcm,fun k => (by cases k),.inr ⟨g,0,rfl,fun k hk => ?_⟩,hs⟩,fun ad k => by cases k; exact ⟨g,rfl,hb⟩⟩
  have hcell : ∀ p,p < 3 → w.cell? ⟨g,0 + k * 3 + p,none⟩ = (rv xs[k])[p]? := by
   intro p hp
   rw [Nat.zero_add,cell_of_row w g _ _ _ _ hg,← flat_at xs k p hk hp,← htake,List.getElem?_take_of_lt (by omega)]
   simp
  exact ⟨hcell 0 (by omega),hcell 1 (by omega),hcell 2 (by omega)⟩
def zero : T := ⟨0,0,.empty⟩
def zeroV : Value := .agg #[.int .i64 0,.int .i64 0,.string .empty]
theorem info : (Tryz.prog.info? 36).map (fun i => (i.zero,i.size,i.bytes)) = some (some zeroV,3,32) := by kernel_rfl
theorem wp_append {o : Oper} {a : Act} {K : Act → World → Prop} {Q : Exit → Act → World → Prop} (w : World) (s x : Operand)
  (ho : o.op = .call { callee := .builtin .append,args := #[s,x],argTypes := #[28,28] })
  (B : Nat) (v : Value) (xs : List T) (hs : a.eval s = v) (hown : Own w B v xs)
  (ao : Option Addr) (n cap : Nat) (zs : List T) (hx : a.eval x = .slice ao n cap) (hn : n = zs.length) (hnil : ao = none → cap = 0) (hsrc : Seg w ao zs) (hl : (xs.length + n) * 32 ≤ 140737488355328) (hb : B ≤ w.heap.size)
  (h : ∀ v' w1,Own w1 B v' (xs ++ zs) → w.grownBy w1 v.ownBlock → (v'.ownBlock = v.ownBlock ∨ v'.ownBlock = some w.heap.size) → K (a.put o.dst v') w1) : o.wp Tryz.prog a w K Q := by
 have hzs : zeroV.cells.size = 3 := rfl
 obtain ⟨i0,hi,hz0,hz1,hz2⟩ := info_parts info
 have hmx : maxLen = 9223372036854775807 := rfl
 have empty : zs = [] → n = 0 → Own w B v (xs ++ zs) := by
  intro e _
  rw [e,List.append_nil]
  exact hown
 cases ao with
 | none =>
  obtain rfl : cap = 0 := hnil rfl
  rcases hsrc with e | ⟨b,off,e,_⟩
  ·
   obtain rfl : n = 0 := by rw [hn,e]; rfl
   have hrun := run_append_owned_none (P := Tryz.prog) (w := w) B 28 o.type 36 i0 3 Tryz.underlying28 hi v _ _ hown
   unfold Oper.wp
   simp [execOp,ho,resolve,invoke,builtin,hs,hx,hrun,Result.andThen]
   exact h v w (empty e rfl) ⟨rfl,rfl,rfl,Nat.le_refl _,fun _ _ _ => rfl⟩ (.inl rfl)
  · cases e
 | some ad =>
  obtain ⟨v',w',hr,h2,h3,_,h5⟩ := run_append_own_at (P := Tryz.prog) w B 28 o.type 36 i0 zeroV 3 32 Tryz.underlying28 hi hz0 hz1 hz2 hzs (by omega) v xs.length (xs.flatMap rv) hown ad n cap (zs.flatMap rv) (by rw [flat_len,hn]) (by
   rcases hsrc with e | ⟨b,off,e,hc⟩
   ·
    rw [e]
    intro j u hu
    simp at hu
   ·
    cases e
    exact fun j u hu => news_of hc j u hu) (one_cell zs) (by omega) hl hb
  unfold Oper.wp execOp
  simp only [ho,resolve,invoke,builtin,Sem.run_bind,Sem.run_pure,Result.andThen_ok,List.map_toArray,List.map_cons,List.map_nil,hs,hx,hr]
  refine h v' w' ?_ h3 h5
  unfold Own
  rw [List.flatMap_append,List.length_append,← hn]
  exact h2
theorem wpList_append {ops : Array Oper} {rest : List Oper} {o : Oper} {a : Act} {Q : Exit → Act → World → Prop} (w : World) (hgd : o.guard = none) (s x : Operand)
  (ho : o.op = .call { callee := .builtin .append,args := #[s,x],argTypes := #[28,28] })
  (B : Nat) (v : Value) (xs : List T) (hs : a.eval s = v) (hown : Own w B v xs)
  (ao : Option Addr) (n cap : Nat) (zs : List T) (hx : a.eval x = .slice ao n cap) (hn : n = zs.length) (hnil : ao = none → cap = 0) (hsrc : Seg w ao zs) (hl : (xs.length + n) * 32 ≤ 140737488355328) (hb : B ≤ w.heap.size)
  (h : ∀ v' w1,Own w1 B v' (xs ++ zs) → w.grownBy w1 v.ownBlock → (v'.ownBlock = v.ownBlock ∨ v'.ownBlock = some w.heap.size) → wpList Tryz.prog ops Q rest (a.put o.dst v') w1) : wpList Tryz.prog ops Q (o :: rest) a w :=
 wpList_plain hgd fun _ hK => wp_append w s x ho B v xs hs hown ao n cap zs hx hn hnil hsrc hl hb fun v' w1 h1 h2 h3 => hK _ _ (h v' w1 h1 h2 h3)
theorem own_ge {w : World} {B : Nat} {v : Value} {xs : List T} (h : Own w B v xs) : ∀ k,v.ownBlock = some k → B ≤ k := by
 intro k hk
 rcases h.2 with ⟨h',_⟩ | ⟨g,cap,cur,h',hb,_⟩
 ·
  rw [h'] at hk
  cases hk
 ·
  rw [h'] at hk
  simp only [Value.ownBlock,Option.some.injEq] at hk
  omega
theorem own_mono {w : World} {B C : Nat} {v : Value} {xs : List T} (h : Own w B v xs) (hc : C ≤ B) : Own w C v xs := by
 obtain ⟨h1,h2⟩ := h
 refine ⟨h1,?_⟩
 rcases h2 with h2 | ⟨g,cap,cur,h',hb,h3⟩
 · exact .inl h2
 · exact .inr ⟨g,cap,cur,h',by omega,h3⟩
def block (r : T) : Obj := .cells #[.int .i64 r.term,.int .i64 r.mem,.string r.data] 36 (0,0)
theorem seg_block {X : World} {g : Nat} {r : T} (h : X.heap[g]? = some (block r)) : Seg X (some ⟨g,0,none⟩) [r] := by
 refine .inr ⟨g,0,rfl,fun k hk => ?_⟩
 obtain rfl : k = 0 := by simpa using hk
 unfold block at h
 refine ⟨?_,?_,?_⟩
 all_goals rw [cell_of_row X g _ _ _ _ h]
 all_goals rfl
end Go.Proofs.YtmhmajoghbgcfaaGreatDoor.Et
namespace Go.Proofs.YtmhmajoghbgcfaaGreatDoor.Hd
open Go.RowKit
open Mem
structure At (u : World) (b o : Nat) (r : T) : Prop where
 c0 : u.cell? ⟨b,o,none⟩ = some (.int .i64 r.term)
 c1 : u.cell? ⟨b,o + 1,none⟩ = some (.int .i64 r.vote)
 c2 : u.cell? ⟨b,o + 2,none⟩ = some (.int .i64 r.base)
 c3 : u.cell? ⟨b,o + 3,none⟩ = some (.int .i64 r.bt)
 c4 : u.cell? ⟨b,o + 4,none⟩ = some (.int .i64 r.mem)
 c5 : u.cell? ⟨b,o + 5,none⟩ = some (.string r.snap)
 c6 : u.cell? ⟨b,o + 6,none⟩ = some (.slice r.log.ao r.log.n r.log.cap)
end Go.Proofs.YtmhmajoghbgcfaaGreatDoor.Hd
namespace Go.Proofs.YtmhmajoghbgcfaaGreatDoor.Hd
open Go.RowKit
open Mem
def rv (r : T) : List Value := [.int .i64 r.term,.int .i64 r.vote,.int .i64 r.base,.int .i64 r.bt,.int .i64 r.mem,.string r.snap,.slice r.log.ao r.log.n r.log.cap]
theorem rv_len (r : T) : (rv r).length = 7 := rfl
theorem flat_at : ∀ (rs : List T) (k p : Nat) (hk : k < rs.length),p < 7 → (rs.flatMap rv)[k * 7 + p]? = (rv rs[k])[p]?
 | r :: l,0,p,_,hp => by
  rw [List.flatMap_cons,List.getElem?_append_left (by rw [rv_len]; omega),Nat.zero_mul,Nat.zero_add]
  rfl
 | r :: l,k + 1,p,hk,hp => by
  rw [List.flatMap_cons,List.getElem?_append_right (by rw [rv_len]; omega),rv_len,show (k + 1) * 7 + p - 7 = k * 7 + p by omega]
  exact flat_at l k p (by simpa using hk) hp
end Go.Proofs.YtmhmajoghbgcfaaGreatDoor.Hd
namespace Go.Proofs.YtmhmajoghbgcfaaGreatDoor.Hd
open Go.RowKit
open Mem
def Block (w : World) (g : Nat) (ts : List T) : Prop := w.heap[g]? = some (.cells (ts.flatMap rv).toArray 30 (0,0))
theorem Block.lt {w : World} {g : Nat} {ts : List T} (h : Block w g ts) : g < w.heap.size := by
 obtain ⟨hg,_⟩ := Array.getElem?_eq_some_iff.1 h
 exact hg
theorem Block.below {w u : World} {g : Nat} {ts : List T} (h : Block w g ts) (k : Below w.heap.size w u) : Block u g ts := (k.block g h.lt).trans h
theorem Block.row {w : World} {g : Nat} {ts : List T} (h : Block w g ts) (k : Nat) (hk : k < ts.length) : At w g (k * 7) ts[k] := by
 have hcell : ∀ p,p < 7 → w.cell? ⟨g,k * 7 + p,none⟩ = (rv ts[k])[p]? := by
  intro p hp
  rw [cell_of_row w g _ _ _ _ h,← flat_at ts k p hk hp]
  simp
 exact ⟨hcell 0 (by omega),hcell 1 (by omega),hcell 2 (by omega),hcell 3 (by omega),hcell 4 (by omega),hcell 5 (by omega),hcell 6 (by omega)⟩
theorem Block.frozen {w : World} {g : Nat} {ts : List T} (h : Block w g ts) (k : Nat) : w.frozen? ⟨g,k,none⟩ = false := frozen_of_row w g k _ _ h
end Go.Proofs.YtmhmajoghbgcfaaGreatDoor.Hd
namespace Go.Proofs.YtmhmajoghbgcfaaGreatDoor
open Go.RowKit
open Mem
def Hd.with (r : Hd.T) (s : Sl) : Hd.T := ⟨r.term,r.vote,r.base,r.bt,r.mem,r.snap,s⟩
theorem Hd.block_box (w : World) (r : Hd.T) : Hd.Block (Hd.box w r) w.heap.size [r] := heap_alloc_new w _
theorem Hd.Block.log {w : World} {g : Nat} {r : Hd.T} (h : Hd.Block w g [r]) (s : Sl) : Hd.Block (w.setCell ⟨g,6,none⟩ (.slice s.ao s.n s.cap)) g [Hd.with r s] := (heap_setCell_same w g 6 _ _ _ h).trans rfl
theorem Hd.Block.cells {w : World} {g : Nat} {r : Hd.T} (h : Hd.Block w g [r]) : Hd.C w g r := by
 obtain ⟨c0,c1,c2,c3,c4,c5,c6⟩ := h.row 0 (by simp)
 exact ⟨c0,c1,c2,c3,c4,c5,c6⟩
theorem Hd.cell_same {w u : World} {b : Nat} (h : u.heap[b]? = w.heap[b]?) (o : Nat) : u.cell? ⟨b,o,none⟩ = w.cell? ⟨b,o,none⟩ := by
 simp [World.cell?,h]
theorem Wl.headed_base {h : Wl.H} (k : Wl.headed h = true) : 0 ≤ h.base ∧ h.base ≤ 1099511627776 := by
 unfold Wl.headed Wl.within Wl.top at k
 simp only [Bool.and_eq_true,decide_eq_true_eq] at k
 exact k.2.2.1
theorem Wl.more_step (h : Wl.H) (l : List Et.T) (k : Nat) (hk : k < l.length) : Wl.more (h.with (l.take k)) (l.drop k) = (Wl.fits (h.with (l.take k)) l[k] && Wl.more (h.with (l.take (k + 1))) (l.drop (k + 1))) := by
 rw [List.drop_eq_getElem_cons hk,Wl.more,List.take_succ_eq_append_getElem hk]
 rfl
set_option maxHeartbeats 4000000 in
theorem wl_right (r : Hd.T) (l : List Et.T) (w : World) (hl : Et.Ls w r.log.ao r.log.n r.log.cap l) (hz : r.snap.size ≤ 140737488355328) :
  Calls Tryz.prog 19 #[Hd.val r] w fun e w' => e = .returned (.bool (Wl.right (Hd.h r l))) ∧ Below w.heap.size w w' := by
 obtain ⟨⟨ao,n,cap⟩,hlog⟩ : ∃ s,r.log = s := ⟨_,rfl⟩
 rw [hlog] at hl
 dsimp only at hl
 have HL := Lib.hid hl
 have hr1 := hl.fits
 have hr2 := hl.reach
 have HN := Lib.hid hl.len
 obtain ⟨W,hW,hbW,hC⟩ := Hd.boxed1 w r
 have HBW := Lib.hid hbW
 have HBk : Hid (Hd.Block W w.heap.size [r]) := Lib.hid (hW ▸ Hd.block_box w r)
 have HR : Hid (Wl.right (Hd.h r l) = (Wl.headed (Hd.h r l) && ((((r.snap.toList == []) == (r.base == 0)) && decide ((r.snap.size : Int) ≤ 65536)) && Wl.more ((Hd.h r l).with []) l))) := Lib.hid (by
  unfold Wl.right Wl.snapOk
  have e3 : decide (r.snap.size = 0) = (r.snap.toList == []) := by
   have := txt_len r.snap
   rw [tl,Bool.eq_iff_iff,decide_eq_true_iff,beq_iff_eq,← List.length_eq_zero_iff,this]
  have e2 : decide (r.snap.size ≤ 65536) = decide ((r.snap.size : Int) ≤ 65536) := by rw [decide_eq_decide]; omega
  rw [show (Hd.h r l).snap = r.snap from rfl,e3,e2]
  rfl)
 have HD : Hid (∀ s,Hd.h (Hd.with r s) = Hd.h r) := Lib.hid fun s => rfl
 have cH := wl_headed r l W
 unfold Hd.val at cH
 unfold Hd.C at hC
 rw [hlog] at cH hW hC
 dsimp only at cH hW hC
 obtain ⟨a0,a1,a2,a3,a4,a5,a6⟩ := hC
 clear hl hbW
 unfold Hd.val
 rw [hlog]
 dsimp only
 have HLg := Lib.hid hlog
 clear hlog
 cases q1 : Wl.headed (Hd.h r l)
 ·
  rw [q1] at cH
  rw [q1,Bool.false_and] at HR
  go_enter Tryz.func19,Tryz.ntmps19
  go_wp2_with (go_at_call 57; refine cH.mono ?_; rintro e w1 ⟨rfl,b1⟩; have HB1 := Lib.hid (bchain HBW.out b1); clear b1 a0 a1 a2 a3 a4 a5 a6 cH)
  go_ret
  exact ⟨ret_bool HR.out.symm,HB1.out⟩
 have HQ := Lib.hid (Wl.headed_base q1)
 rw [q1] at cH
 rw [q1,Bool.true_and] at HR
 cases q2 : ((r.snap.toList == []) == (r.base == 0))
 ·
  rw [q2,Bool.false_and,Bool.false_and] at HR
  have p2 : (r.base == 0) = !(r.snap.toList == []) := by
   revert q2
   cases (r.snap.toList == []) <;> cases (r.base == 0) <;> decide
  clear q2
  go_enter Tryz.func19,Tryz.ntmps19
  cases p1 : (r.snap.toList == [])
  ·
   rw [p1] at p2
   try rw [Bool.not_false] at p2
   try rw [Bool.not_true] at p2
   go_wp2_with (go_at_call 57; refine cH.mono ?_; rintro e w1 ⟨rfl,b1⟩; have HB1 := Lib.hid (bchain HBW.out b1); have HK1 := Lib.hid (HBk.out.below b1); have a5' := ((bcell b1).1 _ _ (cell_lt a5)).trans a5; have a2' := ((bcell b1).1 _ _ (cell_lt a2)).trans a2; have a6' := ((bcell b1).1 _ _ (cell_lt a6)).trans a6; clear b1 a0 a1 a2 a3 a4 a5 a6 cH)
   go_ret
   exact ⟨ret_bool HR.out.symm,HB1.out⟩
  ·
   rw [p1] at p2
   try rw [Bool.not_false] at p2
   try rw [Bool.not_true] at p2
   go_wp2_with (go_at_call 57; refine cH.mono ?_; rintro e w1 ⟨rfl,b1⟩; have HB1 := Lib.hid (bchain HBW.out b1); have HK1 := Lib.hid (HBk.out.below b1); have a5' := ((bcell b1).1 _ _ (cell_lt a5)).trans a5; have a2' := ((bcell b1).1 _ _ (cell_lt a2)).trans a2; have a6' := ((bcell b1).1 _ _ (cell_lt a6)).trans a6; clear b1 a0 a1 a2 a3 a4 a5 a6 cH)
   go_ret
   exact ⟨ret_bool HR.out.symm,HB1.out⟩
 rw [q2,Bool.true_and] at HR
 by_cases h3 : (65536 : Int) < (r.snap.size : Int)
 ·
  rw [decide_eq_false (by omega),Bool.false_and] at HR
  have p2 : (r.base == 0) = (r.snap.toList == []) := by
   revert q2
   cases (r.snap.toList == []) <;> cases (r.base == 0) <;> decide
  clear q2
  go_enter Tryz.func19,Tryz.ntmps19
  cases p1 : (r.snap.toList == [])
  ·
   rw [p1] at p2
   try rw [Bool.not_false] at p2
   try rw [Bool.not_true] at p2
   go_wp2_with (go_at_call 57; refine cH.mono ?_; rintro e w1 ⟨rfl,b1⟩; have HB1 := Lib.hid (bchain HBW.out b1); have HK1 := Lib.hid (HBk.out.below b1); have a5' := ((bcell b1).1 _ _ (cell_lt a5)).trans a5; have a2' := ((bcell b1).1 _ _ (cell_lt a2)).trans a2; have a6' := ((bcell b1).1 _ _ (cell_lt a6)).trans a6; clear b1 a0 a1 a2 a3 a4 a5 a6 cH)
   go_ret
   exact ⟨ret_bool HR.out.symm,HB1.out⟩
  ·
   rw [p1] at p2
   try rw [Bool.not_false] at p2
   try rw [Bool.not_true] at p2
   go_wp2_with (go_at_call 57; refine cH.mono ?_; rintro e w1 ⟨rfl,b1⟩; have HB1 := Lib.hid (bchain HBW.out b1); have HK1 := Lib.hid (HBk.out.below b1); have a5' := ((bcell b1).1 _ _ (cell_lt a5)).trans a5; have a2' := ((bcell b1).1 _ _ (cell_lt a2)).trans a2; have a6' := ((bcell b1).1 _ _ (cell_lt a6)).trans a6; clear b1 a0 a1 a2 a3 a4 a5 a6 cH)
   go_ret
   exact ⟨ret_bool HR.out.symm,HB1.out⟩
 rw [decide_eq_true (by omega),Bool.true_and] at HR
 have p2 : (r.base == 0) = (r.snap.toList == []) := by
  revert q2
  cases (r.snap.toList == []) <;> cases (r.base == 0) <;> decide
 clear q2
 go_enter Tryz.func19,Tryz.ntmps19
 cases p1 : (r.snap.toList == [])
 ·
  rw [p1] at p2
  try rw [Bool.not_false] at p2
  try rw [Bool.not_true] at p2
  go_wp2_with (go_at_call 57; refine cH.mono ?_; rintro e w1 ⟨rfl,b1⟩; have HB1 := Lib.hid (bchain HBW.out b1); have HK1 := Lib.hid (HBk.out.below b1); have a5' := ((bcell b1).1 _ _ (cell_lt a5)).trans a5; have a2' := ((bcell b1).1 _ _ (cell_lt a2)).trans a2; have a6' := ((bcell b1).1 _ _ (cell_lt a6)).trans a6; clear b1 a0 a1 a2 a3 a4 a5 a6 cH)
  clear hW HBk HBW p1 p2 h3 q1 a5' a2' a6'
  go_loopw [5,28] (fun _ i wr => ∃ k : Nat,k ≤ n ∧ i = .int .i64 k ∧ Hid (Below w.heap.size w wr) ∧ (∃ s,Hid (Hd.Block wr w.heap.size [Hd.with r s])) ∧ Hid (Wl.more ((Hd.h r l).with (l.take k)) (l.drop k) = Wl.right (Hd.h r l))) (fun _ i _ => n - (intOf i).toNat)
  case atStart => exact ⟨0,by omega,rfl,HB1,⟨⟨ao,n,cap⟩,HLg.out ▸ HK1⟩,Lib.hid HR.out.symm⟩
  case round =>
   clear HB1 HK1 HR
   rename World => wz
   obtain ⟨k,hk,rfl,HB,⟨s,HK⟩,HM⟩ := hrel
   by_cases hlt : k < n
   ·
    obtain ⟨b,off,rfl⟩ := HL.out.at (by omega)
    have hkl : k < l.length := HN.out ▸ hlt
    have hl' := HL.out.below HB.out
    have hrow := hl'.row k hkl
    have hxs := HL.out.short _ (List.getElem_mem hkl)
    have HSt := Lib.hid (Wl.more_step (Hd.h r l) l k hkl)
    obtain ⟨x,hx⟩ : ∃ x,l[k] = x := ⟨_,rfl⟩
    rw [hx] at hrow HSt hxs
    obtain ⟨g0,g1,g2⟩ := hrow
    obtain ⟨W1,hW1,hbW1,hE⟩ := Et.boxed1 wz x
    have HB1 := Lib.hid (bchain HB.out hbW1)
    have HK1 := Lib.hid (HK.out.below hbW1)
    have f6 := HK1.out.frozen 6
    obtain ⟨i0,i1,i2,i3,i4,i5,i6⟩ := HK1.out.cells
    obtain ⟨hsl,hl2⟩ := hl'.to k hk
    obtain ⟨W2,hW2⟩ : ∃ W2,W1.setCell ⟨w.heap.size,6,none⟩ (.slice (some ⟨b,off,none⟩) k cap) = W2 := ⟨_,rfl⟩
    have hu2 : UpdQ (fun b => b = w.heap.size) W1 W2 := hW2 ▸ UpdQ.set (Q := fun b => b = w.heap.size) W1 rfl 6 _
    have HK2 : Hid (Hd.Block W2 w.heap.size [Hd.with r ⟨some ⟨b,off,none⟩,k,cap⟩]) := Lib.hid (hW2 ▸ HK1.out.log ⟨some ⟨b,off,none⟩,k,cap⟩)
    have hB2 : Below w.heap.size w W2 := hW2 ▸ bset HB1.out (Nat.le_refl _) 6 _
    have HB2 := Lib.hid hB2
    have hE2 : Et.C W2 wz.heap.size x := by
     have hlz := HK.out.lt
     obtain ⟨z0,z1,z2⟩ := hE
     have hb := hu2.block wz.heap.size (cell_lt z0) (by omega)
     exact ⟨(Hd.cell_same hb _).trans z0,(Hd.cell_same hb _).trans z1,(Hd.cell_same hb _).trans z2⟩
    obtain ⟨j0,j1,j2,j3,j4,j5,j6⟩ := HK2.out.cells
    unfold Et.C at hE2
    obtain ⟨z0,z1,z2⟩ := hE2
    have hL2 : Et.Ls W2 (some ⟨b,off,none⟩) k cap (l.take k) := by
     have := (HL.out.to k hk).2.below hB2
     exact this
    have cF := wl_fits (Hd.with r ⟨some ⟨b,off,none⟩,k,cap⟩) (l.take k) x W2 hL2 ⟨by have := HQ.out.1; exact (by show -1000000000000000000 ≤ (Hd.h r l).base; omega),by have := HQ.out.2; exact (by show (Hd.h r l).base ≤ 1000000000000000000; omega)⟩ hxs
    rw [show Hd.h (Hd.with r ⟨some ⟨b,off,none⟩,k,cap⟩) (l.take k) = (Hd.h r l).with (l.take k) from rfl] at cF
    unfold Hd.val Et.val Hd.with at cF
    simp only at cF j0 j1 j2 j3 j4 j5 j6
    clear hl' hbW1 hE hl2 hL2 hu2 hB2 HK hx
    cases q9 : Wl.fits ((Hd.h r l).with (l.take k)) x
    ·
     rw [q9] at cF
     have HR9 : Hid (Wl.right (Hd.h r l) = false) := Lib.hid (by rw [← HM.out,HSt.out,q9,Bool.false_and])
     clear HSt HM q9
     go_wp2_with (go_at_call 58; refine cF.mono ?_; rintro e w3 ⟨rfl,b3⟩; have HB3 := Lib.hid (bchain HB2.out b3); clear b3 cF)
     go_ret
     exact ⟨ret_bool HR9.out.symm,HB3.out⟩
    ·
     rw [q9] at cF
     have HM9 : Hid (Wl.more ((Hd.h r l).with (l.take (k + 1))) (l.drop (k + 1)) = Wl.right (Hd.h r l)) := Lib.hid (by rw [← HM.out,HSt.out,q9,Bool.true_and])
     clear HSt HM q9
     go_wp2_with (go_at_call 58; refine cF.mono ?_; rintro e w3 ⟨rfl,b3⟩; have HB3 := Lib.hid (bchain HB2.out b3); have HK3 := Lib.hid (HK2.out.below b3); clear b3 cF)
     go_roundw
     case rel => exact ⟨k + 1,by omega,by go_num,HB3,⟨_,HK3⟩,HM9⟩
     case measure => simp [intOf]; omega
   ·
    have HR9 : Hid (Wl.right (Hd.h r l) = true) := Lib.hid (by
     rw [← HM.out,List.drop_eq_nil_of_le (by have := HN.out; omega)]
     rfl)
    clear HM HK
    go_wp2_with fail
    go_ret
    exact ⟨ret_bool HR9.out.symm,HB.out⟩
 ·
  rw [p1] at p2
  try rw [Bool.not_false] at p2
  try rw [Bool.not_true] at p2
  go_wp2_with (go_at_call 57; refine cH.mono ?_; rintro e w1 ⟨rfl,b1⟩; have HB1 := Lib.hid (bchain HBW.out b1); have HK1 := Lib.hid (HBk.out.below b1); have a5' := ((bcell b1).1 _ _ (cell_lt a5)).trans a5; have a2' := ((bcell b1).1 _ _ (cell_lt a2)).trans a2; have a6' := ((bcell b1).1 _ _ (cell_lt a6)).trans a6; clear b1 a0 a1 a2 a3 a4 a5 a6 cH)
  clear hW HBk HBW p1 p2 h3 q1 a5' a2' a6'
  go_loopw [5,28] (fun _ i wr => ∃ k : Nat,k ≤ n ∧ i = .int .i64 k ∧ Hid (Below w.heap.size w wr) ∧ (∃ s,Hid (Hd.Block wr w.heap.size [Hd.with r s])) ∧ Hid (Wl.more ((Hd.h r l).with (l.take k)) (l.drop k) = Wl.right (Hd.h r l))) (fun _ i _ => n - (intOf i).toNat)
  case atStart => exact ⟨0,by omega,rfl,HB1,⟨⟨ao,n,cap⟩,HLg.out ▸ HK1⟩,Lib.hid HR.out.symm⟩
  case round =>
   clear HB1 HK1 HR
   rename World => wz
   obtain ⟨k,hk,rfl,HB,⟨s,HK⟩,HM⟩ := hrel
   by_cases hlt : k < n
   ·
    obtain ⟨b,off,rfl⟩ := HL.out.at (by omega)
    have hkl : k < l.length := HN.out ▸ hlt
    have hl' := HL.out.below HB.out
    have hrow := hl'.row k hkl
    have hxs := HL.out.short _ (List.getElem_mem hkl)
    have HSt := Lib.hid (Wl.more_step (Hd.h r l) l k hkl)
    obtain ⟨x,hx⟩ : ∃ x,l[k] = x := ⟨_,rfl⟩
    rw [hx] at hrow HSt hxs
    obtain ⟨g0,g1,g2⟩ := hrow
    obtain ⟨W1,hW1,hbW1,hE⟩ := Et.boxed1 wz x
    have HB1 := Lib.hid (bchain HB.out hbW1)
    have HK1 := Lib.hid (HK.out.below hbW1)
    have f6 := HK1.out.frozen 6
    obtain ⟨i0,i1,i2,i3,i4,i5,i6⟩ := HK1.out.cells
    obtain ⟨hsl,hl2⟩ := hl'.to k hk
    obtain ⟨W2,hW2⟩ : ∃ W2,W1.setCell ⟨w.heap.size,6,none⟩ (.slice (some ⟨b,off,none⟩) k cap) = W2 := ⟨_,rfl⟩
    have hu2 : UpdQ (fun b => b = w.heap.size) W1 W2 := hW2 ▸ UpdQ.set (Q := fun b => b = w.heap.size) W1 rfl 6 _
    have HK2 : Hid (Hd.Block W2 w.heap.size [Hd.with r ⟨some ⟨b,off,none⟩,k,cap⟩]) := Lib.hid (hW2 ▸ HK1.out.log ⟨some ⟨b,off,none⟩,k,cap⟩)
    have hB2 : Below w.heap.size w W2 := hW2 ▸ bset HB1.out (Nat.le_refl _) 6 _
    have HB2 := Lib.hid hB2
    have hE2 : Et.C W2 wz.heap.size x := by
     have hlz := HK.out.lt
     obtain ⟨z0,z1,z2⟩ := hE
     have hb := hu2.block wz.heap.size (cell_lt z0) (by omega)
     exact ⟨(Hd.cell_same hb _).trans z0,(Hd.cell_same hb _).trans z1,(Hd.cell_same hb _).trans z2⟩
    obtain ⟨j0,j1,j2,j3,j4,j5,j6⟩ := HK2.out.cells
    unfold Et.C at hE2
    obtain ⟨z0,z1,z2⟩ := hE2
    have hL2 : Et.Ls W2 (some ⟨b,off,none⟩) k cap (l.take k) := by
     have := (HL.out.to k hk).2.below hB2
     exact this
    have cF := wl_fits (Hd.with r ⟨some ⟨b,off,none⟩,k,cap⟩) (l.take k) x W2 hL2 ⟨by have := HQ.out.1; exact (by show -1000000000000000000 ≤ (Hd.h r l).base; omega),by have := HQ.out.2; exact (by show (Hd.h r l).base ≤ 1000000000000000000; omega)⟩ hxs
    rw [show Hd.h (Hd.with r ⟨some ⟨b,off,none⟩,k,cap⟩) (l.take k) = (Hd.h r l).with (l.take k) from rfl] at cF
    unfold Hd.val Et.val Hd.with at cF
    simp only at cF j0 j1 j2 j3 j4 j5 j6
    clear hl' hbW1 hE hl2 hL2 hu2 hB2 HK hx
    cases q9 : Wl.fits ((Hd.h r l).with (l.take k)) x
    ·
     rw [q9] at cF
     have HR9 : Hid (Wl.right (Hd.h r l) = false) := Lib.hid (by rw [← HM.out,HSt.out,q9,Bool.false_and])
     clear HSt HM q9
     go_wp2_with (go_at_call 58; refine cF.mono ?_; rintro e w3 ⟨rfl,b3⟩; have HB3 := Lib.hid (bchain HB2.out b3); clear b3 cF)
     go_ret
     exact ⟨ret_bool HR9.out.symm,HB3.out⟩
    ·
     rw [q9] at cF
     have HM9 : Hid (Wl.more ((Hd.h r l).with (l.take (k + 1))) (l.drop (k + 1)) = Wl.right (Hd.h r l)) := Lib.hid (by rw [← HM.out,HSt.out,q9,Bool.true_and])
     clear HSt HM q9
     go_wp2_with (go_at_call 58; refine cF.mono ?_; rintro e w3 ⟨rfl,b3⟩; have HB3 := Lib.hid (bchain HB2.out b3); have HK3 := Lib.hid (HK2.out.below b3); clear b3 cF)
     go_roundw
     case rel => exact ⟨k + 1,by omega,by go_num,HB3,⟨_,HK3⟩,HM9⟩
     case measure => simp [intOf]; omega
   ·
    have HR9 : Hid (Wl.right (Hd.h r l) = true) := Lib.hid (by
     rw [← HM.out,List.drop_eq_nil_of_le (by have := HN.out; omega)]
     rfl)
    clear HM HK
    go_wp2_with fail
    go_ret
    exact ⟨ret_bool HR9.out.symm,HB.out⟩
end Go.Proofs.YtmhmajoghbgcfaaGreatDoor
namespace Go.Proofs.YtmhmajoghbgcfaaGreatDoor.Wl
open Go.RowKit
open Mem
def sv (v : Sl) : Value := .slice v.ao v.n v.cap
def row (h : H) (v : Sl) : Hd.T := ⟨h.term,h.vote,h.base,h.bt,h.mem,h.snap,v⟩
theorem h_row (h : H) (v : Sl) : Hd.h (row h v) h.log = h := rfl
def cel (r : Hd.T) (b c : Bool) : List Value := Hd.rv r ++ [Value.bool b,Value.bool c]
theorem cel_len (r : Hd.T) (b c : Bool) : (cel r b c).length = 9 := rfl
def Blk (w : World) (g o : Nat) (ty : TypeId) (pre post : List Value) (r : Hd.T) (b c : Bool) : Prop :=
 pre.length = o ∧ w.heap[g]? = some (.cells (pre ++ (cel r b c ++ post)).toArray ty (0,0))
section
variable {w u : World} {g o : Nat} {ty : TypeId} {pre post : List Value} {r : Hd.T} {b c : Bool}
theorem Blk.lt (h : Blk w g o ty pre post r b c) : g < w.heap.size := by
 obtain ⟨hg,_⟩ := Array.getElem?_eq_some_iff.1 h.2
 exact hg
theorem Blk.below (h : Blk w g o ty pre post r b c) (k : Below w.heap.size w u) : Blk u g o ty pre post r b c := ⟨h.1,(k.block g h.lt).trans h.2⟩
theorem Blk.frozen (h : Blk w g o ty pre post r b c) (k : Nat) : w.frozen? ⟨g,k,none⟩ = false := frozen_of_row w g k _ _ h.2
theorem Blk.cell (h : Blk w g o ty pre post r b c) (i : Nat) (hi : i < 9) : w.cell? ⟨g,o + i,none⟩ = (cel r b c)[i]? := by
 rw [cell_of_row w g _ _ _ _ h.2]
 rw [List.getElem?_toArray,List.getElem?_append_right (by rw [h.1]; omega),h.1,List.getElem?_append_left (by rw [cel_len]; exact (by omega : o + i - o < 9))]
 congr 1
 omega
theorem Blk.cells (h : Blk w g o ty pre post r b c) :
  w.cell? ⟨g,o,none⟩ = some (.int .i64 r.term) ∧ w.cell? ⟨g,o + 1,none⟩ = some (.int .i64 r.vote) ∧ w.cell? ⟨g,o + 2,none⟩ = some (.int .i64 r.base) ∧ w.cell? ⟨g,o + 3,none⟩ = some (.int .i64 r.bt) ∧ w.cell? ⟨g,o + 4,none⟩ = some (.int .i64 r.mem) ∧ w.cell? ⟨g,o + 5,none⟩ = some (.string r.snap) ∧
  w.cell? ⟨g,o + 6,none⟩ = some (sv r.log) ∧ w.cell? ⟨g,o + 7,none⟩ = some (.bool b) ∧ w.cell? ⟨g,o + 8,none⟩ = some (.bool c) :=
 ⟨h.cell 0 (by omega),h.cell 1 (by omega),h.cell 2 (by omega),h.cell 3 (by omega),h.cell 4 (by omega),h.cell 5 (by omega),h.cell 6 (by omega),h.cell 7 (by omega),h.cell 8 (by omega)⟩
theorem set_mid (m : List Value) (i : Nat) (x : Value) (hi : i < m.length) : (pre ++ (m ++ post)).set (pre.length + i) x = pre ++ (m.set i x ++ post) := by
 rw [List.set_append_right _ _ (by omega),Nat.add_sub_cancel_left,List.set_append_left _ _ hi]
theorem Blk.set (h : Blk w g o ty pre post r b c) (i : Nat) (hi : i < 9) (x : Value) {r' : Hd.T} {b' c' : Bool} (e : (cel r b c).set i x = cel r' b' c') : Blk (w.setCell ⟨g,o + i,none⟩ x) g o ty pre post r' b' c' := by
 refine ⟨h.1,(heap_setCell_same w g (o + i) _ _ x h.2).trans ?_⟩
 have := set_mid (pre := pre) (post := post) (cel r b c) i x (by rw [cel_len]; exact hi)
 rw [h.1] at this
 rw [List.setIfInBounds_toArray,this,e]
end
structure Seg (P : Nat → Prop) (w : World) (g o : Nat) (ty : TypeId) (pre post : List Value) (v : Sl) (s : Sg) : Prop where
 blk : Blk w g o ty pre post (row s.h v) s.begun s.ready
 own : Et.Own w 0 (sv v) s.h.log
 pg : P g
 pv : ∀ b,(sv v).ownBlock = some b → P b ∧ b ≠ g
 short : ∀ e ∈ s.h.log,Et.Short e
 few : s.h.log.length ≤ 200
 base : 0 ≤ s.h.base ∧ s.h.base ≤ 1099511627776
 fit : Fit s.h.term ∧ Fit s.h.vote ∧ Fit s.h.bt ∧ Fit s.h.mem
 snap : s.h.snap = .empty
def In (P : Nat → Prop) (w : World) (g o : Nat) (ty : TypeId) (pre post : List Value) (s : Sg) : Prop := ∃ v,Seg P w g o ty pre post v s
section
variable {P Q : Nat → Prop} {w u : World} {g o : Nat} {ty : TypeId} {pre post : List Value} {v : Sl} {s : Sg}
theorem Seg.keep (h : Seg P w g o ty pre post v s) (k : UpdQ Q w u) (hQ : ∀ b,P b → ¬ Q b) : Seg P u g o ty pre post v s :=
 ⟨⟨h.blk.1,(k.block g h.blk.lt (hQ g h.pg)).trans h.blk.2⟩,k.rows h.own fun b e => hQ b (h.pv b e).1,h.pg,h.pv,h.short,h.few,h.base,h.fit,h.snap⟩
theorem Seg.mono (h : Seg P w g o ty pre post v s) (k : ∀ b,P b → Q b) : Seg Q w g o ty pre post v s := ⟨h.blk,h.own,k g h.pg,fun b e => ⟨k b (h.pv b e).1,(h.pv b e).2⟩,h.short,h.few,h.base,h.fit,h.snap⟩
theorem Seg.below (h : Seg P w g o ty pre post v s) (k : Below w.heap.size w u) : Seg P u g o ty pre post v s := h.keep (UpdQ.of (Q := fun _ => False) k) fun _ _ z => z
theorem Seg.lt (h : Seg P w g o ty pre post v s) : Seg (fun b => P b ∧ b < w.heap.size) w g o ty pre post v s :=
 ⟨h.blk,h.own,⟨h.pg,h.blk.lt⟩,fun b e => ⟨⟨(h.pv b e).1,(World.ownsRow.lt h.own b e).2⟩,(h.pv b e).2⟩,h.short,h.few,h.base,h.fit,h.snap⟩
theorem Seg.ls (h : Seg P w g o ty pre post v s) : Et.Ls w v.ao v.n v.cap s.h.log := by
 obtain ⟨ao,cap,e,l,_⟩ := Et.own_ls h.own h.short
 unfold sv at e
 simp only [Value.slice.injEq] at e
 rw [e.1,e.2.1,e.2.2]
 exact l
theorem In.keep (h : In P w g o ty pre post s) (k : UpdQ Q w u) (hQ : ∀ b,P b → ¬ Q b) : In P u g o ty pre post s := h.elim fun v h => ⟨v,h.keep k hQ⟩
theorem In.mono (h : In P w g o ty pre post s) (k : ∀ b,P b → Q b) : In Q w g o ty pre post s := h.elim fun v h => ⟨v,h.mono k⟩
theorem In.below (h : In P w g o ty pre post s) (k : Below w.heap.size w u) : In P u g o ty pre post s := h.elim fun v h => ⟨v,h.below k⟩
theorem In.lt (h : In P w g o ty pre post s) : In (fun b => P b ∧ b < w.heap.size) w g o ty pre post s := h.elim fun v h => ⟨v,h.lt⟩
end
def StepE (P : Nat → Prop) (w : World) (g o : Nat) (ty : TypeId) (pre post : List Value) (s : Sg) (x : Option Sg) (e : Ending) (w' : World) : Prop :=
 e = .returned (.bool x.isSome) ∧ In (nw P w) w' g o ty pre post (x.getD s) ∧ UpdQ P w w'
theorem StepE.no {P : Nat → Prop} {w w' : World} {g o : Nat} {ty : TypeId} {pre post : List Value} {s : Sg} {x : Option Sg} (hx : x = none) (h : In P w g o ty pre post s) (k : Below w.heap.size w w') : StepE P w g o ty pre post s x (.returned (.bool false)) w' := by
 subst hx
 exact ⟨rfl,(h.below k).mono fun b z => .inl z,UpdQ.of k⟩
set_option maxHeartbeats 2000000 in
theorem sg_close {P : Nat → Prop} {w : World} {g o : Nat} {ty : TypeId} {pre post : List Value} {s : Sg} (h : In P w g o ty pre post s) :
  Calls Tryz.prog 167 #[.pointer (some ⟨g,o,none⟩)] w (StepE P w g o ty pre post s (closeS s)) := by
 have HI := Lib.hid h
 obtain ⟨v,h⟩ := h
 obtain ⟨c0,c1,c2,c3,c4,c5,c6,c7,c8⟩ := h.blk.cells
 have f8 := h.blk.frozen (o + 8)
 have hlt := h.blk.lt
 clear c0 c1 c2 c3 c4 c5 c6
 cases hb : s.begun
 ·
  have HE : Hid (closeS s = none) := Lib.hid (by unfold closeS; rw [if_pos hb])
  rw [hb] at c7
  clear h hb
  go_enter Tryz.func167,Tryz.ntmps167
  go_wp2
  go_ret
  exact StepE.no HE.out HI.out (Below.refl _ _)
 ·
  cases hr : s.ready
  ·
   have HE : Hid (closeS s = some ⟨s.h,s.begun,true⟩) := Lib.hid (by unfold closeS; rw [if_neg (by rw [hb]; simp),if_neg (by rw [hr]; simp)])
   rw [hb] at c7
   rw [hr] at c8
   have HF : Hid (StepE P w g o ty pre post s (closeS s) (.returned (.bool true)) (w.setCell ⟨g,o + 8,none⟩ (.bool true))) := Lib.hid (by
    rw [HE.out]
    have hu : UpdQ (fun b => b = g) w (w.setCell ⟨g,o + 8,none⟩ (.bool true)) := UpdQ.set (Q := fun b => b = g) w rfl (o + 8) _
    exact ⟨rfl,⟨v,⟨h.blk.set 8 (by omega) (.bool true) rfl,hu.rows h.own fun b e => (h.pv b e).2,.inl h.pg,fun b e => ⟨.inl (h.pv b e).1,(h.pv b e).2⟩,h.short,h.few,h.base,h.fit,h.snap⟩⟩,hu.mono fun b z => z ▸ h.pg⟩)
   clear h hb hr HE
   go_enter Tryz.func167,Tryz.ntmps167
   go_wp2
   go_ret
   exact HF.out
  ·
   have HE : Hid (closeS s = none) := Lib.hid (by unfold closeS; rw [if_neg (by rw [hb]; simp),if_pos hr])
   rw [hb] at c7
   rw [hr] at c8
   clear h hb hr
   go_enter Tryz.func167,Tryz.ntmps167
   go_wp2
   go_ret
   exact StepE.no HE.out HI.out (Below.refl _ _)
end Go.Proofs.YtmhmajoghbgcfaaGreatDoor.Wl
namespace Go.Proofs.YtmhmajoghbgcfaaGreatDoor.Wl
open Go.RowKit
open Mem
theorem headed_fit {h : H} (k : headed h = true) : (0 ≤ h.base ∧ h.base ≤ 1099511627776) ∧ (Fit h.term ∧ Fit h.vote ∧ Fit h.bt ∧ Fit h.mem) := by
 unfold headed within top at k
 simp only [Bool.and_eq_true,decide_eq_true_eq] at k
 obtain ⟨a,b,c,d,e,f⟩ := k
 exact ⟨c,⟨by omega,by omega⟩,⟨by omega,by omega⟩,⟨by omega,by omega⟩,⟨by omega,by omega⟩⟩
def lay (w : World) (g o : Nat) (r : Hd.T) : World :=
 ((((((w.setCell ⟨g,o,none⟩ (.int .i64 r.term)).setCell ⟨g,o + 1,none⟩ (.int .i64 r.vote)).setCell ⟨g,o + 2,none⟩ (.int .i64 r.base)).setCell ⟨g,o + 3,none⟩ (.int .i64 r.bt)).setCell ⟨g,o + 4,none⟩ (.int .i64 r.mem)).setCell ⟨g,o + 5,none⟩ (.string r.snap)).setCell ⟨g,o + 6,none⟩ (sv r.log)
theorem Blk.lay {w : World} {g o : Nat} {ty : TypeId} {pre post : List Value} {r : Hd.T} {b c : Bool} (h : Blk w g o ty pre post r b c) (x : Hd.T) : Blk (lay w g o x) g o ty pre post x b c := by
 have h0 : Blk (w.setCell ⟨g,o,none⟩ (.int .i64 x.term)) g o ty pre post ⟨x.term,r.vote,r.base,r.bt,r.mem,r.snap,r.log⟩ b c := h.set 0 (by omega) _ rfl
 have h1 := h0.set (r' := ⟨x.term,x.vote,r.base,r.bt,r.mem,r.snap,r.log⟩) 1 (by omega) (.int .i64 x.vote) rfl
 have h2 := h1.set (r' := ⟨x.term,x.vote,x.base,r.bt,r.mem,r.snap,r.log⟩) 2 (by omega) (.int .i64 x.base) rfl
 have h3 := h2.set (r' := ⟨x.term,x.vote,x.base,x.bt,r.mem,r.snap,r.log⟩) 3 (by omega) (.int .i64 x.bt) rfl
 have h4 := h3.set (r' := ⟨x.term,x.vote,x.base,x.bt,x.mem,r.snap,r.log⟩) 4 (by omega) (.int .i64 x.mem) rfl
 have h5 := h4.set (r' := ⟨x.term,x.vote,x.base,x.bt,x.mem,x.snap,r.log⟩) 5 (by omega) (.string x.snap) rfl
 exact h5.set (r' := x) 6 (by omega) (sv x.log) rfl
theorem upd_set (u : World) (g o : Nat) (x : Value) : UpdQ (fun b => b = g) u (u.setCell ⟨g,o,none⟩ x) := UpdQ.set (Q := fun b => b = g) u rfl o x
theorem lay_upd (w : World) (g o : Nat) (x : Hd.T) : UpdQ (fun b => b = g) w (lay w g o x) :=
 ((((((upd_set w g o _).trans (upd_set _ g _ _)).trans (upd_set _ g _ _)).trans (upd_set _ g _ _)).trans (upd_set _ g _ _)).trans (upd_set _ g _ _)).trans (upd_set _ g _ _)
set_option maxHeartbeats 1000000 in
theorem sg_begin {P : Nat → Prop} {w : World} {g o : Nat} {ty : TypeId} {pre post : List Value} {s : Sg} (h : In P w g o ty pre post s) (x : Hd.T) (hx : x.log = ⟨none,0,0⟩) (hs : x.snap = .empty) :
  Calls Tryz.prog 165 #[.pointer (some ⟨g,o,none⟩),Hd.val x] w (StepE P w g o ty pre post s (beginS s (Hd.h x []))) := by
 have HI := Lib.hid h
 obtain ⟨v,h⟩ := h
 obtain ⟨W,hW,hbW,hC⟩ := Hd.boxed1 w x
 have HBW := Lib.hid hbW
 obtain ⟨c0,c1,c2,c3,c4,c5,c6,c7,c8⟩ := (h.blk.below hbW).cells
 have hlt := (h.blk.below hbW).lt
 have HS := Lib.hid (h.below hbW)
 have cH := wl_headed x [] W
 unfold Hd.val at cH ⊢
 unfold Hd.C at hC
 rw [hx,hs] at cH hW hC
 rw [hx,hs]
 dsimp only at cH hW hC ⊢
 obtain ⟨a0,a1,a2,a3,a4,a5,a6⟩ := hC
 have fz := fun k => (h.blk.below hbW).frozen k
 cases hb : s.begun
 ·
  rw [hb] at c7
  cases hd : headed (Hd.h x [])
  ·
   have HE : Hid (beginS s (Hd.h x []) = none) := Lib.hid (by unfold beginS; rw [if_neg (by rw [hb]; simp),if_pos hd])
   rw [hd] at cH
   clear h hb hd hbW fz c0 c1 c2 c3 c4 c5 c6 c8
   go_enter Tryz.func165,Tryz.ntmps165
   go_wp2_with (go_at_call 57; refine cH.mono ?_; rintro e w1 ⟨rfl,b1⟩; have HB1 := Lib.hid (bchain HBW.out b1); clear b1 a0 a1 a2 a3 a4 a5 a6 c7 cH)
   go_ret
   exact StepE.no HE.out HI.out HB1.out
  ·
   have HE : Hid (beginS s (Hd.h x []) = some ⟨Hd.h x [],true,s.ready⟩) := Lib.hid (by unfold beginS; rw [if_neg (by rw [hb]; simp),if_neg (by rw [hd]; simp)])
   have HF : Hid (∀ u,Below w.heap.size w u → Seg P u g o ty pre post v s → StepE P w g o ty pre post s (beginS s (Hd.h x [])) (.returned (.bool true)) ((lay u g o (row (Hd.h x []) ⟨none,0,0⟩)).setCell ⟨g,o + 7,none⟩ (.bool true))) := Lib.hid fun u hu k => by
    rw [HE.out]
    have hup : UpdQ (fun b => b = g) u ((lay u g o (row (Hd.h x []) ⟨none,0,0⟩)).setCell ⟨g,o + 7,none⟩ (.bool true)) := (lay_upd u g o _).trans (upd_set _ g _ _)
    obtain ⟨e1,e2⟩ := headed_fit hd
    exact ⟨rfl,⟨⟨none,0,0⟩,⟨(k.blk.lay _).set 7 (by omega) (.bool true) rfl,Et.own_nil _ _,.inl k.pg,fun b e => (by cases e),fun e z => (by cases z),Nat.zero_le _,e1,e2,hs⟩⟩,(UpdQ.of hu).trans (hup.mono fun b z => z ▸ k.pg)⟩
   have HX : Hid (row (Hd.h x []) ⟨none,0,0⟩ = ⟨x.term,x.vote,x.base,x.bt,x.mem,.empty,⟨none,0,0⟩⟩) := Lib.hid (by unfold row Hd.h; rw [hs])
   rw [hd] at cH
   clear h hb hd hbW c0 c1 c2 c3 c4 c5 c6 c8
   go_enter Tryz.func165,Tryz.ntmps165
   go_wp2_with (go_at_call 57; refine cH.mono ?_; rintro e w1 ⟨rfl,b1⟩; have HB1 := Lib.hid (bchain HBW.out b1); have hS1 := HS.out.below b1; have HS1 := Lib.hid hS1; have a0' := ((bcell b1).1 _ _ (cell_lt a0)).trans a0; have a1' := ((bcell b1).1 _ _ (cell_lt a1)).trans a1; have a2' := ((bcell b1).1 _ _ (cell_lt a2)).trans a2; have a3' := ((bcell b1).1 _ _ (cell_lt a3)).trans a3; have a4' := ((bcell b1).1 _ _ (cell_lt a4)).trans a4; have a5' := ((bcell b1).1 _ _ (cell_lt a5)).trans a5; have a6' := ((bcell b1).1 _ _ (cell_lt a6)).trans a6; have gz := hS1.blk.frozen; (obtain ⟨d0,d1,d2,d3,d4,d5,d6,d7,d8⟩ := hS1.blk.cells); have hlt1 := hS1.blk.lt; clear b1 hS1 a0 a1 a2 a3 a4 a5 a6 c7 cH hlt fz hW)
   go_ret
   have := HF.out _ HB1.out HS1.out
   rw [HX.out] at this
   exact this
 ·
  have HE : Hid (beginS s (Hd.h x []) = none) := Lib.hid (by unfold beginS; rw [if_pos hb])
  rw [hb] at c7
  clear h hb hbW fz c0 c1 c2 c3 c4 c5 c6 c8 cH
  go_enter Tryz.func165,Tryz.ntmps165
  go_wp2_with fail
  go_ret
  exact StepE.no HE.out HI.out HBW.out
set_option maxHeartbeats 2000000 in
theorem sg_vote {P : Nat → Prop} {w : World} {g o : Nat} {ty : TypeId} {pre post : List Value} {s : Sg} (h : In P w g o ty pre post s) (t a : Int) (ht : Fit t) (ha : Fit a) :
  Calls Tryz.prog 168 #[.pointer (some ⟨g,o,none⟩),.int .i64 t,.int .i64 a] w (StepE P w g o ty pre post s (voteS s t a)) := by
 have HI := Lib.hid h
 obtain ⟨v,h⟩ := h
 obtain ⟨c0,c1,c2,c3,c4,c5,c6,c7,c8⟩ := h.blk.cells
 have hlt := h.blk.lt
 obtain ⟨⟨vo,vn,vc⟩,hv⟩ : ∃ x,x = v := ⟨_,rfl⟩
 obtain ⟨W,hW,hbW,hC⟩ := Hd.boxed1 w (row s.h v)
 have HBW := Lib.hid hbW
 have HS := Lib.hid (h.below hbW)
 unfold Hd.C at hC
 subst hv
 unfold row at hW hC c0 c1 c2 c3 c4 c5 c6
 unfold sv at c6
 dsimp only at hW hC c0 c1 c2 c3 c4 c5 c6
 obtain ⟨a0,a1,a2,a3,a4,a5,a6⟩ := hC
 have HT := Lib.hid h.fit
 cases hr : s.ready
 ·
  have HE : Hid (voteS s t a = none) := Lib.hid (by unfold voteS; rw [if_pos hr])
  have c8' := ((bcell hbW).1 _ _ (cell_lt c8)).trans c8
  rw [hr] at c8'
  clear h hr hbW c7 c8
  go_enter Tryz.func168,Tryz.ntmps168
  go_wp2_with fail
  go_ret
  exact StepE.no HE.out HI.out HBW.out
 have c8' := ((bcell hbW).1 _ _ (cell_lt c8)).trans c8
 rw [hr] at c8'
 by_cases h1 : t < s.h.term
 ·
  have HE : Hid (voteS s t a = none) := Lib.hid (by unfold voteS; rw [if_neg (by rw [hr]; simp),if_pos h1])
  clear h hr hbW c7 c8
  go_enter Tryz.func168,Tryz.ntmps168
  go_wp2_with fail
  go_ret
  exact StepE.no HE.out HI.out HBW.out
 by_cases h2 : t = s.h.term ∧ s.h.vote ≠ -1
 ·
  have HE : Hid (voteS s t a = none) := Lib.hid (by unfold voteS; rw [if_neg (by rw [hr]; simp),if_neg h1,if_pos h2])
  have e1 : (t == s.h.term) = true := beq_iff_eq.2 h2.1
  have e2 : (s.h.vote != -1) = true := bne_iff_ne.2 h2.2
  clear h hr hbW c7 c8 h2
  go_enter Tryz.func168,Tryz.ntmps168
  go_wp2_with fail
  go_ret
  exact StepE.no HE.out HI.out HBW.out
 obtain ⟨b1,b2,hbb,hor⟩ : ∃ b1 b2 : Bool,((t == s.h.term) = b1 ∧ (s.h.vote != -1) = b2) ∧ ((b1 = false ∧ b2 = false) ∨ (b1 = false ∧ b2 = true) ∨ (b1 = true ∧ b2 = false)) := by
  refine ⟨_,_,⟨rfl,rfl⟩,?_⟩
  cases q1 : (t == s.h.term) <;> cases q2 : (s.h.vote != -1)
  · exact .inl ⟨rfl,rfl⟩
  · exact .inr (.inl ⟨rfl,rfl⟩)
  · exact .inr (.inr ⟨rfl,rfl⟩)
  · exact absurd ⟨beq_iff_eq.1 q1,bne_iff_ne.1 q2⟩ h2
 obtain ⟨e1,e2⟩ := hbb
 obtain ⟨W2,hW2⟩ : ∃ W2,(W.setCell ⟨w.heap.size,0,none⟩ (.int .i64 t)).setCell ⟨w.heap.size,1,none⟩ (.int .i64 a) = W2 := ⟨_,rfl⟩
 have hne : g ≠ w.heap.size := by omega
 have hblk : Hd.Block W w.heap.size [⟨s.h.term,s.h.vote,s.h.base,s.h.bt,s.h.mem,s.h.snap,⟨vo,vn,vc⟩⟩] := hW ▸ heap_alloc_new w _
 have hblk2 : Hd.Block W2 w.heap.size [⟨t,a,s.h.base,s.h.bt,s.h.mem,s.h.snap,⟨vo,vn,vc⟩⟩] := by
  have k1 : Hd.Block (W.setCell ⟨w.heap.size,0,none⟩ (.int .i64 t)) w.heap.size [⟨t,s.h.vote,s.h.base,s.h.bt,s.h.mem,s.h.snap,⟨vo,vn,vc⟩⟩] := (heap_setCell_same W w.heap.size 0 _ _ _ hblk).trans rfl
  exact hW2 ▸ (heap_setCell_same _ w.heap.size 1 _ _ _ k1).trans rfl
 have hu : UpdQ (fun b => b = w.heap.size) W W2 := hW2 ▸ (upd_set W w.heap.size 0 _).trans (upd_set _ w.heap.size 1 _)
 have hB2 : Below w.heap.size w W2 := hu.below w hbW fun b z => by omega
 have HB2 := Lib.hid hB2
 have HS2 := Lib.hid (h.below hB2)
 have hf0 := hblk.frozen 0
 have hf1 := hblk.frozen 1
 have hlW : w.heap.size < W.heap.size := hblk.lt
 obtain ⟨d0,d1,d2,d3,d4,d5,d6⟩ := hblk2.cells
 dsimp only at d0 d1 d2 d3 d4 d5 d6
 have cH := wl_headed ⟨t,a,s.h.base,s.h.bt,s.h.mem,s.h.snap,⟨vo,vn,vc⟩⟩ s.h.log W2
 rw [show Hd.h ⟨t,a,s.h.base,s.h.bt,s.h.mem,s.h.snap,⟨vo,vn,vc⟩⟩ s.h.log = s.h.vote' t a from rfl] at cH
 unfold Hd.val at cH
 dsimp only at cH
 have c8'' := ((bcell hB2).1 _ _ (cell_lt c8)).trans c8
 cases hd : headed (s.h.vote' t a)
 ·
  rw [hd] at cH
  have HE : Hid (voteS s t a = none) := Lib.hid (by unfold voteS; rw [if_neg (by rw [hr]; simp),if_neg h1,if_neg h2,if_pos hd])
  clear h hr hbW c7 c8 h2 hblk hblk2 hu hB2 hd
  rcases hor with ⟨rfl,rfl⟩ | ⟨rfl,rfl⟩ | ⟨rfl,rfl⟩
  all_goals
   go_enter Tryz.func168,Tryz.ntmps168
   go_wp2_with (go_at_call 57; refine cH.mono ?_; rintro e w1 ⟨rfl,b1⟩; have HB1 := Lib.hid (bchain HB2.out b1); clear b1 cH)
   go_ret
   exact StepE.no HE.out HI.out HB1.out
 ·
  rw [hd] at cH
  have HE : Hid (voteS s t a = some (s.with (s.h.vote' t a))) := Lib.hid (by unfold voteS; rw [if_neg (by rw [hr]; simp),if_neg h1,if_neg h2,if_neg (by rw [hd]; simp)])
  have HF : Hid (∀ u,Below w.heap.size w u → StepE P w g o ty pre post s (voteS s t a) (.returned (.bool true)) (lay u g o (row (s.h.vote' t a) ⟨vo,vn,vc⟩))) := Lib.hid fun u hu => by
   rw [HE.out]
   have k := h.below hu
   have hup := lay_upd u g o (row (s.h.vote' t a) ⟨vo,vn,vc⟩)
   obtain ⟨e1,e2⟩ := headed_fit hd
   exact ⟨rfl,⟨⟨vo,vn,vc⟩,⟨k.blk.lay _,hup.rows k.own fun b e => (k.pv b e).2,.inl k.pg,fun b e => ⟨.inl (k.pv b e).1,(k.pv b e).2⟩,k.short,k.few,e1,e2,k.snap⟩⟩,(UpdQ.of hu).trans (hup.mono fun b z => z ▸ k.pg)⟩
  have HX : Hid (row (s.h.vote' t a) ⟨vo,vn,vc⟩ = ⟨t,a,s.h.base,s.h.bt,s.h.mem,s.h.snap,⟨vo,vn,vc⟩⟩) := Lib.hid rfl
  have HC2 := Lib.hid hblk2
  clear h hr hbW c7 c8 h2 hblk hblk2 hu hB2 hd
  rcases hor with ⟨rfl,rfl⟩ | ⟨rfl,rfl⟩ | ⟨rfl,rfl⟩
  all_goals
   go_enter Tryz.func168,Tryz.ntmps168
   go_wp2_with (go_at_call 57; refine cH.mono ?_; rintro e w1 ⟨rfl,b1⟩; have HB1 := Lib.hid (bchain HB2.out b1); have hS1 := HS2.out.below b1; (obtain ⟨x0,x1,x2,x3,x4,x5,x6⟩ := (HC2.out.below b1).cells); (dsimp only at x0 x1 x2 x3 x4 x5 x6); (obtain ⟨y0,y1,y2,y3,y4,y5,y6,y7,y8⟩ := hS1.blk.cells); have gz := hS1.blk.frozen; have hlt1 := hS1.blk.lt; clear b1 hS1 a0 a1 a2 a3 a4 a5 a6 d0 d1 d2 d3 d4 d5 d6 c0 c1 c2 c3 c4 c5 c6 c8'' cH hlt hf0 hf1 hW hW2 hlW)
   go_ret
   have := HF.out _ HB1.out
   rw [HX.out] at this
   exact this
end Go.Proofs.YtmhmajoghbgcfaaGreatDoor.Wl
