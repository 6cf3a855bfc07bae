/- THE DOCUMENT's OWN DISK: Name, at, power, Total, NewDisk, Arm, Read, Names. -/
import Derived.Test.YtegniklofhopeaaYDpDrM
import Derived.Test.YtegniklofhopeaaZDp1
import Derived.Test.YtegniklofhopeaaYDpDkB
set_option maxRecDepth 100000
set_option linter.unusedVariables false
namespace Go.Proofs.Ytegniklofhopeaa
open Go.RowKit
open Mem Dk
set_option maxHeartbeats 1000000 in
theorem dr_name (s : ByteArray) (w : World) (hs : s.size ≤ 9223372036854775807) :
  Calls Try.prog 42 #[.string s] w fun e w' => e = .returned (.bool (nameOk s)) ∧ w' = w := by
 by_cases h1 : s.size < 1
 ·
  have HN := Lib.hid (Dk.name_no (.inl h1))
  have hq : (s.toList == []) = true := by
   have e : s.toList = [] := by
    rw [tl]
    exact List.length_eq_zero_iff.1 (by rw [txt_len]; omega)
   rw [e]
   rfl
  go_enter Try.func42,Try.ntmps42
  go_wp2
  go_ret
  exact ⟨ret_bool HN.out.symm,rfl⟩
 have hq : (s.toList == []) = false := by
  rw [beq_eq_false_iff_ne]
  intro e
  have := congrArg List.length e
  rw [tl,txt_len] at this
  simp only [List.length_nil] at this
  omega
 by_cases h2 : 24 < s.size
 ·
  have HN := Lib.hid (Dk.name_no (.inr h2))
  go_enter Try.func42,Try.ntmps42
  go_wp2
  go_ret
  exact ⟨ret_bool HN.out.symm,rfl⟩
 have HR : Hid (nameOk s = (txt s).all fun c => decide (33 ≤ c.toNat ∧ c.toNat ≤ 126)) := Lib.hid (by
  unfold nameOk
  rw [decide_eq_true (by omega),Bool.true_and])
 go_enter Try.func42,Try.ntmps42
 go_wp2
 go_loop [3] (fun i => ∃ k : Nat,k ≤ s.size ∧ i = .int .i64 k ∧ Hid (((txt s).take k).all (fun c => decide (33 ≤ c.toNat ∧ c.toNat ≤ 126)) = true)) (fun i => s.size - (intOf i).toNat)
 case atStart => exact ⟨0,Nat.zero_le _,rfl,Lib.hid rfl⟩
 case round =>
  obtain ⟨k,hk,rfl,HA⟩ := hrel
  by_cases hlt : k < s.size
  ·
   have HT := Lib.hid (Dk.txt_take s k hlt)
   have HG := Lib.hid (Dk.txt_get s k hlt)
   have HNo : Hid (¬ (33 ≤ s[k].toNat ∧ s[k].toNat ≤ 126) → nameOk s = false) := Lib.hid fun z => by
    rw [HR.out,List.all_eq_false]
    exact ⟨s[k],List.mem_of_getElem? HG.out,by simpa using z⟩
   by_cases a1 : (s[k].toNat : Int) < 33
   ·
    have HF := Lib.hid (HNo.out (by omega))
    go_wp2
    go_ret
    exact ⟨ret_bool HF.out.symm,rfl⟩
   ·
    by_cases a2 : (126 : Int) < (s[k].toNat : Int)
    ·
     have HF := Lib.hid (HNo.out (by omega))
     go_wp2
     go_ret
     exact ⟨ret_bool HF.out.symm,rfl⟩
    ·
     have HF : Hid (((txt s).take (k + 1)).all (fun c => decide (33 ≤ c.toNat ∧ c.toNat ≤ 126)) = true) := Lib.hid (by
      rw [HT.out,List.all_append,HA.out,Bool.true_and]
      simp only [List.all_cons,List.all_nil,Bool.and_true]
      exact decide_eq_true (by omega))
     go_wp2
     go_round
     case rel => exact ⟨k + 1,by omega,by go_num,HF⟩
     case measure => simp [intOf]; omega
  ·
   have HF : Hid (nameOk s = true) := Lib.hid (by
    rw [HR.out,← HA.out,List.take_of_length_le (by unfold txt; simp; omega)])
   go_wp2
   go_ret
   exact ⟨ret_bool HF.out.symm,rfl⟩
namespace Dr
section
variable {P : Nat → Prop} {w : World} {p : Nat} {d : D} {v : Sl} {rs : List Rq.T}
def atI (s : ByteArray) (fs : List F) : Int := if has s fs = true then (Dk.spot s fs : Int) else -1
theorem atI_yes {s : ByteArray} {fs : List F} (h : has s fs = true) : atI s fs = (Dk.spot s fs : Int) := if_pos h
theorem atI_no {s : ByteArray} {fs : List F} (h : has s fs = false) : atI s fs = -1 := if_neg (by rw [h]; exact Bool.false_ne_true)
theorem has_take {s : ByteArray} {fs : List F} {k : Nat} (hk : k < fs.length) (h : ∀ i (hi : i < fs.length),i < k → fs[i].name ≠ s) (hn : fs[k].name ≠ s) : ∀ i (hi : i < fs.length),i < k + 1 → fs[i].name ≠ s := by
 intro i hi hik
 by_cases e : i = k
 ·
  subst e
  exact hn
 · exact h i hi (by omega)
end
end Dr
section
variable {P : Nat → Prop} {w : World} {p : Nat} {d : D} {v : Sl} {rs : List Rq.T}
set_option maxHeartbeats 1000000 in
theorem dr_at (h : Dr.At P w p d v rs) (s : ByteArray) :
  Calls Try.prog 44 #[.pointer (some ⟨p,0,none⟩),.string s] w fun e w' => e = .returned (.int .i64 (Dr.atI s d.fs)) ∧ w' = w := by
 have HA := Lib.hid h
 have HL := Lib.hid h.ls
 obtain ⟨c0,c1,c2⟩ := h.box.cells
 obtain ⟨n1,n2,n3,n4⟩ := h.n
 have HN := Lib.hid n4
 have HN1 := Lib.hid n1
 obtain ⟨ao,n,cap⟩ := v
 simp only at c0 n2 n3 HN HN1
 clear h n1 n4
 go_enter Try.func44,Try.ntmps44
 go_wp2
 go_loop [5] (fun i => ∃ k : Nat,k ≤ n ∧ i = .int .i64 k ∧ Hid (∀ j (hj : j < d.fs.length),j < k → d.fs[j].name ≠ s)) (fun i => n - (intOf i).toNat)
 case atStart => exact ⟨0,Nat.zero_le _,rfl,Lib.hid fun j hj hk => absurd hk (Nat.not_lt_zero _)⟩
 case round =>
  obtain ⟨k,hk,rfl,HK⟩ := hrel
  by_cases hlt : k < n
  ·
   obtain ⟨b,off,rfl⟩ := HL.out.at (by omega)
   have hkr : k < rs.length := HN.out ▸ hlt
   have hkf : k < d.fs.length := HA.out.each.len ▸ hkr
   have hrow := HL.out.row k hkr
   have HNm := Lib.hid (HA.out.each.name k hkr)
   obtain ⟨r,hr⟩ : ∃ r,rs[k] = r := ⟨_,rfl⟩
   rw [hr] at hrow HNm
   clear hr
   obtain ⟨g0,g1,g2⟩ := hrow
   cases hq : (r.name.toList == s.toList)
   ·
    have HK' := Lib.hid (Dr.has_take hkf HK.out (by
     intro e
     rw [← HNm.out] at e
     rw [e,beq_self_eq_true] at hq
     cases hq))
    go_wp2
    go_round
    case rel => exact ⟨k + 1,by omega,by go_num,HK'⟩
    case measure => simp [intOf]; omega
   ·
    have HE : Hid (Dr.atI s d.fs = (k : Int)) := Lib.hid (by
     have e : d.fs[k].name = s := by rw [← HNm.out]; exact Vt.cat_ext (beq_iff_eq.1 hq)
     rw [Dr.atI_yes (has_iff.2 ⟨k,hkf,e⟩),← one_name HA.out.ok.sorted hkf e])
    go_wp2
    go_ret
    exact ⟨by rw [HE.out]; rfl,rfl⟩
  ·
   have HE : Hid (Dr.atI s d.fs = -1) := Lib.hid (Dr.atI_no (by
    rw [Bool.eq_false_iff]
    intro z
    obtain ⟨i,hi,e⟩ := has_iff.1 z
    exact HK.out i hi (by have := HN1.out; omega) e))
   go_wp2
   go_ret
   exact ⟨by rw [HE.out]; rfl,rfl⟩
def Dr.PowerE (P : Nat → Prop) (w : World) (p : Nat) (d : D) (v : Sl) (rs : List Rq.T) (e : Ending) (w' : World) : Prop :=
 ((d.left ≠ 0 ∧ e = .returned (.bool true) ∧ Dr.At P w' p (spent d) v rs) ∨ (d.left = 0 ∧ e = .returned (.bool false) ∧ Dr.At P w' p (down d) v rs)) ∧ UpdQ (fun b => b = p) w w'
theorem dr_power (h : Dr.At P w p d v rs) : Calls Try.prog 43 #[.pointer (some ⟨p,0,none⟩)] w (Dr.PowerE P w p d v rs) := by
 obtain ⟨c0,c1,c2⟩ := h.box.cells
 have f1 := h.box.frozen 1
 have f2 := h.box.frozen 2
 obtain ⟨hl1,hl2⟩ := h.ok.left
 by_cases h0 : d.left = 0
 ·
  have HO := Lib.hid (h.setOff true)
  rw [h0] at c1
  have HZ := Lib.hid h0
  clear h h0 hl1 hl2
  go_enter Try.func43,Try.ntmps43
  go_wp2
  go_ret
  exact ⟨.inr ⟨HZ.out,rfl,HO.out⟩,UpdQ.set (Q := fun b => b = p) w rfl _ _⟩
 ·
  have hq : (d.left == 0) = false := beq_eq_false_iff_ne.2 h0
  have HZ := Lib.hid h0
  by_cases h1 : 0 < d.left
  ·
   have HO : Hid (Dr.At P (w.setCell ⟨p,1,none⟩ (.int .i64 (d.left - 1))) p (spent d) v rs) := Lib.hid (by
    have h2 := h.setLeft (x := d.left - 1) ⟨by omega,by omega⟩
    have e : spent d = ⟨d.fs,d.off,d.left - 1⟩ := by
     unfold spent dec
     rw [if_pos h1]
    rw [e]
    exact h2)
   obtain ⟨lf,hlf⟩ : ∃ lf,d.left = lf := ⟨_,rfl⟩
   rw [hlf] at c1 HO hq hl1 hl2 h1
   clear h h0 hlf
   go_enter Try.func43,Try.ntmps43
   go_wp2
   go_ret
   exact ⟨.inl ⟨HZ.out,rfl,HO.out⟩,UpdQ.set (Q := fun b => b = p) w rfl _ _⟩
  ·
   have HO : Hid (Dr.At P w p (spent d) v rs) := Lib.hid (by
    have e : spent d = d := by
     unfold spent dec
     rw [if_neg h1]
    rw [e]
    exact h)
   obtain ⟨lf,hlf⟩ : ∃ lf,d.left = lf := ⟨_,rfl⟩
   rw [hlf] at c1 hq hl1 hl2 h1
   clear h h0 hlf
   go_enter Try.func43,Try.ntmps43
   go_wp2
   go_ret
   exact ⟨.inl ⟨HZ.out,rfl,HO.out⟩,UpdQ.refl _ _⟩
set_option maxHeartbeats 1000000 in
theorem dr_total (h : Dr.At P w p d v rs) :
  Calls Try.prog 31 #[.pointer (some ⟨p,0,none⟩)] w fun e w' => e = .returned (.int .i64 (total d.fs : Nat)) ∧ w' = w := by
 have HA := Lib.hid h
 have HL := Lib.hid h.ls
 obtain ⟨c0,c1,c2⟩ := h.box.cells
 obtain ⟨n1,n2,n3,n4⟩ := h.n
 have HN := Lib.hid n4
 have HN1 := Lib.hid n1
 have HRm := Lib.hid h.ok.room
 obtain ⟨ao,n,cap⟩ := v
 simp only at c0 n2 n3 HN HN1
 have hfew : n ≤ 1000 := by
  have h1 := h.few
  have h2 := HN1.out
  omega
 clear h n1 n4
 go_enter Try.func31,Try.ntmps31
 go_wp2
 go_loop [3,4] (fun t j => ∃ k m : Nat,k ≤ n ∧ m ≤ 4194304 ∧ j = .int .i64 k ∧ t = .int .i64 m ∧ Hid (total (d.fs.take k) = m)) (fun _ j => n - (intOf j).toNat)
 case atStart => exact ⟨0,0,by omega,by omega,rfl,rfl,Lib.hid rfl⟩
 case round =>
  obtain ⟨k,m,hk,hm,rfl,rfl,HT⟩ := hrel
  by_cases hlt : k < n
  ·
   obtain ⟨b,off,rfl⟩ := HL.out.at (by omega)
   have hkr : k < rs.length := HN.out ▸ hlt
   have hkf : k < d.fs.length := HA.out.each.len ▸ hkr
   have hrow := HL.out.row k hkr
   have HS := Lib.hid (Dk.total_take hkf)
   have ho := Dk.own_n (HA.out.each.own k hkr)
   have HLe := Lib.hid (Dk.total_take_le d.fs (k + 1))
   obtain ⟨r,hr⟩ : ∃ r,rs[k] = r := ⟨_,rfl⟩
   rw [hr] at hrow ho
   obtain ⟨o1,o2,o3⟩ := ho
   have hbn : m + r.bytes.n ≤ 4194304 := by
    have h1 := HS.out
    have h2 := HT.out
    have h3 := HLe.out
    have h4 := HRm.out
    omega
   have HM : Hid (total (d.fs.take (k + 1)) = m + r.bytes.n) := Lib.hid (by rw [HS.out,HT.out,o1])
   clear hr o1
   obtain ⟨g0,g1,g2⟩ := hrow
   go_wp2
   go_round
   case rel => exact ⟨k + 1,m + r.bytes.n,by omega,by omega,by go_num,by go_num,HM⟩
   case measure => simp [intOf]; omega
  ·
   obtain rfl : k = n := by omega
   have HM : Hid (total d.fs = m) := Lib.hid (by
    rw [← HT.out,List.take_of_length_le (by have := HN1.out; omega)])
   go_wp2
   go_ret
   exact ⟨by rw [HM.out]; rfl,rfl⟩
theorem dr_arm (n : Int) (hn : Fit n) (h : Dr.At P w p d v rs) : Calls Try.prog 27 #[.pointer (some ⟨p,0,none⟩),.int .i64 n] w fun e w' => e = .returned (.tuple #[]) ∧ Dr.At P w' p (armD d n) v rs ∧ UpdQ (fun b => b = p) w w' := by
 obtain ⟨c0,c1,c2⟩ := h.box.cells
 have f1 := h.box.frozen 1
 unfold Fit at hn
 by_cases h0 : n < 0
 ·
  have HO : Hid (Dr.At P (w.setCell ⟨p,1,none⟩ (.int .i64 (-1))) p (armD d n) v rs) := Lib.hid (by
   unfold armD
   rw [if_pos h0]
   exact h.setLeft ⟨by omega,by omega⟩)
  clear h
  go_enter Try.func27,Try.ntmps27
  go_wp2
  go_end0
  exact ⟨rfl,HO.out,UpdQ.set (Q := fun b => b = p) w rfl _ _⟩
 ·
  have HO : Hid (Dr.At P (w.setCell ⟨p,1,none⟩ (.int .i64 n)) p (armD d n) v rs) := Lib.hid (by
   unfold armD
   rw [if_neg h0]
   exact h.setLeft ⟨by omega,by omega⟩)
  clear h
  go_enter Try.func27,Try.ntmps27
  go_wp2
  go_end0
  exact ⟨rfl,HO.out,UpdQ.set (Q := fun b => b = p) w rfl _ _⟩
end
theorem dr_new (w : World) : Calls Try.prog 7 #[] w fun e w' => ∃ p,e = .returned (.pointer (some ⟨p,0,none⟩)) ∧ Dr.Dsk (fun b => w.heap.size ≤ b) w' p Dk.new ∧ Below w.heap.size w w' := by
 go_enter Try.func7,Try.ntmps7
 go_wp2
 go_ret
 refine ⟨_,rfl,⟨⟨none,0,0⟩,[],?_⟩,below_box (Below.refl _ _) _⟩
 exact ⟨heap_alloc_new w _,Rq.own_nil _ _,⟨rfl,fun i h => absurd h (Nat.not_lt_zero _),fun i h => absurd h (Nat.not_lt_zero _),fun i h => absurd h (Nat.not_lt_zero _)⟩,Nat.le_refl _,fun b e => (by cases e),fun i h => absurd h (Nat.not_lt_zero _),ok_new,by show (0 : Nat) ≤ _; omega⟩
end Go.Proofs.Ytegniklofhopeaa
