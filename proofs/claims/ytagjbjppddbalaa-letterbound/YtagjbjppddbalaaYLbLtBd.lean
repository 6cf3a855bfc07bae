/- LAWS OF PACKAGE letter: LetterBound. (By genltbd.py.) -/
import Derived.Test.YtagjbjppddbalaaZLb4
set_option maxRecDepth 100000
set_option linter.unusedVariables false
namespace Go.Proofs.Ytagjbjppddbalaa
open Go.RowKit
open Mem Pk
theorem Lr.room_app : ∀ a b : List Et.T,Lr.room (a ++ b) = Lr.room a + Lr.room b
 | [],b => by rw [List.nil_append,Lr.room,Nat.zero_add]
 | x :: a,b => by rw [List.cons_append,Lr.room,Lr.room,Lr.room_app a b]; omega
theorem Lr.room_take {l : List Et.T} {k : Nat} (h : k < l.length) : Lr.room (l.take (k + 1)) = Lr.room (l.take k) + (l[k].data.size + 24) := by
 rw [List.take_succ_eq_append_getElem h,Lr.room_app]
 simp [Lr.room]
set_option maxHeartbeats 2000000 in
theorem letterBound_walk (z0 : Lr.T) (W : World) (ws0 : Lr.Short z0) (w0 : Lr.Sub W z0) :
  Calls Try.prog 8 #[Lr.val z0] W fun e W' => e = .returned (.bool true) ∧ Below W.heap.size W W' := by
 obtain ⟨l0,hl0,hn0⟩ := w0
 have hl0' := hl0.below (Lr.below_own W z0)
 obtain ⟨hfl,hfn⟩ := Lr.few_ls hl0
 have HFl := Lib.hid hfl
 have HX := Lib.hid (Bx.box (Below.refl W.heap.size W) hl0)
 have HFe := Lib.hid (lw_few z0 l0 (Lr.box W z0) hl0')
 obtain ⟨r,hr⟩ : ∃ r,Lr.few z0 = r := ⟨_,rfl⟩
 obtain ⟨l,hll⟩ : ∃ l,l0.take 20 = l := ⟨_,rfl⟩
 rw [hr] at HFe
 rw [hr,hll] at HFl
 rw [hr] at hfn
 clear hl0 hl0' hfl hn0 ws0 hll hr
 obtain ⟨Y,hY⟩ : ∃ Y,Lr.box W z0 = Y := ⟨_,rfl⟩
 rw [hY] at HX HFe
 unfold Lr.box at hY
 have HY := Lib.hid hY
 clear hY
 unfold Lr.val at HFe ⊢
 go_enter Try.func8,Try.ntmps8
 go_wp2_with (go_at_call 13; rw [HY.out]; refine HFe.out.mono ?_)
 rintro e u1 ⟨rfl,b1⟩
 have HX1 := Lib.hid (HX.out.below b1)
 clear b1 HX HFe HY
 obtain ⟨a0,a1,a2,a3,a4,a5,a6,a7,a8,a9,a10,a11,a12⟩ := HX1.out.c
 have q0 := HX1.out.fz 0
 have q1 := HX1.out.fz 1
 have q2 := HX1.out.fz 2
 have q3 := HX1.out.fz 3
 have q4 := HX1.out.fz 4
 have q5 := HX1.out.fz 5
 have q6 := HX1.out.fz 6
 have q7 := HX1.out.fz 7
 have q8 := HX1.out.fz 8
 have q9 := HX1.out.fz 9
 have q10 := HX1.out.fz 10
 have q11 := HX1.out.fz 11
 have q12 := HX1.out.fz 12
 have HX2 := Lib.hid (HX1.out.lay (r' := r) HFl.out)
 obtain ⟨U2,hU2⟩ : ∃ U,Lr.lay u1 W.heap.size r = U := ⟨_,rfl⟩
 rw [hU2] at HX2
 unfold Lr.lay at hU2
 have HU2 := Lib.hid hU2
 clear hU2
 go_wp2_with fail
 rw [HU2.out]
 clear a0 a1 a2 a3 a4 a5 a6 a7 a8 a9 a10 a11 a12 q0 q1 q2 q3 q4 q5 q6 q7 q8 q9 q10 q11 q12 HU2 HX1
 have HPu := Lib.hid (Lr.lt_put r l U2 HX2.out.ls)
 unfold Lr.val at HPu
 cases hq : Lr.rightB (Lr.m r l)
 ·
  rw [show Lr.putM (Lr.m r l) = [] from if_neg (by rw [hq]; exact Bool.false_ne_true)] at HPu
  refine HPu.out.mono ?_
  rintro e u3 ⟨v3,rfl,o3,b3⟩
  obtain ⟨ao3,cap3,rfl,-,-⟩ := By.own_ls o3
  have HX3 := Lib.hid (HX2.out.below b3)
  have HCr := Lib.hid (lt_right r l u3 HX3.out.ls)
  rw [hq] at HCr
  unfold Lr.val at HCr
  clear b3 o3 hq HX2 HPu
  obtain ⟨a0,a1,a2,a3,a4,a5,a6,a7,a8,a9,a10,a11,a12⟩ := HX3.out.c
  go_wp2_with (go_at_call 17; refine HCr.out.mono ?_)
  rintro e u4 ⟨rfl,b4⟩
  have HB4 := Lib.hid (bchain HX3.out.bel b4)
  clear b4 HX3 HCr a0 a1 a2 a3 a4 a5 a6 a7 a8 a9 a10 a11 a12
  go_wp2_with (go_at_call 3; refine (lruns u4).mono ?_)
  rintro e u5 ⟨rfl,b5⟩
  have HB5 := Lib.hid (bchain HB4.out b5)
  clear b5
  go_wp2_with fail
  go_ret
  exact ⟨rfl,HB5.out⟩
 ·
  rw [show Lr.putM (Lr.m r l) = (Lr.m r l).bytes from if_pos hq] at HPu
  have HLen := Lib.hid (Lr.bytes_len hq)
  have HOk := Lib.hid (Lr.ok_of hq)
  refine HPu.out.mono ?_
  rintro e u3 ⟨v3,rfl,o3,b3⟩
  obtain ⟨ao3,cap3,rfl,-,-⟩ := By.own_ls o3
  have HX3 := Lib.hid (HX2.out.below b3)
  have HCr := Lib.hid (lt_right r l u3 HX3.out.ls)
  rw [hq] at HCr
  unfold Lr.val at HCr
  obtain ⟨n4,hn4⟩ : ∃ n,(Lr.m r l).bytes.length = n := ⟨_,rfl⟩
  rw [hn4] at HLen ⊢
  clear b3 o3 hq HX2 HPu hn4
  obtain ⟨a0,a1,a2,a3,a4,a5,a6,a7,a8,a9,a10,a11,a12⟩ := HX3.out.c
  go_wp2_with (go_at_call 17; refine HCr.out.mono ?_)
  rintro e u4 ⟨rfl,b4⟩
  have HX4 := Lib.hid (HX3.out.below b4)
  clear b4 HX3 HCr a0 a1 a2 a3 a4 a5 a6 a7 a8 a9 a10 a11 a12
  obtain ⟨-,-,-,-,-,-,-,-,-,-,-,a11,a12⟩ := HX4.out.c
  have hds : r.data.size ≤ 600 := HOk.out.data
  have HN := Lib.hid HX4.out.ls.len
  have hf := HX4.out.ls.fits
  have hc := HX4.out.ls.reach
  have HEs : Hid (∀ k,Lr.room (l.take k) ≤ 100000) := Lib.hid fun k => by
   have h1 := Lr.room_le (l.take k) fun e he => (HOk.out.ents e (List.mem_of_mem_take he)).2.2
   have h2 : l.length ≤ 8 := HOk.out.n
   rw [List.length_take] at h1
   omega
  go_wp2_with fail
  go_loop [4,5] (fun t i => ∃ k : Nat,k ≤ r.ents.n ∧ i = .int .i64 k ∧ ∃ q : Nat,t = .int .i64 (120 + (r.data.size : Int) + (q : Int)) ∧ Hid (q = Lr.room (l.take k)) ∧ q ≤ 100000) (fun _ i => r.ents.n - (intOf i).toNat)
  case atStart => exact ⟨0,by omega,rfl,0,by simp,Lib.hid rfl,by omega⟩
  case round =>
   obtain ⟨k,hk,rfl,q,rfl,HQ,hqb⟩ := hrel
   by_cases hlt : k < r.ents.n
   ·
    obtain ⟨b,off,hao⟩ := HX4.out.ls.at (by omega)
    have hkl : k < l.length := HN.out ▸ hlt
    have hL1 := HX4.out.ls
    rw [hao] at hL1 a12
    have hrow := hL1.row k hkl
    have hxd : l[k].data.size ≤ 1100 := (HOk.out.ents _ (List.getElem_mem hkl)).2.2
    have HSt := Lib.hid (Lr.room_take hkl)
    obtain ⟨x,hx⟩ : ∃ x,l[k] = x := ⟨_,rfl⟩
    rw [hx] at hrow hxd HSt
    obtain ⟨g0,g1,g2⟩ := hrow
    clear hx hL1
    go_wp2
    go_round
    case rel => exact ⟨k + 1,by omega,by go_num,q + (x.data.size + 24),by go_num,Lib.hid (by rw [HSt.out,HQ.out]),by have := HEs.out (k + 1); rw [HSt.out,← HQ.out] at this; omega⟩
    case measure => simp [intOf]; omega
   ·
    obtain rfl : k = r.ents.n := by omega
    have hend : 13 ≤ n4 ∧ n4 ≤ 120 + r.data.size + q := by
     rw [HQ.out,List.take_of_length_le (by have := HN.out; omega)]
     exact HLen.out
    obtain ⟨e1,e2⟩ := hend
    have e1' : (13 : Int) ≤ (n4 : Int) := by omega
    have e2' : (n4 : Int) ≤ 120 + (r.data.size : Int) + (q : Int) := by omega
    clear e1 e2 HQ a11
    go_wp2_with (go_at_call 3; refine (lruns u4).mono ?_; rintro e u5 ⟨rfl,b5⟩; have HB5 := Lib.hid (bchain HX4.out.bel b5); clear b5)
    go_ret
    exact ⟨rfl,HB5.out⟩
end Go.Proofs.Ytagjbjppddbalaa
