/- THE WALK OF PostBalances. -/
import Derived.Test.YtgnepgkmjgpkeaaPRn
import Derived.Test.YtgnepgkmjgpkeaaPoX
import Derived.Test.YtgnepgkmjgpkeaaBaP
import Derived.Test.YtgnepgkmjgpkeaaBookZ
import Derived.Test.YtgnepgkmjgpkeaaTtK
import Derived.Deep.RegionHeldLaw
import Derived.Deep.RegionLaw
import Derived.Deep.DeepCutAuto
import Derived.Deep.CutBlock
set_option maxRecDepth 100000
set_option linter.unusedVariables false
namespace Go.Proofs.Ytgnepgkmjgpkeaa
open Go.RowKit
open Mem

theorem str_at (u : World) (g j : Nat) (h : u.cell? ⟨g, 0, none⟩ = some (.int .u8 (97 + (j : Int)))) : (convert 45 9 (.slice (some ⟨g, 0, none⟩) 1 1)).run Try.prog u = .ok (.string (Po.letter j)) u := by
  have hr := run_convert_bytes_arg (P := Try.prog) u 45 5 Try.underlying45 Try.underlying5 g 0 1 1 [97 + (j : Int)] rfl (fun i hi => by
    have : i = 0 := by omega
    subst this
    simpa using h) 9 Try.underlying9
  rw [hr]
  unfold Po.letter
  rw [show (97 + (j : Int)) = ((97 + j : Nat) : Int) by omega]
  rfl
theorem cell_new (u : World) (v : Value) : (u.alloc (.cells #[v] 5)).drew.cell? ⟨u.heap.size, 0, none⟩ = some v := cell_of_row _ _ 0 _ _ _ (heap_alloc_new u (.cells #[v] 5))
theorem cell_next (u : World) (v : Value) (o : Obj) : ((u.alloc (.cells #[v] 5)).alloc o).drew.cell? ⟨u.heap.size, 0, none⟩ = some v := cell_of_row _ _ 0 _ _ _ (heap_old (heap_alloc_new u (.cells #[v] 5)))
theorem cell_behind (u : World) (v : Value) (o : Obj) : ((u.alloc o).alloc (.cells #[v] 5)).drew.cell? ⟨u.heap.size + 1, 0, none⟩ = some v := cell_of_row _ _ 0 _ _ _ (heap_next u o (.cells #[v] 5))
theorem part_new (u : World) (s : ByteArray) (x y : Int) (o : Obj) : Pt.Block ((u.alloc o).alloc (.cells #[.string s, .int .i64 0, .int .i64 x, .int .i64 y] 27)).drew (u.heap.size + 1) [⟨s, 0, x, y⟩] := heap_next u o _
theorem part_old (u : World) (s : ByteArray) (x y : Int) (o : Obj) : Pt.Block ((u.alloc (.cells #[.string s, .int .i64 0, .int .i64 x, .int .i64 y] 27)).alloc o).drew u.heap.size [⟨s, 0, x, y⟩] := heap_old (heap_alloc_new u _)
/-- the total as it grows -/
structure PSt (w wr : World) (h : Nat) (N X : Int) (vo : Option Addr) (j vc : Nat) (P : List Pt.T) : Prop where
  bel : Below w.heap.size w wr
  ge : w.heap.size ≤ h
  tot : Tt.At wr h N X 0 (.slice vo j vc)
  own : Pt.Own wr (h + 1) (.slice vo j vc) P
  sum : Po.both P = N + X
  cats : P.map (·.cat) = (List.range j).map Po.letter
  sm : ∀ p ∈ P, (p.net.natAbs ≤ 1099511627776 ∧ p.tax.natAbs ≤ 1099511627776) ∧ Pt.Short p
theorem PSt.keep {w wz wx w2 : World} {h b : Nat} {N X : Int} {vo : Option Addr} {j vc : Nat} {P : List Pt.T} {r : Pt.T} {o : Obj} (H : PSt w wz h N X vo j vc P) (hb : Below wz.heap.size wz wx) (hB : wz.heap.size ≤ b) (hk : Pt.Block wx b [r]) (gr : (wx.alloc o).grownBy w2 (Value.slice vo j vc).ownBlock) :
    Tt.At w2 h N X 0 (.slice vo j vc) ∧ Pt.Block w2 b [r] ∧ Below w.heap.size w w2 ∧ h < b := by
  have hown : ∀ k, (Value.slice vo j vc).ownBlock = some k → h + 1 ≤ k ∧ k < wz.heap.size := by
    intro k hk
    refine ⟨Pt.own_ge H.own k hk, ?_⟩
    rcases H.own.2 with ⟨h', _⟩ | ⟨g, cap, cur, h', _, hg, _⟩
    · rw [h'] at hk
      cases hk
    · rw [h'] at hk
      simp only [Value.ownBlock, Option.some.injEq] at hk
      subst hk
      obtain ⟨hl, _⟩ := Array.getElem?_eq_some_iff.1 hg
      exact hl
  have hlt := H.tot.lt
  have hge := H.ge
  refine ⟨?_, ?_, ?_, by omega⟩
  · have h1 := H.tot.below hb
    exact blk_keep gr (heap_old h1) fun e => by have := (hown h e.symm).1; omega
  · exact blk_keep gr (heap_old hk) fun e => by have := (hown b e.symm).2; omega
  · refine (below_box (bchain H.bel hb) o).grown gr ?_ fun k hk => ?_
    · have h1 := H.bel.size
      have h2 := hb.size
      simp
      omega
    · have := (hown k hk).1
      omega
theorem PSt.next {w wz w4 : World} {h : Nat} {N X q1 q2 : Int} {vo uo : Option Addr} {j vc uc : Nat} {P : List Pt.T} (H : PSt w wz h N X vo j vc P) (hq1 : -1099511627776 ≤ q1 ∧ q1 ≤ 1099511627776) (hq2 : -1099511627776 ≤ q2 ∧ q2 ≤ 1099511627776) (bel : Below w.heap.size w w4) (tot : Tt.At w4 h (N + q1) (X + q2) 0 (.slice uo (j + 1) uc)) (own : Pt.Own w4 (h + 1) (.slice uo (j + 1) uc) (P ++ [⟨Po.letter j, 0, q1, q2⟩])) :
    PSt w w4 h (N + q1) (X + q2) uo (j + 1) uc (P ++ [⟨Po.letter j, 0, q1, q2⟩]) := by
  refine ⟨bel, H.ge, tot, own, ?_, ?_, ?_⟩
  · have e : ∀ l m : List Pt.T, Po.both (l ++ m) = Po.both l + Po.both m := by
      intro l m
      induction l with
      | nil => show _ = 0 + _; rw [List.nil_append]; omega
      | cons a l ih => rw [List.cons_append, Po.both, Po.both, ih]; omega
    rw [e, H.sum]
    show N + X + (q1 + q2 + 0) = _
    omega
  · rw [List.map_append, H.cats, List.range_succ, List.map_append]
    rfl
  · intro p hp
    rcases List.mem_append.1 hp with hp | hp
    · exact H.sm p hp
    · obtain rfl := List.mem_singleton.1 hp
      refine ⟨⟨by show q1.natAbs ≤ _; omega, by show q2.natAbs ≤ _; omega⟩, ?_, ?_, ?_, ?_⟩
      · show (1 : Nat) ≤ _
        omega
      · exact ⟨by show (-9223372036854775808 : Int) ≤ 0; omega, by show (0 : Int) ≤ 9223372036854775807; omega⟩
      · exact ⟨by show -9223372036854775808 ≤ q1; omega, by show q1 ≤ 9223372036854775807; omega⟩
      · exact ⟨by show -9223372036854775808 ≤ q2; omega, by show q2 ≤ 9223372036854775807; omega⟩
theorem PSt.len {w wr : World} {h : Nat} {N X : Int} {vo : Option Addr} {j vc : Nat} {P : List Pt.T} (H : PSt w wr h N X vo j vc P) : P.length = j := by
  have h1 := congrArg List.length H.cats
  simpa using h1
theorem PSt.cat {w wr : World} {h : Nat} {N X : Int} {vo : Option Addr} {j vc : Nat} {P : List Pt.T} (H : PSt w wr h N X vo j vc P) : ∀ p ∈ P, p.cat.size ≤ 140737488351232 := by
  intro p hp
  have h1 : p.cat ∈ P.map (·.cat) := List.mem_map.2 ⟨p, hp, rfl⟩
  rw [H.cats] at h1
  obtain ⟨i, _, e⟩ := List.mem_map.1 h1
  rw [← e]
  show (1 : Nat) ≤ _
  omega
theorem PSt.good {w wr : World} {h : Nat} {N X : Int} {vo : Option Addr} {j vc : Nat} {P : List Pt.T} (H : PSt w wr h N X vo j vc P) : ∀ p ∈ P, Po.badE p = false := by
  intro p hp
  obtain ⟨⟨h1, h2⟩, _⟩ := H.sm p hp
  exact Po.bad_no (Mn.err_fit ⟨by omega, by omega⟩) (Mn.err_fit ⟨by omega, by omega⟩)
theorem PSt.mag {w wr : World} {h : Nat} {N X : Int} {vo : Option Addr} {j vc : Nat} {P : List Pt.T} (H : PSt w wr h N X vo j vc P) (hj : j ≤ 12) (hN : -1099511627776 * (j : Int) ≤ N ∧ N ≤ 1099511627776 * (j : Int)) (hX : -1099511627776 * (j : Int) ≤ X ∧ X ≤ 1099511627776 * (j : Int)) : Po.mag (Po.entrL (N + X) P) ≤ 52776558133248 := by
  have h1 := Po.flat_mag (B := 1099511627776) (ps := P) fun p hp => (H.sm p hp).1
  rw [H.len] at h1
  show (N + X).natAbs + Po.mag (P.flatMap Po.rowsOf) ≤ _
  omega
theorem PSt.ls {w wr : World} {h : Nat} {N X : Int} {vo : Option Addr} {j vc : Nat} {P : List Pt.T} (H : PSt w wr h N X vo j vc P) : Pt.Ls wr vo j vc P := by
  obtain ⟨ao', cap', e, hL, _⟩ := Pt.own_ls H.own fun p hp => (H.sm p hp).2
  simp only [Value.slice.injEq] at e
  obtain ⟨e1, e2, e3⟩ := e
  rw [e1, e3, e2]
  exact hL
set_option maxHeartbeats 8000000 in
theorem postBalances_walk (zs : List Pt.T) (ao : Option Addr) (n cap : Nat) (times : Int) (w : World) (hL : Pt.Ls w ao n cap zs) (ht : Fit times) :
    Calls Try.prog 5 #[.slice ao n cap, .int .i64 times] w fun e w' => e = .returned (.bool true) ∧ Below w.heap.size w w' := by
  have HL := Lib.hid hL
  have HT := Lib.hid ht
  have HLn := Lib.hid hL.len
  have hfit := hL.fits
  have hcap := hL.reach
  clear hL ht
  have HP0 : Hid (PSt w (Tt.box w 0 0 0 (.slice none 0 0)) w.heap.size 0 0 none 0 0 []) := Lib.hid ⟨Tt.below_own w _ _ _ _, Nat.le_refl _, Tt.at_box w _ _ _ _, Pt.own_nil _ _, rfl, rfl, by simp⟩
  go_enter Try.func5, Try.ntmps5
  go_wp2_with fail
  rw [show w.alloc (.cells #[.int .i64 0, .int .i64 0, .int .i64 0, .slice none 0 0] 30) = Tt.box w 0 0 0 (.slice none 0 0) from rfl]
  generalize Tt.box w 0 0 0 (.slice none 0 0) = U at *
  obtain ⟨h, hh⟩ : ∃ h, w.heap.size = h := ⟨_, rfl⟩
  rw [hh] at HP0
  try rw [hh]
  clear hh
  go_loopw [6] (fun i wr => ∃ (j : Nat) (N X : Int) (vo : Option Addr) (vc : Nat) (P : List Pt.T), j ≤ n ∧ j ≤ 12 ∧ i = .int .i64 j ∧ (-1099511627776 * (j : Int) ≤ N ∧ N ≤ 1099511627776 * (j : Int)) ∧ (-1099511627776 * (j : Int) ≤ X ∧ X ≤ 1099511627776 * (j : Int)) ∧ Hid (PSt w wr h N X vo j vc P)) (fun i _ => n - (intOf i).toNat)
  case atStart => exact ⟨0, 0, 0, none, 0, [], by omega, by omega, rfl, by omega, by omega, HP0⟩
  case round =>
    clear HP0
    rename World => wz
    obtain ⟨j, N, X, vo, vc, P, hj, hj12, rfl, hN, hX, H⟩ := hrel
    by_cases hlt : j < n ∧ j < 12
    · obtain ⟨hjn, hj1⟩ := hlt
      obtain ⟨pb, off, rfl⟩ := HL.out.at (by omega)
      have hjl : j < zs.length := by rw [← HLn.out]; exact hjn
      have hrow := HL.out.row j hjl
      have HSr := Lib.hid (HL.out.short _ (List.getElem_mem hjl))
      obtain ⟨r, hr⟩ : ∃ r, zs[j] = r := ⟨_, rfl⟩
      rw [hr] at hrow HSr
      have HRo := Lib.hid (hrow.below H.out.bel)
      clear hr hrow
      go_wp2_with fail
      go_cut [7] (fun p wx => ∃ (b : Nat) (q1 q2 : Int), p = .pointer (some ⟨b, 0, none⟩) ∧ (-1099511627776 ≤ q1 ∧ q1 ≤ 1099511627776) ∧ (-1099511627776 ≤ q2 ∧ q2 ≤ 1099511627776) ∧ Hid (Below wz.heap.size wz wx ∧ wz.heap.size ≤ b ∧ Pt.Block wx b [⟨Po.letter j, 0, q1, q2⟩]))
      case first =>
        have lx : ∀ u, Below wz.heap.size wz u → Below wz.heap.size wz u ∧ u.cell? ⟨pb, off + j * 4 + 2, none⟩ = some (.int .i64 r.net) ∧ u.cell? ⟨pb, off + j * 4 + 3, none⟩ = some (.int .i64 r.tax) := fun u h => ⟨h, (HRo.out.below h).c2, (HRo.out.below h).c3⟩
        obtain ⟨-, -, c2, c3⟩ := HRo.out
        have hw1 : IntKind.i64.wrap (97 + (j : Int)) = 97 + (j : Int) := by rw [IntKind.wrap_i64] <;> omega
        have hw2 : IntKind.u8.wrap (97 + (j : Int)) = 97 + (j : Int) := by rw [IntKind.wrap_u8] <;> omega
        have k1 := fun u : World => str_at (u.alloc (.cells #[.int .u8 (97 + (j : Int))] 5)).drew u.heap.size j (cell_new u _)
        have k2 := fun (u : World) (o : Obj) => str_at ((u.alloc (.cells #[.int .u8 (97 + (j : Int))] 5)).alloc o).drew u.heap.size j (cell_next u _ o)
        have k3 := fun (u : World) (o : Obj) => str_at ((u.alloc o).alloc (.cells #[.int .u8 (97 + (j : Int))] 5)).drew (u.heap.size + 1) j (cell_behind u _ o)
        go_region_held_law (fun u => Below wz.heap.size wz u ∧ u.cell? ⟨pb, off + j * 4 + 2, none⟩ = some (.int .i64 r.net) ∧ u.cell? ⟨pb, off + j * 4 + 3, none⟩ = some (.int .i64 r.tax)) (first | with_reducible assumption | (apply lx; repeat (first | with_reducible assumption | with_reducible apply below_box | with_reducible apply Below.drew | with_reducible apply Mem.bset | with_reducible exact Below.refl _ _ | omega)) | fail) (first | (go_at_call 21; refine (bookWithin_z _ (-1099511627776) 1099511627776 _ (by first | exact HSr.out.2.2.1 | exact HSr.out.2.2.2) (by omega) (by omega) (by omega)).mono ?_; rintro e wq ⟨⟨q, rfl, hq⟩, hx⟩; subst hx) | fail)
        all_goals (try go_wp2_with fail)
        all_goals go_meet
        all_goals first
          | refine ⟨_, _, _, rfl, ?_, ?_, Lib.hid ⟨(below_box (below_box (Below.refl _ _) _) _).drew, Nat.le_succ _, part_new wz (Po.letter j) _ _ _⟩⟩ <;> assumption
          | refine ⟨_, _, _, rfl, ?_, ?_, Lib.hid ⟨(below_box (below_box (Below.refl _ _) _) _).drew, Nat.le_refl _, part_old wz (Po.letter j) _ _ _⟩⟩ <;> assumption
      case rest =>
        obtain ⟨b, q1, q2, rfl, hq1, hq2, HC⟩ := hcut
        rename World => wx
        have hTa := H.out.tot.below HC.out.1
        obtain ⟨t0, t1, t2, t3⟩ := hTa.cells
        have tf0 := hTa.frozen 0
        have tf1 := hTa.frozen 1
        have tf3 := hTa.frozen 3
        have HTa := Lib.hid hTa
        obtain ⟨p0, p1, p2, p3⟩ := HC.out.2.2.row 0 (by simp)
        simp only [Nat.zero_mul, Nat.zero_add, List.getElem_cons_zero] at p0 p1 p2 p3
        have HOw := Lib.hid (Pt.own_below H.out.own HC.out.1)
        have HPl : Hid (P.length = j) := Lib.hid (by have h1 := congrArg List.length H.out.cats; simpa using h1)
        clear hTa
        go_wp2_with (at_builtin; go_must (refine Pt.wpList_append _ rfl (.tmp 43) (.tmp 45) rfl (h + 1) (.slice vo j vc) P rfl (Pt.own_alloc HOw.out _) (some ⟨wx.heap.size, 0, none⟩) 1 1 [⟨Po.letter j, 0, q1, q2⟩] rfl rfl (fun k => by cases k) (Pt.seg_block (heap_alloc_new wx _)) (by rw [HPl.out]; omega) (by have := HTa.out.lt; simp; omega) ?_))
        intro v1 w2 o1 gr1 _
        obtain ⟨uo, uc, e1, hUl, hug⟩ := Pt.own_ls o1 (by
          intro p hp
          rcases List.mem_append.1 hp with hp | hp
          · exact (H.out.sm p hp).2
          · obtain rfl := List.mem_singleton.1 hp
            exact ⟨by show (1 : Nat) ≤ _; omega, ⟨by show (-9223372036854775808 : Int) ≤ 0; omega, by show (0 : Int) ≤ 9223372036854775807; omega⟩, ⟨by show -9223372036854775808 ≤ q1; omega, by show q1 ≤ 9223372036854775807; omega⟩, ⟨by show -9223372036854775808 ≤ q2; omega, by show q2 ≤ 9223372036854775807; omega⟩⟩)
        have el : (P ++ [(⟨Po.letter j, 0, q1, q2⟩ : Pt.T)]).length = j + 1 := by rw [List.length_append, HPl.out]; rfl
        rw [el] at e1
        subst e1
        obtain ⟨hA2, hB2, hb2, hhb⟩ := H.out.keep HC.out.1 HC.out.2.1 HC.out.2.2 gr1
        have HO2 : Hid (Pt.Own (w2.setCell ⟨h, 3, none⟩ (.slice uo (j + 1) uc)) (h + 1) (.slice uo (j + 1) uc) (P ++ [⟨Po.letter j, 0, q1, q2⟩])) := Lib.hid (Pt.own_far o1 (by omega) _ _)
        have HA3 := Lib.hid (hA2.set3 (.slice uo (j + 1) uc))
        have HB3 : Hid (Below w.heap.size w (w2.setCell ⟨h, 3, none⟩ (.slice uo (j + 1) uc))) := Lib.hid (hb2.setCell H.out.ge _)
        have hB3 : Pt.Block (w2.setCell ⟨h, 3, none⟩ (.slice uo (j + 1) uc)) b [⟨Po.letter j, 0, q1, q2⟩] := by
          unfold Pt.Block
          rw [heap_setCell_other w2 ⟨h, 3, none⟩ b _ (by show b ≠ h; omega)]
          exact hB2
        have HB3k := Lib.hid hB3
        obtain ⟨t0, t1, t2, t3⟩ := hA2.cells
        have tf3 := hA2.frozen 3
        clear o1 gr1 hUl hug el hA2 hB2 hb2 hB3
        go_wp2_with fail
        obtain ⟨y, hy⟩ : ∃ y, w2.setCell ⟨h, 3, none⟩ (.slice uo (j + 1) uc) = y := ⟨_, rfl⟩
        try rw [hy]
        rw [hy] at HO2 HA3 HB3 HB3k
        clear hy t0 t1 t2 t3 tf3
        obtain ⟨t0, t1, -, -⟩ := HA3.out.cells
        have tf0 := HA3.out.frozen 0
        have tf1 := HA3.out.frozen 1
        obtain ⟨-, -, p2, p3⟩ := HB3k.out.row 0 (by simp)
        simp only [Nat.zero_mul, Nat.zero_add, List.getElem_cons_zero] at p2 p3
        have hne : ¬ h = b := by omega
        have hne' : ¬ b = h := by omega
        have HN : Hid (PSt w ((y.setCell ⟨h, 0, none⟩ (.int .i64 (N + q1))).setCell ⟨h, 1, none⟩ (.int .i64 (X + q2))).drew h (N + q1) (X + q2) uo (j + 1) uc (P ++ [⟨Po.letter j, 0, q1, q2⟩])) := Lib.hid (H.out.next hq1 hq2 ((HB3.out.setCell H.out.ge _).setCell H.out.ge _).drew ((HA3.out.set0 (N + q1)).set1 (X + q2)) (Pt.own_far (Pt.own_far HO2.out (show h < h + 1 by omega) _ _) (show h < h + 1 by omega) _ _))
        go_region
        go_wp2_with fail
        go_roundw
        case rel => exact ⟨j + 1, N + q1, X + q2, uo, uc, P ++ [⟨Po.letter j, 0, q1, q2⟩], by omega, by omega, by go_num, by omega, by omega, HN⟩
        case measure => simp [intOf]; omega
    · have hcs : ¬ j < n ∨ (j < n ∧ ¬ j < 12) := by omega
      clear hlt
      obtain ⟨t0, t1, t2, t3⟩ := H.out.tot.cells
      have tf2 := H.out.tot.frozen 2
      have HA5 := Lib.hid (H.out.tot.set2 (N + X))
      have HB5 : Hid (Below w.heap.size w (wz.setCell ⟨h, 2, none⟩ (.int .i64 (N + X)))) := Lib.hid (H.out.bel.setCell H.out.ge _)
      have HL5 : Hid (Pt.Ls (wz.setCell ⟨h, 2, none⟩ (.int .i64 (N + X))) vo j vc P) := Lib.hid (by
        obtain ⟨ao', cap', e, hL, _⟩ := Pt.own_ls (Pt.own_far H.out.own (show h < h + 1 by omega) 2 (.int .i64 (N + X))) fun p hp => (H.out.sm p hp).2
        simp only [Value.slice.injEq] at e
        obtain ⟨e1, e2, e3⟩ := e
        rw [e1, e3, e2]
        exact hL)
      have HFG : Hid (Fit (N + X)) := Lib.hid ⟨by omega, by omega⟩
      have HOk := Lib.hid (Po.entr_ok (N + X) H.out.good)
      have HMg := Lib.hid (H.out.mag hj12 hN hX)
      have HCt := Lib.hid H.out.cat
      have HNd : Hid (((Po.entrL (N + X) P).map (·.acct)).Nodup) := Lib.hid (by rw [Po.entrL_accts, H.out.cats]; exact Po.accts_nodup hj12)
      have HSu : Hid (Po.sumA (Po.entrL (N + X) P) = 0) := Lib.hid (by rw [Po.entr_sum, H.out.sum]; omega)
      have HSh : Hid (∀ r ∈ Po.entrL (N + X) P, Ba.Short r) := Lib.hid (entr_short HFG.out (fun x hx => (H.out.sm x hx).2) HCt.out H.out.good)
      have HLe : Hid ((Po.entrL (N + X) P).length = 2 * j + 1) := Lib.hid (by rw [Po.entrL_len, H.out.len])
      have hne : ((2 * (j : Int) + 1) != (2 * (j : Int) + 1)) = false := bne_self_eq_false _
      clear H
      rcases hcs with hcs | ⟨hcs1, hcs2⟩
      all_goals
        go_wp2_with fail
        obtain ⟨y, hy⟩ : ∃ y, wz.setCell ⟨h, 2, none⟩ (.int .i64 (N + X)) = y := ⟨_, rfl⟩
        rw [hy] at HA5 HB5 HL5
        try rw [hy]
        clear hy t0 t1 t2 t3 tf2
        refine (post_entries N X (N + X) P vo j vc _ HL5.out HFG.out (by omega) HCt.out).mono ?_
        rintro e w6 ⟨v6, rfl, o6, b6⟩
        rw [HOk.out.1]
        rw [HOk.out.2] at o6
        have HA6 := Lib.hid (HA5.out.below b6)
        have HB6 := Lib.hid (bchain HB5.out b6)
        obtain ⟨L, hL⟩ : ∃ L, Po.entrL (N + X) P = L := ⟨_, rfl⟩
        rw [hL] at o6 HMg HNd HSu HSh HLe
        obtain ⟨lo, lc, rfl, hL6, hlf, hlr⟩ := Ba.own_lit o6 HSh.out HLe.out
        have HL6 := Lib.hid hL6
        have HBa : Hid (Po.balB L = true) := Lib.hid (decide_eq_true HSu.out)
        clear o6 b6 hL6 hL HA5 HB5 HL5
        go_wp2_with fail
        refine (post_balanced L lo (2 * j + 1) lc w6 _ (Below.refl _ _) HL6.out (by omega)).mono ?_
        rintro e w7 ⟨rfl, b7⟩
        rw [HBa.out]
        have HA7 := Lib.hid (HA6.out.below b7)
        have HB7 := Lib.hid (bchain HB6.out b7)
        have HL7 := Lib.hid (HL6.out.below b7)
        clear b7 HA6 HB6 HL6
        go_wp2_with fail
        refine (bookWithin_z times 1 20 _ HT.out (by omega) (by omega) (by omega)).mono ?_
        rintro e w8 ⟨⟨r, rfl, hr0, hr1⟩, hw8⟩
        have hw9 := hw8.symm
        clear hw8
        subst hw9
        obtain ⟨m0, rfl⟩ : ∃ m0 : Nat, r = (m0 : Int) := ⟨r.toNat, by omega⟩
        go_wp2_with fail
        go_loopw [10, 11, 12, 13] (fun a i _ _ wr => ∃ (t m q c : Nat) (bo : Option Addr) (B : List Ba.T), t + m = m0 ∧ i = .int .i64 m ∧ a = .slice bo q c ∧ q ≤ 1000 ∧ Hid (Below w7.heap.size w7 wr) ∧ Hid (Ba.Ls wr bo q c B) ∧ Hid (Po.Again L B t)) (fun _ i _ _ _ => (intOf i).toNat)
        case atStart => exact ⟨0, m0, 0, 0, none, [], by omega, rfl, rfl, by omega, Lib.hid (Below.refl _ _), Lib.hid (Ba.ls_nil _), Lib.hid (Po.again_nil L)⟩
        case round =>
          rename World => wy
          obtain ⟨t, m, q, c, bo, B, htm, rfl, rfl, hq, HBy, HLb, HAg⟩ := hrel
          by_cases hm : 0 < m
          · obtain ⟨m', rfl⟩ : ∃ m', m = m' + 1 := ⟨m - 1, by omega⟩
            have hst := Po.again_step HAg.out HNd.out HSu.out HSh.out (Nat.le_trans (Nat.mul_le_mul (show t + 1 ≤ 20 by omega) HMg.out) (by decide))
            have HSt := Lib.hid hst
            have htm2 : t + 1 + m' ≤ m0 ∧ m0 ≤ t + 1 + m' := by omega
            clear hst htm
            have hfb := HLb.out.fits
            have hcb := HLb.out.reach
            go_wp2_with fail
            refine (post_enter B L bo lo q c (2 * j + 1) lc _ HLb.out (HL7.out.below HBy.out) hq (by omega)).mono ?_
            rintro e w9 ⟨v9, rfl, o9, b9⟩
            rw [HSt.out.1.1]
            rw [HSt.out.1.2] at o9
            have HB9 := Lib.hid (bchain HBy.out b9)
            have HAg9 := Lib.hid HSt.out.2.1
            obtain ⟨B9, hB9⟩ : ∃ B9, Po.goL L B = B9 := ⟨_, rfl⟩
            have HLn9 : Hid (B9.length = 2 * j + 1) := Lib.hid (by rw [← hB9, HSt.out.2.2, HLe.out])
            rw [hB9] at o9 HAg9
            obtain ⟨bo9, c9, rfl, hL9, hlf9, hlr9⟩ := Ba.own_lit o9 HAg9.out.short HLn9.out
            have HL9 := Lib.hid hL9
            have HR9 : Hid (Po.rightB B9 = true) := Lib.hid ((Po.right_iff B9).2 HAg9.out.so)
            have HBa9 : Hid (Po.balB B9 = true) := Lib.hid (decide_eq_true HAg9.out.sum)
            clear o9 b9 hL9 hB9 HSt HAg HLb
            go_wp2_with fail
            refine (post_right B9 bo9 (2 * j + 1) c9 w9 _ (Below.refl _ _) HL9.out).mono ?_
            rintro e wa ⟨rfl, ba⟩
            rw [HR9.out]
            have HBa2 := Lib.hid (bchain HB9.out ba)
            have HLa := Lib.hid (HL9.out.below ba)
            clear ba HB9 HL9
            go_wp2_with fail
            refine (post_balanced B9 bo9 (2 * j + 1) c9 wa _ (Below.refl _ _) HLa.out (by omega)).mono ?_
            rintro e wb ⟨rfl, bb⟩
            rw [HBa9.out]
            have HBb := Lib.hid (bchain HBa2.out bb)
            have HLb := Lib.hid (HLa.out.below bb)
            obtain ⟨-, -, -, t3⟩ := (HA7.out.below HBb.out).cells
            clear bb HBa2 HLa
            go_wp2_with fail
            go_roundw
            case rel => exact ⟨t + 1, m', 2 * j + 1, c9, bo9, B9, by omega, by go_num, rfl, by omega, HBb, HLb, HAg9⟩
            case measure => simp [intOf]
          · obtain rfl : m = 0 := by omega
            go_wp2_with fail
            refine (pruns w7 _ HBy.out).mono ?_
            rintro e wc ⟨rfl, bc⟩
            have HBc := Lib.hid bc
            clear bc
            go_wp2_with fail
            go_ret
            exact ⟨rfl, bchain HB7.out HBc.out⟩
end Go.Proofs.Ytgnepgkmjgpkeaa
