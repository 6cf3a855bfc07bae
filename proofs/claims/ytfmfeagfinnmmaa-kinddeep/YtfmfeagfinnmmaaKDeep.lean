/- THE WALK OF KindDeep. -/
import Derived.Test.YtfmfeagfinnmmaaKOwn
import Derived.Test.YtfmfeagfinnmmaaBookIn
namespace Go.Proofs.Ytfmfeagfinnmmaa
open Go.RowKit
open Go.Sort (grow)
open Vl (T)
open Mem Tg

theorem nest_fits (n : Nat) (hn : n ≤ 40) : (Th.nest n).fits 0 0 ↔ n ≤ 16 := by
  unfold Th.fits
  rw [Th.nest_okD, Th.nest_flat]
  simp
  omega
/-- the numbers up to a bound: as values, as things, as they are handed over -/
def numsT (j : Nat) : List T := (List.range j).map fun (i : Nat) => ⟨1, (i : Int), .empty, 0, 0, 0⟩
def numsH (j : Nat) : List Th := (List.range j).map fun (i : Nat) => Th.num (i : Int)
def numsV (j : Nat) : List Value := (List.range j).map fun (i : Nat) => Value.iface 73 (.int .i64 (i : Int))
theorem numsT_succ (j : Nat) : numsT (j + 1) = numsT j ++ [⟨1, (j : Int), .empty, 0, 0, 0⟩] := by simp [numsT, List.range_succ]
theorem numsV_succ (j : Nat) : numsV (j + 1) = numsV j ++ [.iface 73 (.int .i64 (j : Int))] := by simp [numsV, List.range_succ]
theorem numsH_succ (j : Nat) : numsH (j + 1) = numsH j ++ [.num (j : Int)] := by simp [numsH, List.range_succ]
theorem numsT_len (j : Nat) : (numsT j).length = j := by simp [numsT]
theorem numsV_len (j : Nat) : (numsV j).length = j := by simp [numsV]
theorem numsH_len (j : Nat) : (numsH j).length = j := by simp [numsH]
theorem nums_flats : ∀ j : Nat, Th.flats (numsH j) = numsT j
  | 0 => by simp [numsH, numsT, Th.flats]
  | j + 1 => by
    rw [numsH_succ, numsT_succ, Th.flats_app, nums_flats j, Th.flats_one]
    simp [Th.flat]
theorem nums_each (A : Nat → Prop) (w : World) : ∀ j : Nat, j ≤ 1000 → Each A w (numsH j) (numsV j)
  | 0, _ => .nil
  | j + 1, h => by
    rw [numsH_succ, numsV_succ]
    exact (nums_each A w j (by omega)).app (.num ⟨by omega, by omega⟩)
theorem nums_flat (k : Nat) : (Th.list (numsH k)).flat = ⟨5, (k : Int), .empty, 0, 0, 0⟩ :: numsT k := by rw [Th.flat, nums_flats, numsH_len]
theorem nums_fits (k : Nat) : (Th.list (numsH k)).fits 0 0 ↔ k + 1 ≤ 200 := by
  unfold Th.fits
  rw [nums_flat, List.length_cons, numsT_len, Th.okD, Th.okDs_iff]
  constructor
  · intro h
    omega
  · intro h
    refine ⟨⟨by omega, fun t ht => ?_⟩, by omega⟩
    unfold numsH at ht
    obtain ⟨i, _, rfl⟩ := List.mem_map.1 ht
    simp [Th.okD]
theorem nums_short (k : Nat) (hk : k ≤ 1000) : ∀ r ∈ (⟨5, (k : Int), .empty, 0, 0, 0⟩ :: numsT k : List T), Vl.Short r := by
  intro r hr
  have f0 : Fit 0 := ⟨by omega, by omega⟩
  have e0 : ByteArray.empty.size ≤ 140737488355328 := by decide
  rcases List.mem_cons.1 hr with rfl | hr
  · exact ⟨⟨by dsimp only; omega, by dsimp only; omega⟩, ⟨by dsimp only; omega, by dsimp only; omega⟩, e0, f0, f0, f0⟩
  · unfold numsT at hr
    obtain ⟨i, hi, rfl⟩ := List.mem_map.1 hr
    rw [List.mem_range] at hi
    exact ⟨⟨by dsimp only; omega, by dsimp only; omega⟩, ⟨by dsimp only; omega, by dsimp only; omega⟩, e0, f0, f0, f0⟩
theorem nums_long {k : Nat} (h : 200 < k + 1) : Kd.ofE (⟨5, (k : Int), .empty, 0, 0, 0⟩ :: numsT k) = 2 := if_pos (by rw [List.length_cons, numsT_len]; exact h)
/-- a list of one thing -/
theorem rep_snoc (j : Nat) (x : T) : List.replicate j x ++ [x] = List.replicate (j + 1) x := by
  rw [List.replicate_succ']
set_option maxRecDepth 100000 in
set_option maxHeartbeats 4000000 in
theorem kindDeep_walk (deep wide : Int) (w : World) (hd : (Lit.int .i64 deep).wf = true) (hw : (Lit.int .i64 wide).wf = true) :
    Calls Try.prog 8 #[.int .i64 deep, .int .i64 wide] w fun e w' => e = .returned (.bool true) ∧ Below w.heap.size w w' := by
  have Hd := Lib.hid (fit_in hd)
  have Hw := Lib.hid (fit_in hw)
  clear hd hw
  go_enter Try.func8, Try.ntmps8
  go_wp2_with fail
  refine (bookWithin_any deep 0 40 w Hd.out (by omega) (by omega) (by omega)).mono ?_
  rintro e w1 ⟨⟨n, rfl, _, hn⟩, rfl⟩
  have hn40 : n ≤ 40 := by omega
  clear hn
  go_wp2_with fail
  refine (from_int 1 w1 w1 (Below.refl _ _)).mono ?_
  rintro e w2 ⟨rfl, b2⟩
  have HB2 := Lib.hid b2
  have hs2 := b2.size
  clear b2
  unfold tv
  go_wp2_with fail
  obtain ⟨p, hp⟩ : ∃ p, w2.heap.size = p := ⟨_, rfl⟩
  have HP := Lib.hid hp
  rw [hp] at hs2 ⊢
  have HBW : Hid (Below w1.heap.size w1 (w2.alloc (.cells #[.iface 73 (.int .i64 1)] 25))) := Lib.hid (bchain HB2.out (below_alloc _ _))
  have hcW : (w2.alloc (.cells #[.iface 73 (.int .i64 1)] 25)).cell? ⟨p, 0, none⟩ = some (.iface 73 (.int .i64 1)) := by rw [← hp]; simp [go_sem]
  have hfW : (w2.alloc (.cells #[.iface 73 (.int .i64 1)] 25)).frozen? ⟨p, 0, none⟩ = false := by rw [← hp]; simp [go_sem]
  have hsW : (w2.alloc (.cells #[.iface 73 (.int .i64 1)] 25)).heap.size = p + 1 := by rw [← hp]; simp
  generalize w2.alloc (.cells #[.iface 73 (.int .i64 1)] 25) = W at *
  have HcW := Lib.hid hcW
  have HfW := Lib.hid hfW
  have HsW := Lib.hid hsW
  clear hp hcW hfW hsW HP
  go_loopw [6, 8] (fun l i wr => ∃ (j : Nat) (lv vv : Value), lv = l ∧ i = .int .i64 j ∧ j ≤ n ∧ Hid (Vl.Own wr (p + 1) lv (List.replicate j ⟨5, 1, .empty, 0, 0, 0⟩)) ∧ Hid (wr.cell? ⟨p, 0, none⟩ = some vv ∧ wr.frozen? ⟨p, 0, none⟩ = false) ∧ Hid (Is (fun b => b ≠ p ∧ lv.ownBlock ≠ some b) wr (Th.nest j) vv) ∧ Hid (Below w1.heap.size w1 wr)) (fun _ i _ => n - (intOf i).toNat)
  case atStart => exact ⟨0, _, _, rfl, rfl, by omega, Lib.hid (Vl.own_nil _ _), Lib.hid ⟨HcW.out, HfW.out⟩, Lib.hid (.num ⟨by omega, by omega⟩), HBW⟩
  case round =>
    obtain ⟨j, l, vv, rfl, rfl, hj, HO, HC, HI, HB⟩ := hrel
    have hv1 := HI.out.oneCell
    have hpw := cell_lt HC.out.1
    by_cases hlt : j < n
    · have HOa : Hid (∀ o, Vl.Own (wr.alloc o) (p + 1) l (List.replicate j ⟨5, 1, .empty, 0, 0, 0⟩)) := fun o => Vl.own_alloc HO.out o
      go_wp2_with (at_builtin; go_must (refine Vl.wpList_append _ rfl (.tmp 25) (.tmp 27) rfl (p + 1) l (List.replicate j ⟨5, 1, .empty, 0, 0, 0⟩) rfl (HOa.out _) (some ⟨wr.heap.size, 0, none⟩) 1 1 [⟨5, 1, .empty, 0, 0, 0⟩] rfl rfl (fun h => by cases h) (Vl.seg_block (heap_alloc_new wr _)) (by rw [List.length_replicate]; omega) (by simp; omega) ?_))
      intro v1 y1 o1 gr1 hw1
      have hbx := below_alloc wr (Vl.block ⟨5, 1, .empty, 0, 0, 0⟩)
      have hsx : (wr.alloc (Vl.block ⟨5, 1, .empty, 0, 0, 0⟩)).heap.size = wr.heap.size + 1 := by simp
      have HO1 : Hid (Vl.Own y1 (p + 1) v1 (List.replicate (j + 1) ⟨5, 1, .empty, 0, 0, 0⟩)) := Lib.hid (by rw [← rep_snoc]; exact o1)
      have hlx := rows_lt (HOa.out (Vl.block ⟨5, 1, .empty, 0, 0, 0⟩))
      have hrp : l.ownBlock ≠ some p := fun k => by have := hlx p k; omega
      have hcy := cell_grown gr1 (keepC HC.out.1 hbx) hrp
      have hfy := frozen_grown gr1 (keepC HC.out.1 hbx) (keepF HC.out.1 hbx HC.out.2) hrp
      have HI1 := Lib.hid (HI.out.past (v1 := v1) hbx gr1 (by rw [hsx]; exact hw1))
      have HB1 : Hid (Below w1.heap.size w1 y1) := Lib.hid ((bchain HB.out hbx).grown gr1 (bchain HB.out hbx).size (fun k hk => by have := hlx k hk; omega))
      have hps : p < y1.heap.size := cell_lt hcy
      clear o1 gr1 hw1 hbx hsx hlx hrp
      have bX := below_alloc y1 (.cells #[vv] 25)
      have HsX : Hid ((y1.alloc (.cells #[vv] 25)).heap.size = y1.heap.size + 1) := Lib.hid (by simp)
      have HIX := Lib.hid (HI1.out.stays bX)
      have HcX := Lib.hid (keepC hcy bX)
      have HfX := Lib.hid (keepF hcy bX hfy)
      have HOX := Lib.hid (Vl.own_below HO1.out bX)
      have HBX := Lib.hid (bchain HB1.out bX)
      have HSg : Hid (SegV (fun b => b ≠ p ∧ v1.ownBlock ≠ some b) (y1.alloc (.cells #[vv] 25)) (some ⟨y1.heap.size, 0, none⟩) [vv]) := Lib.hid (.inr ⟨y1.heap.size, 0, rfl, ⟨by omega, fun k => by have := rows_lt HO1.out _ k; omega⟩, fun k hk => by
        obtain rfl : k = 0 := by simpa using hk
        simp [go_sem]⟩)
      clear bX
      go_wp2_with fail
      refine (from_list (some ⟨y1.heap.size, 0, none⟩) 1 1 (fun b => b ≠ p ∧ v1.ownBlock ≠ some b) [Th.nest j] [vv] (y1.alloc (.cells #[vv] 25)) _ (Below.refl _ _) rfl (by omega) HSg.out (Each.app Each.nil HIX.out)).mono ?_
      rintro e w3 ⟨⟨v3, rfl, hI3⟩, b3⟩
      have hc3 := keepC HcX.out b3
      have hf3 := keepF HcX.out b3 HfX.out
      have hst := store_at hc3 hf3 hI3.oneCell
      have HO3 := Lib.hid (Vl.own_below HOX.out b3)
      have HB3 := Lib.hid (bchain HBX.out b3)
      have HI3 := Lib.hid hI3
      clear hI3 b3
      unfold tv
      go_wp2_with fail
      go_roundw
      case rel =>
        refine ⟨j + 1, v1, v3, rfl, by go_num, by omega, Lib.hid (rows_set HO3.out (by omega) _), Lib.hid ⟨by simp [go_sem, hc3], by simp [go_sem, hf3]⟩, Lib.hid ?_, Lib.hid (HB3.out.setCell (p := ⟨p, 0, none⟩) hs2 _)⟩
        refine HI3.out.frame (fun b a o z e => ?_) (fun b _ _ _ a => ?_)
        · have hne : b ≠ p := by
            rcases a with a | a
            · exact a.1
            · have := HsX.out; omega
          simp [go_sem, e]
        · rcases a with a | a
          · exact a
          · exact ⟨by have := HsX.out; omega, fun k => by have := rows_lt HO1.out _ k; have := HsX.out; omega⟩
      case measure => simp [intOf]; omega
    · obtain rfl : j = n := by omega
      have HOa : Hid (∀ o, Vl.Own (wr.alloc o) (p + 1) l (List.replicate j ⟨5, 1, .empty, 0, 0, 0⟩)) := fun o => Vl.own_alloc HO.out o
      go_wp2_with (at_builtin; go_must (refine Vl.wpList_append _ rfl (.tmp 32) (.tmp 34) rfl (p + 1) l (List.replicate j ⟨5, 1, .empty, 0, 0, 0⟩) rfl (HOa.out _) (some ⟨wr.heap.size, 0, none⟩) 1 1 [⟨1, 1, .empty, 0, 0, 0⟩] rfl rfl (fun h => by cases h) (Vl.seg_block (heap_alloc_new wr _)) (by rw [List.length_replicate]; omega) (by simp; omega) ?_))
      intro v1 y1 o1 gr1 hw1
      have hbx := below_alloc wr (Vl.block ⟨1, 1, .empty, 0, 0, 0⟩)
      have hsx : (wr.alloc (Vl.block ⟨1, 1, .empty, 0, 0, 0⟩)).heap.size = wr.heap.size + 1 := by simp
      have hO1 : Vl.Own y1 (p + 1) v1 (Th.nest j).flat := by rw [Th.nest_flat]; exact o1
      have hlx := rows_lt (HOa.out (Vl.block ⟨1, 1, .empty, 0, 0, 0⟩))
      have hrp : l.ownBlock ≠ some p := fun k => by have := hlx p k; omega
      have hcy := cell_grown gr1 (keepC HC.out.1 hbx) hrp
      have HI1 := Lib.hid (HI.out.past (v1 := v1) hbx gr1 (by rw [hsx]; exact hw1))
      have HB1 : Hid (Below w1.heap.size w1 y1) := Lib.hid ((bchain HB.out hbx).grown gr1 (bchain HB.out hbx).size (fun k hk => by have := hlx k hk; omega))
      obtain ⟨lo, lc, rfl, hLl, _⟩ := Vl.own_ls hO1 HI1.out.short
      have hll : (Th.nest j).flat.length = j + 1 := by rw [Th.nest_flat]; simp
      rw [hll] at hLl ⊢
      have HLl := Lib.hid hLl
      have hlc := hLl.reach
      have hlf := hLl.fits
      have HcY := Lib.hid hcy
      clear o1 gr1 hw1 hbx hsx hlx hrp hO1 hLl hll
      have HF := Lib.hid (nest_fits j hn40)
      go_wp2_with fail
      refine (kind_flat (Th.nest j) vv y1 y1 (Below.refl _ _) HI1.out.lt).mono ?_
      rintro e w3 ⟨he, b3⟩
      have HB3 := Lib.hid b3
      have HL3 := Lib.hid (HLl.out.below b3)
      have HI3 := Lib.hid (HI1.out.stays b3)
      have HC3 := Lib.hid (keepC HcY.out b3)
      clear b3 hcy
      by_cases h16 : j ≤ 16
      · rcases he with ⟨_, sv, rfl, o3⟩ | ⟨hno, _⟩
        · obtain ⟨so, sc, rfl, hLs, _⟩ := Vl.own_ls o3 HI3.out.short
          have hll : (Th.nest j).flat.length = j + 1 := by rw [Th.nest_flat]; simp
          rw [hll] at hLs ⊢
          have HLs := Lib.hid hLs
          clear o3 hLs hll
          go_wp2_with fail
          refine (kind_of (Th.nest j).flat lo (j + 1) lc w3 w3 (Below.refl _ _) HL3.out).mono ?_
          rintro e w4 ⟨he4, b4⟩
          obtain ⟨v4, rfl, hI4⟩ := of_ok he4 rfl (HF.out.2 h16)
          have hst := store_fresh w4 v4 hI4.oneCell
          have HB4 := Lib.hid (bchain b4 (below_alloc w4 (.cells #[v4] 25)))
          clear he4 b4 hI4
          unfold tv
          go_wp2_with fail
          refine (Vl.same_any _ _ so lo (j + 1) (j + 1) sc lc _ _ (Below.refl _ _) (HLs.out.below HB4.out) (HL3.out.below HB4.out)).mono ?_
          rintro e w5 ⟨rfl, b5⟩
          rw [Vl.sameB_self]
          have HBZ := Lib.hid (bchain (bchain (bchain HB1.out HB3.out) HB4.out) b5)
          clear b5 hst
          go_wp2_with fail
          refine (bookWithin_any wide 0 300 _ Hw.out (by omega) (by omega) (by omega)).mono ?_
          rintro e X ⟨⟨k, rfl, _, hk⟩, hX⟩
          subst hX
          have hk3 : k ≤ 300 := by omega
          clear hk
          have HOr0 := Lib.hid (own_one X ⟨5, (k : Int), .empty, 0, 0, 0⟩ X.heap.size (Nat.le_refl _))
          have HBr0 := Lib.hid (below_alloc X (Vl.block ⟨5, (k : Int), .empty, 0, 0, 0⟩))
          go_wp2_with fail
          go_loopw [14, 15, 16] (fun r f i wr => ∃ (j : Nat) (rv fv : Value), rv = r ∧ fv = f ∧ i = .int .i64 j ∧ j ≤ k ∧ Hid (Vl.Own wr X.heap.size rv (⟨5, (k : Int), .empty, 0, 0, 0⟩ :: numsT j)) ∧ Hid (Own wr X.heap.size fv (numsV j)) ∧ Hid (∀ b, rv.ownBlock = some b → fv.ownBlock ≠ some b) ∧ Hid (Below X.heap.size X wr)) (fun _ _ i _ => k - (intOf i).toNat)
          case atStart => exact ⟨0, _, _, rfl, rfl, rfl, by omega, HOr0, Lib.hid (own_nil _ _), Lib.hid (fun b _ h => by cases h), HBr0⟩
          case round =>
            rename World => wq
            obtain ⟨i, rv, fv, rfl, rfl, rfl, hi, HOr, HOf, HNe, HBq⟩ := hrel
            have hsq := HBq.out.size
            by_cases hlt : i < k
            · have HOra : Hid (∀ o, Vl.Own (wq.alloc o) X.heap.size rv (⟨5, (k : Int), .empty, 0, 0, 0⟩ :: numsT i)) := fun o => Vl.own_alloc HOr.out o
              go_wp2_with (at_builtin; go_must (refine Vl.wpList_append _ rfl (.tmp 89) (.tmp 92) rfl X.heap.size rv (⟨5, (k : Int), .empty, 0, 0, 0⟩ :: numsT i) rfl (HOra.out _) (some ⟨wq.heap.size, 0, none⟩) 1 1 [⟨1, (i : Int), .empty, 0, 0, 0⟩] rfl rfl (fun h => by cases h) (Vl.seg_block (heap_alloc_new wq _)) (by rw [List.length_cons, numsT_len]; omega) (by simp; omega) ?_))
              intro r1 z1 o1 gr1 hw1
              have hbx := below_alloc wq (Vl.block ⟨1, (i : Int), .empty, 0, 0, 0⟩)
              have hsx : (wq.alloc (Vl.block ⟨1, (i : Int), .empty, 0, 0, 0⟩)).heap.size = wq.heap.size + 1 := by simp
              have hlf := rows_lt HOf.out
              have HOr1 : Hid (Vl.Own z1 X.heap.size r1 (⟨5, (k : Int), .empty, 0, 0, 0⟩ :: numsT (i + 1))) := Lib.hid (by rw [numsT_succ]; exact o1)
              have HOf1 : Hid (Own z1 X.heap.size fv (numsV i)) := Lib.hid (rows_grown (own_alloc HOf.out _) gr1 (fun b hb h => HNe.out b h hb))
              have HNe1 : Hid (∀ b, r1.ownBlock = some b → fv.ownBlock ≠ some b) := Lib.hid (fun b hb hf => by
                rcases hw1 with h | h
                · exact HNe.out b (h ▸ hb) hf
                · rw [h] at hb
                  injection hb with hb
                  have := hlf b hf
                  omega)
              have HBz1 := Lib.hid ((bchain HBq.out hbx).grown gr1 (bchain HBq.out hbx).size (fun b hb => (rows_lt HOr.out b hb).1))
              clear o1 gr1 hw1 hbx hsx hlf
              go_wp2_with fail
              refine (from_int (i : Int) z1 z1 (Below.refl _ _)).mono ?_
              rintro e z2 ⟨rfl, b2⟩
              have HOr2 := Lib.hid (Vl.own_below HOr1.out b2)
              have HOf2 := Lib.hid (own_below HOf1.out b2)
              have HBz2 := Lib.hid (bchain HBz1.out b2)
              have hsz2 := HBz2.out.size
              have HOfa : Hid (∀ o, Own (z2.alloc o) X.heap.size fv (numsV i)) := fun o => own_alloc HOf2.out o
              clear b2
              unfold tv
              go_wp2_with (at_builtin; go_must (refine Tg.wpList_append _ rfl (.tmp 94) (.tmp 97) 34 Try.underlying34 rfl X.heap.size fv (numsV i) rfl (HOfa.out _) z2.heap.size 1 (.iface 73 (.int .i64 (i : Int))) rfl (by simp [go_sem]) rfl (by rw [numsV_len]; omega) (by simp; omega) ?_))
              intro f1 z3 o3 gr3 hw3
              have hbx := below_alloc z2 (.cells #[.iface 73 (.int .i64 (i : Int))] 25)
              have hsx : (z2.alloc (.cells #[.iface 73 (.int .i64 (i : Int))] 25)).heap.size = z2.heap.size + 1 := by simp
              have hlr := rows_lt HOr2.out
              have HOr3 : Hid (Vl.Own z3 X.heap.size r1 (⟨5, (k : Int), .empty, 0, 0, 0⟩ :: numsT (i + 1))) := Lib.hid (rows_grown (Vl.own_alloc HOr2.out _) gr3 (fun b hb h => HNe1.out b hb h))
              have HOf3 : Hid (Own z3 X.heap.size f1 (numsV (i + 1))) := Lib.hid (by rw [numsV_succ]; exact o3)
              have HNe3 : Hid (∀ b, r1.ownBlock = some b → f1.ownBlock ≠ some b) := Lib.hid (fun b hb hf => by
                rcases hw3 with h | h
                · exact HNe1.out b hb (h ▸ hf)
                · rw [h] at hf
                  injection hf with hf
                  have := hlr b hb
                  omega)
              have HBz3 := Lib.hid ((bchain HBz2.out hbx).grown gr3 (bchain HBz2.out hbx).size (fun b hb => (rows_lt HOf2.out b hb).1))
              clear o3 gr3 hw3 hbx hsx hlr
              go_wp2_with fail
              go_roundw
              case rel => exact ⟨i + 1, r1, f1, rfl, rfl, by go_num, by omega, HOr3, HOf3, HNe3, HBz3⟩
              case measure => simp [intOf]; omega
            · obtain rfl : i = k := by omega
              obtain ⟨fo, fc, rfl, hf1, hf2, hf3, hf4⟩ := own_seg HOf.out
              rw [numsV_len] at hf1
              have hfl := numsV_len i
              rw [hfl]
              obtain ⟨ro, rc, rfl, hLr, _⟩ := Vl.own_ls HOr.out (nums_short i (by omega))
              have hrl : (⟨5, (i : Int), .empty, 0, 0, 0⟩ :: numsT i : List T).length = i + 1 := by rw [List.length_cons, numsT_len]
              rw [hrl] at hLr ⊢
              have HLr := Lib.hid hLr
              have HSf := Lib.hid hf4
              have hrc := hLr.reach
              have hrf := hLr.fits
              clear hf3 hf4 hLr hfl hrl
              go_wp2_with fail
              refine (from_list fo i fc _ (numsH i) (numsV i) wq wq (Below.refl _ _) (numsV_len i).symm (by omega) HSf.out (nums_each _ _ i (by omega))).mono ?_
              rintro e q1 ⟨⟨v1, rfl, hI1⟩, c1⟩
              have hv1 := hI1.oneCell
              have HI1 := Lib.hid hI1
              have HC1 := Lib.hid c1
              clear hI1 c1
              unfold tv
              go_wp2_with fail
              refine (kind_flat (.list (numsH i)) v1 q1 q1 (Below.refl _ _) HI1.out.lt).mono ?_
              rintro e q2 ⟨he, c2⟩
              have HC2 := Lib.hid c2
              have HLr2 := Lib.hid ((HLr.out.below HC1.out).below HC2.out)
              have HBq2 := Lib.hid (bchain (bchain (bchain HBZ.out HBq.out) HC1.out) HC2.out)
              clear c2
              by_cases h200 : i + 1 ≤ 200
              · rcases he with ⟨_, sv2, rfl, o2⟩ | ⟨hno, _⟩
                · rw [nums_flat] at o2
                  obtain ⟨so, sc, rfl, hLs, _⟩ := Vl.own_ls o2 (nums_short i (by omega))
                  have hsl : (⟨5, (i : Int), .empty, 0, 0, 0⟩ :: numsT i : List T).length = i + 1 := by rw [List.length_cons, numsT_len]
                  rw [hsl] at hLs ⊢
                  have HLs := Lib.hid hLs
                  clear o2 hLs hsl
                  go_wp2_with fail
                  refine (kind_of (⟨5, (i : Int), .empty, 0, 0, 0⟩ :: numsT i) ro (i + 1) rc q2 q2 (Below.refl _ _) HLr2.out).mono ?_
                  rintro e q3 ⟨he3, c3⟩
                  obtain ⟨v3, rfl, _⟩ := of_ok he3 (nums_flat i).symm ((nums_fits i).2 h200)
                  have HC3 := Lib.hid c3
                  clear he3 c3
                  unfold tv
                  go_wp2_with fail
                  refine (Vl.same_any _ _ so ro (i + 1) (i + 1) sc rc q3 q3 (Below.refl _ _) (HLs.out.below HC3.out) (HLr2.out.below HC3.out)).mono ?_
                  rintro e q4 ⟨rfl, c4⟩
                  rw [Vl.sameB_self]
                  have HC4 := Lib.hid c4
                  clear c4
                  go_wp2_with fail
                  refine (kruns_any w1 _ (bchain (bchain HBq2.out HC3.out) HC4.out)).mono ?_
                  rintro e q5 ⟨rfl, c5⟩
                  have HC5 := Lib.hid c5
                  clear c5
                  go_wp2_with fail
                  go_ret
                  exact ⟨rfl, HC5.out⟩
                · exact absurd ((nums_fits i).2 h200) hno
              · rcases he with ⟨hyes, _⟩ | ⟨_, rfl⟩
                · exact absurd ((nums_fits i).1 hyes) h200
                · go_wp2_with fail
                  refine (kind_of (⟨5, (i : Int), .empty, 0, 0, 0⟩ :: numsT i) ro (i + 1) rc q2 q2 (Below.refl _ _) HLr2.out).mono ?_
                  rintro e q3 ⟨he3, c3⟩
                  obtain rfl := of_no he3 (nums_long (by omega)) (by omega)
                  have HC3 := Lib.hid c3
                  clear he3 c3
                  go_wp2_with fail
                  refine (kruns_any w1 _ (bchain HBq2.out HC3.out)).mono ?_
                  rintro e q5 ⟨rfl, c5⟩
                  have HC5 := Lib.hid c5
                  clear c5
                  go_wp2_with fail
                  go_ret
                  exact ⟨rfl, HC5.out⟩
        · exact absurd (HF.out.2 h16) hno
      · rcases he with ⟨hyes, _⟩ | ⟨_, rfl⟩
        · exact absurd (HF.out.1 hyes) h16
        · go_wp2_with fail
          refine (kind_of (Th.nest j).flat lo (j + 1) lc w3 w3 (Below.refl _ _) HL3.out).mono ?_
          rintro e w4 ⟨he4, b4⟩
          obtain rfl := of_no he4 (Th.nest_ofE (by omega) (by omega)) (by omega)
          have bX := bchain b4 (below_alloc w4 (.cells #[.nilIface] 25))
          have HB4 := Lib.hid bX
          have hcz := keepC HC3.out bX
          have HI4 := Lib.hid (HI3.out.stays bX)
          clear he4 b4 bX
          go_wp2_with fail
          refine (kind_same (Th.nest j) (Th.nest j) vv vv _ _ (Below.refl _ _) HI4.out HI4.out).mono ?_
          rintro e w5 ⟨⟨B, rfl, hBB⟩, b5⟩
          obtain rfl : B = false := by
            cases B
            · rfl
            · exact absurd (HF.out.1 (hBB.1 rfl).1) h16
          have HBZ := Lib.hid (bchain (bchain (bchain HB1.out HB3.out) HB4.out) b5)
          clear b5 hBB hcz
          go_wp2_with fail
          refine (bookWithin_any wide 0 300 _ Hw.out (by omega) (by omega) (by omega)).mono ?_
          rintro e X ⟨⟨k, rfl, _, hk⟩, hX⟩
          subst hX
          have hk3 : k ≤ 300 := by omega
          clear hk
          have HOr0 := Lib.hid (own_one X ⟨5, (k : Int), .empty, 0, 0, 0⟩ X.heap.size (Nat.le_refl _))
          have HBr0 := Lib.hid (below_alloc X (Vl.block ⟨5, (k : Int), .empty, 0, 0, 0⟩))
          go_wp2_with fail
          go_loopw [14, 15, 16] (fun r f i wr => ∃ (j : Nat) (rv fv : Value), rv = r ∧ fv = f ∧ i = .int .i64 j ∧ j ≤ k ∧ Hid (Vl.Own wr X.heap.size rv (⟨5, (k : Int), .empty, 0, 0, 0⟩ :: numsT j)) ∧ Hid (Own wr X.heap.size fv (numsV j)) ∧ Hid (∀ b, rv.ownBlock = some b → fv.ownBlock ≠ some b) ∧ Hid (Below X.heap.size X wr)) (fun _ _ i _ => k - (intOf i).toNat)
          case atStart => exact ⟨0, _, _, rfl, rfl, rfl, by omega, HOr0, Lib.hid (own_nil _ _), Lib.hid (fun b _ h => by cases h), HBr0⟩
          case round =>
            rename World => wq
            obtain ⟨i, rv, fv, rfl, rfl, rfl, hi, HOr, HOf, HNe, HBq⟩ := hrel
            have hsq := HBq.out.size
            by_cases hlt : i < k
            · have HOra : Hid (∀ o, Vl.Own (wq.alloc o) X.heap.size rv (⟨5, (k : Int), .empty, 0, 0, 0⟩ :: numsT i)) := fun o => Vl.own_alloc HOr.out o
              go_wp2_with (at_builtin; go_must (refine Vl.wpList_append _ rfl (.tmp 89) (.tmp 92) rfl X.heap.size rv (⟨5, (k : Int), .empty, 0, 0, 0⟩ :: numsT i) rfl (HOra.out _) (some ⟨wq.heap.size, 0, none⟩) 1 1 [⟨1, (i : Int), .empty, 0, 0, 0⟩] rfl rfl (fun h => by cases h) (Vl.seg_block (heap_alloc_new wq _)) (by rw [List.length_cons, numsT_len]; omega) (by simp; omega) ?_))
              intro r1 z1 o1 gr1 hw1
              have hbx := below_alloc wq (Vl.block ⟨1, (i : Int), .empty, 0, 0, 0⟩)
              have hsx : (wq.alloc (Vl.block ⟨1, (i : Int), .empty, 0, 0, 0⟩)).heap.size = wq.heap.size + 1 := by simp
              have hlf := rows_lt HOf.out
              have HOr1 : Hid (Vl.Own z1 X.heap.size r1 (⟨5, (k : Int), .empty, 0, 0, 0⟩ :: numsT (i + 1))) := Lib.hid (by rw [numsT_succ]; exact o1)
              have HOf1 : Hid (Own z1 X.heap.size fv (numsV i)) := Lib.hid (rows_grown (own_alloc HOf.out _) gr1 (fun b hb h => HNe.out b h hb))
              have HNe1 : Hid (∀ b, r1.ownBlock = some b → fv.ownBlock ≠ some b) := Lib.hid (fun b hb hf => by
                rcases hw1 with h | h
                · exact HNe.out b (h ▸ hb) hf
                · rw [h] at hb
                  injection hb with hb
                  have := hlf b hf
                  omega)
              have HBz1 := Lib.hid ((bchain HBq.out hbx).grown gr1 (bchain HBq.out hbx).size (fun b hb => (rows_lt HOr.out b hb).1))
              clear o1 gr1 hw1 hbx hsx hlf
              go_wp2_with fail
              refine (from_int (i : Int) z1 z1 (Below.refl _ _)).mono ?_
              rintro e z2 ⟨rfl, b2⟩
              have HOr2 := Lib.hid (Vl.own_below HOr1.out b2)
              have HOf2 := Lib.hid (own_below HOf1.out b2)
              have HBz2 := Lib.hid (bchain HBz1.out b2)
              have hsz2 := HBz2.out.size
              have HOfa : Hid (∀ o, Own (z2.alloc o) X.heap.size fv (numsV i)) := fun o => own_alloc HOf2.out o
              clear b2
              unfold tv
              go_wp2_with (at_builtin; go_must (refine Tg.wpList_append _ rfl (.tmp 94) (.tmp 97) 34 Try.underlying34 rfl X.heap.size fv (numsV i) rfl (HOfa.out _) z2.heap.size 1 (.iface 73 (.int .i64 (i : Int))) rfl (by simp [go_sem]) rfl (by rw [numsV_len]; omega) (by simp; omega) ?_))
              intro f1 z3 o3 gr3 hw3
              have hbx := below_alloc z2 (.cells #[.iface 73 (.int .i64 (i : Int))] 25)
              have hsx : (z2.alloc (.cells #[.iface 73 (.int .i64 (i : Int))] 25)).heap.size = z2.heap.size + 1 := by simp
              have hlr := rows_lt HOr2.out
              have HOr3 : Hid (Vl.Own z3 X.heap.size r1 (⟨5, (k : Int), .empty, 0, 0, 0⟩ :: numsT (i + 1))) := Lib.hid (rows_grown (Vl.own_alloc HOr2.out _) gr3 (fun b hb h => HNe1.out b hb h))
              have HOf3 : Hid (Own z3 X.heap.size f1 (numsV (i + 1))) := Lib.hid (by rw [numsV_succ]; exact o3)
              have HNe3 : Hid (∀ b, r1.ownBlock = some b → f1.ownBlock ≠ some b) := Lib.hid (fun b hb hf => by
                rcases hw3 with h | h
                · exact HNe1.out b hb (h ▸ hf)
                · rw [h] at hf
                  injection hf with hf
                  have := hlr b hb
                  omega)
              have HBz3 := Lib.hid ((bchain HBz2.out hbx).grown gr3 (bchain HBz2.out hbx).size (fun b hb => (rows_lt HOf2.out b hb).1))
              clear o3 gr3 hw3 hbx hsx hlr
              go_wp2_with fail
              go_roundw
              case rel => exact ⟨i + 1, r1, f1, rfl, rfl, by go_num, by omega, HOr3, HOf3, HNe3, HBz3⟩
              case measure => simp [intOf]; omega
            · obtain rfl : i = k := by omega
              obtain ⟨fo, fc, rfl, hf1, hf2, hf3, hf4⟩ := own_seg HOf.out
              rw [numsV_len] at hf1
              have hfl := numsV_len i
              rw [hfl]
              obtain ⟨ro, rc, rfl, hLr, _⟩ := Vl.own_ls HOr.out (nums_short i (by omega))
              have hrl : (⟨5, (i : Int), .empty, 0, 0, 0⟩ :: numsT i : List T).length = i + 1 := by rw [List.length_cons, numsT_len]
              rw [hrl] at hLr ⊢
              have HLr := Lib.hid hLr
              have HSf := Lib.hid hf4
              have hrc := hLr.reach
              have hrf := hLr.fits
              clear hf3 hf4 hLr hfl hrl
              go_wp2_with fail
              refine (from_list fo i fc _ (numsH i) (numsV i) wq wq (Below.refl _ _) (numsV_len i).symm (by omega) HSf.out (nums_each _ _ i (by omega))).mono ?_
              rintro e q1 ⟨⟨v1, rfl, hI1⟩, c1⟩
              have hv1 := hI1.oneCell
              have HI1 := Lib.hid hI1
              have HC1 := Lib.hid c1
              clear hI1 c1
              unfold tv
              go_wp2_with fail
              refine (kind_flat (.list (numsH i)) v1 q1 q1 (Below.refl _ _) HI1.out.lt).mono ?_
              rintro e q2 ⟨he, c2⟩
              have HC2 := Lib.hid c2
              have HLr2 := Lib.hid ((HLr.out.below HC1.out).below HC2.out)
              have HBq2 := Lib.hid (bchain (bchain (bchain HBZ.out HBq.out) HC1.out) HC2.out)
              clear c2
              by_cases h200 : i + 1 ≤ 200
              · rcases he with ⟨_, sv2, rfl, o2⟩ | ⟨hno, _⟩
                · rw [nums_flat] at o2
                  obtain ⟨so, sc, rfl, hLs, _⟩ := Vl.own_ls o2 (nums_short i (by omega))
                  have hsl : (⟨5, (i : Int), .empty, 0, 0, 0⟩ :: numsT i : List T).length = i + 1 := by rw [List.length_cons, numsT_len]
                  rw [hsl] at hLs ⊢
                  have HLs := Lib.hid hLs
                  clear o2 hLs hsl
                  go_wp2_with fail
                  refine (kind_of (⟨5, (i : Int), .empty, 0, 0, 0⟩ :: numsT i) ro (i + 1) rc q2 q2 (Below.refl _ _) HLr2.out).mono ?_
                  rintro e q3 ⟨he3, c3⟩
                  obtain ⟨v3, rfl, _⟩ := of_ok he3 (nums_flat i).symm ((nums_fits i).2 h200)
                  have HC3 := Lib.hid c3
                  clear he3 c3
                  unfold tv
                  go_wp2_with fail
                  refine (Vl.same_any _ _ so ro (i + 1) (i + 1) sc rc q3 q3 (Below.refl _ _) (HLs.out.below HC3.out) (HLr2.out.below HC3.out)).mono ?_
                  rintro e q4 ⟨rfl, c4⟩
                  rw [Vl.sameB_self]
                  have HC4 := Lib.hid c4
                  clear c4
                  go_wp2_with fail
                  refine (kruns_any w1 _ (bchain (bchain HBq2.out HC3.out) HC4.out)).mono ?_
                  rintro e q5 ⟨rfl, c5⟩
                  have HC5 := Lib.hid c5
                  clear c5
                  go_wp2_with fail
                  go_ret
                  exact ⟨rfl, HC5.out⟩
                · exact absurd ((nums_fits i).2 h200) hno
              · rcases he with ⟨hyes, _⟩ | ⟨_, rfl⟩
                · exact absurd ((nums_fits i).1 hyes) h200
                · go_wp2_with fail
                  refine (kind_of (⟨5, (i : Int), .empty, 0, 0, 0⟩ :: numsT i) ro (i + 1) rc q2 q2 (Below.refl _ _) HLr2.out).mono ?_
                  rintro e q3 ⟨he3, c3⟩
                  obtain rfl := of_no he3 (nums_long (by omega)) (by omega)
                  have HC3 := Lib.hid c3
                  clear he3 c3
                  go_wp2_with fail
                  refine (kruns_any w1 _ (bchain HBq2.out HC3.out)).mono ?_
                  rintro e q5 ⟨rfl, c5⟩
                  have HC5 := Lib.hid c5
                  clear c5
                  go_wp2_with fail
                  go_ret
                  exact ⟨rfl, HC5.out⟩
end Go.Proofs.Ytfmfeagfinnmmaa
