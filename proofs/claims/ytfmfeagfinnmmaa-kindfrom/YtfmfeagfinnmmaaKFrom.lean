/- THE WALK OF KindFrom. (By genfrom.py.) -/
import Derived.Test.YtfmfeagfinnmmaaKOne
set_option linter.unusedVariables false
namespace Go.Proofs.Ytfmfeagfinnmmaa
open Go.RowKit
open Go.Sort (grow)
open Vl (T)
open Mem Tg

/-- the things of the first values -/
def tsOf (L : List T) (j : Nat) : List Th := (L.take j).map oneT
theorem tsOf_succ {L : List T} {j : Nat} (h : j < L.length) : tsOf L (j + 1) = tsOf L j ++ [oneT L[j]] := by
  unfold tsOf
  rw [List.take_add_one, List.getElem?_eq_getElem h, Option.toList_some, List.map_append]
  rfl
theorem tsOf_len {L : List T} {j : Nat} (h : j ≤ L.length) : (tsOf L j).length = j := by
  unfold tsOf
  rw [List.length_map, List.length_take]
  omega
theorem flats_len : ∀ ts : List Th, (∀ t ∈ ts, t.kids = []) → (Th.flats ts).length = ts.length
  | [], _ => by simp [Th.flats]
  | t :: l, h => by
    rw [Th.flats, List.length_append, flats_len l (fun s hs => h s (by simp [hs])), Th.flat_eq, h t (by simp), Th.flats]
    simp
    omega
theorem tsOf_kids (L : List T) (j : Nat) : ∀ t ∈ tsOf L j, t.kids = [] := by
  intro t ht
  unfold tsOf at ht
  obtain ⟨x, _, rfl⟩ := List.mem_map.1 ht
  exact oneT_kids x
theorem tsOf_flats_len {L : List T} {j : Nat} (h : j ≤ L.length) : (Th.flats (tsOf L j)).length = j := by rw [flats_len _ (tsOf_kids L j), tsOf_len h]
theorem tsOf_fits {L : List T} {j : Nat} (h : j ≤ L.length) (hj : j ≤ 100) : (Th.list (tsOf L j)).fits 0 0 := by
  refine Th.fits_of (fun _ => by omega) ?_ ?_
  · intro s hs
    have hk := tsOf_kids L j s hs
    refine Th.okD_of (fun _ => by omega) ?_
    rw [hk]
    simp
  · show 0 + 1 + (Th.flats (tsOf L j)).length ≤ 200
    rw [tsOf_flats_len h]
    omega
theorem tsOf_flat {L : List T} {j : Nat} (h : j ≤ L.length) : (Th.list (tsOf L j)).flat = ⟨5, (j : Int), .empty, 0, 0, 0⟩ :: Th.flats (tsOf L j) := by rw [Th.flat, tsOf_len h]
theorem rows_set_ne {w : World} {B e s : Nat} {v : Value} {n : Nat} {xs : List Value} (h : w.ownsRow B e s v n xs) {p o : Nat} (hp : v.ownBlock ≠ some p) (x : Value) : (w.setCell ⟨p, o, none⟩ x).ownsRow B e s v n xs := by
  obtain ⟨h1, h2⟩ := h
  refine ⟨h1, ?_⟩
  rcases h2 with h2 | ⟨g, cap, cur, h', hb, hg, h3⟩
  · exact .inl h2
  · refine .inr ⟨g, cap, cur, h', hb, ?_, h3⟩
    rw [← hg]
    exact heap_setCell_other w ⟨p, o, none⟩ g x (by
      show g ≠ p
      intro k
      apply hp
      rw [h', k]
      rfl)
set_option maxRecDepth 100000 in
set_option maxHeartbeats 4000000 in
theorem kindFrom_walk (rs : List T) (ao : Option Addr) (n cap : Nat) (w : World) (hR : Vl.Ls w ao n cap rs) :
    Calls Try.prog 7 #[.slice ao n cap] w fun e w' => e = .returned (.bool true) ∧ Below w.heap.size w w' := by
  have hfit := hR.fits
  have hcap := hR.reach
  by_cases h100 : 100 < n
  · obtain ⟨hs0, hL0⟩ := hR.to 100 (by omega)
    obtain ⟨m, hm⟩ : ∃ m : Nat, 100 = m := ⟨_, rfl⟩
    have hs1 : ∀ u, (Instr.slice 33 (.slice ao n cap) none (some (.int .i64 100)) none).run Try.prog u = .ok (.slice ao m cap) u := by
      intro u
      rw [← hm]
      exact hs0 u
    obtain ⟨L, hLe⟩ : ∃ L, rs.take 100 = L := ⟨_, rfl⟩
    have hL : Vl.Ls w ao m cap L := by
      rw [← hm, ← hLe]
      exact hL0
    have hm3 : m ≤ 100 := by omega
    have hd100 : decide ((100 : Int) < (n : Int)) = true := decide_eq_true (by omega)
    have hmc : m ≤ cap := by omega
    clear hs0 hL0 hLe hm hR
    have HL := Lib.hid hL
    have HLen := Lib.hid hL.len
    clear hL
    have HOr0 := Lib.hid (own_one w ⟨5, (m : Int), .empty, 0, 0, 0⟩ w.heap.size (Nat.le_refl _))
    have HBr0 := Lib.hid (below_alloc w (Vl.block ⟨5, (m : Int), .empty, 0, 0, 0⟩))
    go_enter Try.func7, Try.ntmps7
    go_wp2_with fail
    go_loopw [3, 4, 5, 6, 7, 8] (fun th wa i _ _ _ wr => ∃ (j : Nat) (fv rv : Value) (vs : List Value), fv = th ∧ rv = wa ∧ i = .int .i64 j ∧ j ≤ m ∧ Hid (Own wr w.heap.size fv vs) ∧ Hid (vs.length = j) ∧ Hid (Vl.Own wr w.heap.size rv (⟨5, (m : Int), .empty, 0, 0, 0⟩ :: Th.flats (tsOf L j))) ∧ Hid (∀ A u, Each A u (tsOf L j) vs) ∧ Hid (∀ b, rv.ownBlock = some b → fv.ownBlock ≠ some b) ∧ Hid (Below w.heap.size w wr)) (fun _ _ i _ _ _ _ => m - (intOf i).toNat)
    case atStart => exact ⟨0, _, _, [], rfl, rfl, rfl, by omega, Lib.hid (own_nil _ _), Lib.hid rfl, HOr0, Lib.hid (fun _ _ => .nil), Lib.hid (fun b _ h => by cases h), HBr0⟩
    case round =>
      obtain ⟨j, fv, rv, vs, rfl, rfl, rfl, hj, HOf, HVl, HOr, HEa, HNe, HB⟩ := hrel
      clear hs1
      have hsq := HB.out.size
      by_cases hlt : j < m
      · have hjl : j < L.length := HLen.out ▸ hlt
        obtain ⟨b, off, rfl⟩ := HL.out.at (by omega)
        have hrow := (HL.out.row j hjl).below HB.out
        have hsh := HL.out.short L[j] (List.getElem_mem hjl)
        obtain ⟨x, hx⟩ : ∃ x, L[j] = x := ⟨_, rfl⟩
        have HTs : Hid (tsOf L (j + 1) = tsOf L j ++ [oneT x]) := Lib.hid (by rw [← hx]; exact tsOf_succ hjl)
        rw [hx] at hrow hsh
        have HSh := Lib.hid hsh
        obtain ⟨g0, g1, g2, g3, g4, g5⟩ := hrow
        clear hx hsh
        go_wp2_with fail
        refine (one_any x HSh.out wr wr (Below.refl _ _)).mono ?_
        rintro e z1 ⟨⟨v, rfl, hA⟩, c1⟩
        have hv1 := (hA (fun _ => True) z1).oneCell
        have hst := store_fresh z1 v hv1
        have HA : Hid (∀ A u, Is A u (oneT x) v) := Lib.hid hA
        have HC1 := Lib.hid (bchain c1 (below_alloc z1 (.cells #[v] 25)))
        have HsX : Hid ((z1.alloc (.cells #[v] 25)).heap.size = z1.heap.size + 1) := Lib.hid (by simp)
        have HcX : Hid ((z1.alloc (.cells #[v] 25)).cell? ⟨z1.heap.size, 0, none⟩ = some v) := Lib.hid (by simp [go_sem])
        have hs1' := c1.size
        clear hA c1 g0 g1 g2 g3 g4 g5
        unfold tv
        go_wp2_with fail
        refine (kind_flat (oneT x) v (z1.alloc (.cells #[v] 25)) _ (Below.refl _ _) (HA.out _ _)).mono ?_
        rintro e z2 ⟨he, c2⟩
        rcases he with ⟨_, sv, rfl, o2⟩ | ⟨hno, _⟩
        · have hshh := (HA.out (fun _ => True) z2).short
          rw [oneT_flat] at o2 hshh
          obtain ⟨so, sc, rfl, hLs, hso⟩ := Vl.own_ls o2 hshh
          simp only [List.length_singleton] at hLs ⊢
          obtain ⟨b2, off2, rfl⟩ := hLs.at (by omega)
          obtain ⟨_, hadd, hb2⟩ := hso _ rfl
          simp only [Addr.mk.injEq] at hadd
          obtain ⟨e1, e2, _⟩ := hadd
          subst e1 e2
          have hrow := hLs.row 0 (by simp)
          simp only [List.getElem_cons_zero, Nat.zero_mul, Nat.add_zero] at hrow
          obtain ⟨y, hy⟩ : ∃ y, (oneT x).head = y := ⟨_, rfl⟩
          have hyk : y.kind = (oneT x).kind := by rw [← hy, Th.head_kind]
          have HFy : Hid ((oneT x).flat = [y]) := Lib.hid (by rw [oneT_flat, hy])
          rw [hy] at hrow hLs
          have HRow := Lib.hid hrow
          have hcv := keepC HcX.out c2
          have hcv' := cell_regrown hcv
          have m0' := cell_regrown hrow.c0
          have k2 := kind_agg (HA.out (fun _ => True) z2)
          rw [← hyk] at k2
          have hne0 : (y.kind != y.kind) = false := bne_self_eq_false _
          have hsc := hLs.reach
          have hsf := hLs.fits
          have HC2 := Lib.hid (bchain HC1.out c2)
          have HCv := Lib.hid hcv
          have hs2 := c2.size
          clear c2 o2 hLs hso hrow hcv hst hshh hyk hy
          go_wp2
          refine wp_region_quiet_below (by kernel_rfl) (by kernel_rfl) ?_
          repeat (first | go_big_quiet_step (first | (go_at_call 18; exact k2 _ _)) | quiet_step (first | (go_at_call 18; exact k2 _ _)))
          refine wpQuiet_nil ?_
          intro _ hw'
          obtain ⟨⟨dq, osq⟩, hw''⟩ := hw'
          subst hw''
          have bq := below_regrown z2 dq osq
          have hcv3 := keepC HCv.out bq
          have HRow3 := Lib.hid (HRow.out.below bq)
          have HC3 := Lib.hid (bchain HC2.out bq)
          have hs3 := bq.size
          clear bq hcv' m0' k2 hne0
          generalize grow (redrawn z2 dq) osq = z3 at *
          have HOfa : Hid (∀ o, Own (z3.alloc o) w.heap.size fv vs) := fun o => own_alloc (own_below HOf.out HC3.out) o
          go_wp2_with (at_builtin; go_must (refine Tg.wpList_append _ rfl (.tmp 56) (.tmp 58) 34 Try.underlying34 rfl w.heap.size fv vs rfl (HOfa.out _) z3.heap.size 1 v rfl (by simp [go_sem]) hv1 (by have := HVl.out; omega) (by have := HC3.out.size; simp; omega) ?_))
          intro f1 y1 o3 gr3 hw3
          have hbx := below_alloc z3 (.cells #[v] 25)
          have hsx : (z3.alloc (.cells #[v] 25)).heap.size = z3.heap.size + 1 := by simp
          have hlf := rows_lt HOf.out
          have hlr := rows_lt HOr.out
          have HOr1 : Hid (Vl.Own y1 w.heap.size rv (⟨5, (m : Int), .empty, 0, 0, 0⟩ :: Th.flats (tsOf L j))) := Lib.hid (rows_grown (Vl.own_alloc (Vl.own_below HOr.out HC3.out) _) gr3 (fun b hb h => HNe.out b hb h))
          have HOf1 := Lib.hid o3
          have HNe1 : Hid (∀ b, rv.ownBlock = some b → f1.ownBlock ≠ some b) := Lib.hid (fun b hb hf => by
            rcases hw3 with h | h
            · exact HNe.out b hb (h ▸ hf)
            · rw [h] at hf
              injection hf with hf
              have := hlr b hb
              have := HC3.out.size
              omega)
          have hrb : fv.ownBlock ≠ some b2 := fun k => by
            have := hlf b2 k
            have := HsX.out
            omega
          have r0 := cell_grown gr3 (keepC HRow3.out.c0 hbx) hrb
          have r1 := cell_grown gr3 (keepC HRow3.out.c1 hbx) hrb
          have r2 := cell_grown gr3 (keepC HRow3.out.c2 hbx) hrb
          have r3 := cell_grown gr3 (keepC HRow3.out.c3 hbx) hrb
          have r4 := cell_grown gr3 (keepC HRow3.out.c4 hbx) hrb
          have r5 := cell_grown gr3 (keepC HRow3.out.c5 hbx) hrb
          have HBy1 := Lib.hid ((bchain (bchain HB.out HC3.out) hbx).grown gr3 (bchain (bchain HB.out HC3.out) hbx).size (fun b hb => (rows_lt HOf.out b hb).1))
          have HOra : Hid (∀ o, Vl.Own (y1.alloc o) w.heap.size rv (⟨5, (m : Int), .empty, 0, 0, 0⟩ :: Th.flats (tsOf L j))) := fun o => Vl.own_alloc HOr1.out o
          have hsy := HBy1.out.size
          clear o3 gr3 hw3 hbx hsx hlf hrb hcv3
          go_wp2_with (at_builtin; go_must (refine Vl.wpList_append _ rfl (.tmp 60) (.tmp 64) rfl w.heap.size rv (⟨5, (m : Int), .empty, 0, 0, 0⟩ :: Th.flats (tsOf L j)) rfl (HOra.out _) (some ⟨y1.heap.size, 0, none⟩) 1 1 [y] rfl rfl (fun h => by cases h) (Vl.seg_block (heap_alloc_new y1 _)) (by rw [List.length_cons, tsOf_flats_len (by omega)]; omega) (by simp; omega) ?_))
          intro r1' y2 o4 gr4 hw4
          have hbx := below_alloc y1 (Vl.block y)
          have hsx : (y1.alloc (Vl.block y)).heap.size = y1.heap.size + 1 := by simp
          have hlf1 := rows_lt HOf1.out
          have HOr2 : Hid (Vl.Own y2 w.heap.size r1' (⟨5, (m : Int), .empty, 0, 0, 0⟩ :: Th.flats (tsOf L (j + 1)))) := Lib.hid (by
            rw [HTs.out, Th.flats_app, Th.flats_one, HFy.out]
            exact o4)
          have HOf2 : Hid (Own y2 w.heap.size f1 (vs ++ [v])) := Lib.hid (rows_grown (own_alloc HOf1.out _) gr4 (fun b hb h => HNe1.out b h hb))
          have HNe2 : Hid (∀ b, r1'.ownBlock = some b → f1.ownBlock ≠ some b) := Lib.hid (fun b hb hf => by
            rcases hw4 with h | h
            · exact HNe1.out b (h ▸ hb) hf
            · rw [h] at hb
              injection hb with hb
              have := hlf1 b hf
              omega)
          have HBy2 := Lib.hid ((bchain HBy1.out hbx).grown gr4 (bchain HBy1.out hbx).size (fun b hb => (rows_lt HOr1.out b hb).1))
          have HVl2 : Hid ((vs ++ [v]).length = j + 1) := Lib.hid (by rw [List.length_append, HVl.out]; rfl)
          have HEa2 : Hid (∀ A u, Each A u (tsOf L (j + 1)) (vs ++ [v])) := Lib.hid (fun A u => by rw [HTs.out]; exact (HEa.out A u).app (HA.out A u))
          clear o4 gr4 hw4 hbx hsx hlf1 hlr r0 r1 r2 r3 r4 r5
          go_wp2_with fail
          go_roundw
          case rel => exact ⟨j + 1, f1, r1', vs ++ [v], rfl, rfl, by go_num, by omega, HOf2, HVl2, HOr2, HEa2, HNe2, HBy2⟩
          case measure => simp [intOf]; omega
        · exact absurd (oneT_fits x) hno
      · obtain rfl : j = m := by omega
        have hjl : j ≤ L.length := by rw [← HLen.out]; exact Nat.le_refl _
        have HJl := Lib.hid hjl
        obtain ⟨fo, fc, rfl, hf1, hf2, hf3, hf4⟩ := own_seg HOf.out
        have hvl := HVl.out
        rw [hvl] at hf1 HOf HNe ⊢
        have HSf := Lib.hid hf4
        have hshw : ∀ r ∈ (⟨5, (j : Int), .empty, 0, 0, 0⟩ :: Th.flats (tsOf L j) : List T), Vl.Short r := by
          intro r hr
          have f0 : Fit 0 := ⟨by omega, by omega⟩
          have e0 : ByteArray.empty.size ≤ 140737488355328 := by decide
          rcases List.mem_cons.1 hr with rfl | hr
          · exact ⟨⟨by dsimp only; omega, by dsimp only; omega⟩, ⟨by dsimp only; omega, by dsimp only; omega⟩, e0, f0, f0, f0⟩
          · obtain ⟨t, ht, hr⟩ := Th.mem_flats.1 hr
            obtain ⟨i, hi, rfl⟩ := List.getElem_of_mem ht
            have hE := HEa.out (fun _ => True) w
            exact (hE.2 i hi (by rw [← hE.1]; exact hi)).short r hr
        obtain ⟨ro, rc, rfl, hLr, _⟩ := Vl.own_ls HOr.out hshw
        have hrl : (⟨5, (j : Int), .empty, 0, 0, 0⟩ :: Th.flats (tsOf L j) : List T).length = j + 1 := by rw [List.length_cons, tsOf_flats_len hjl]
        rw [hrl] at HOr HNe ⊢
        have HShw := Lib.hid hshw
        clear hf3 hf4 hLr hvl hshw hrl
        have HTl := Lib.hid (tsOf_len hjl)
        have HTf := Lib.hid (tsOf_flat hjl)
        have HTx := Lib.hid (tsOf_fits hjl (by omega))
        go_wp2_with fail
        refine (from_list2 fo j fc _ (fun _ => False) (tsOf L j) vs wr wr (Below.refl _ _) HVl.out.symm (by omega) HSf.out (HEa.out _ _)).mono ?_
        rintro e z1 ⟨⟨v9, rfl, hI9⟩, c1⟩
        have hv9 := hI9.oneCell
        have hst := store_fresh z1 v9 hv9
        have bz := below_alloc z1 (.cells #[v9] 25)
        have HI9 : Hid (Is (fun b => wr.heap.size ≤ b) (z1.alloc (.cells #[v9] 25)) (.list (tsOf L j)) v9) := Lib.hid ((hI9.mono (fun b h => h.resolve_left id)).stays bz)
        have HC1 := Lib.hid (bchain c1 bz)
        have hs1 := c1.size
        have HcZ : Hid ((z1.alloc (.cells #[v9] 25)).cell? ⟨z1.heap.size, 0, none⟩ = some v9) := Lib.hid (by simp [go_sem])
        have HOf0 := Lib.hid (own_below HOf.out HC1.out)
        have HOr0 := Lib.hid (Vl.own_below HOr.out HC1.out)
        have HBz := Lib.hid (bchain HB.out HC1.out)
        clear hI9 c1 bz
        unfold tv
        go_wp2_with fail
        obtain ⟨p9, hp9⟩ : ∃ p, z1.heap.size = p := ⟨_, rfl⟩
        rw [hp9] at HcZ hs1 ⊢
        generalize z1.alloc (.cells #[v9] 25) = Z at *
        clear hst hp9
        go_loopw [10] (fun i wq => ∃ (q : Nat) (M : List Value), i = .int .i64 q ∧ q ≤ j ∧ Hid (Own wq w.heap.size (.slice fo j fc) M) ∧ Hid (M.length = j) ∧ Hid (Vl.Own wq w.heap.size (.slice ro (j + 1) rc) (⟨5, (j : Int), .empty, 0, 0, 0⟩ :: Th.flats (tsOf L j))) ∧ Hid (wq.cell? ⟨p9, 0, none⟩ = some v9) ∧ Hid (Is (fun b => wr.heap.size ≤ b) wq (.list (tsOf L j)) v9) ∧ Hid (Below w.heap.size w wq)) (fun i _ => j - (intOf i).toNat)
        case atStart => exact ⟨0, vs, rfl, by omega, HOf0, HVl, HOr0, HcZ, HI9, HBz⟩
        case round =>
          rename World => wq
          obtain ⟨q, M, rfl, hq, HOq, HMl, HRq, Hcq, HIq, HBq⟩ := hrel
          by_cases hlt2 : q < j
          · obtain ⟨g, rfl, hjM⟩ := own_some HOq.out (by have := HMl.out; omega)
            clear hjM
            have hgl : g < wr.heap.size := (rows_lt HOf.out g rfl).2
            go_wp2_with fail
            refine (from_text ⟨#[116, 117, 114, 110, 101, 100]⟩ wq wq (Below.refl _ _)).mono ?_
            rintro e z3 ⟨rfl, c3⟩
            have HO3 := Lib.hid (own_below HOq.out c3)
            obtain ⟨hc3, hf3', hgB⟩ := own_here HO3.out q (by have := HMl.out; omega)
            have hf3 := hf3' q
            have HR3 := Lib.hid (Vl.own_below HRq.out c3)
            have Hc3 := Lib.hid (keepC Hcq.out c3)
            have HI3 := Lib.hid (HIq.out.stays c3)
            have HB3 := Lib.hid (bchain HBq.out c3)
            clear c3 hf3'
            unfold tv
            go_wp2_with fail
            go_roundw
            case rel =>
              refine ⟨q + 1, _, by go_num, by omega, Lib.hid (own_put HO3.out q _), Lib.hid (by rw [List.length_set]; exact HMl.out), Lib.hid (rows_set_ne HR3.out (fun k => HNe.out g k rfl) _), Lib.hid ?_, Lib.hid ?_, Lib.hid (HB3.out.setCell (p := ⟨g, q, none⟩) hgB _)⟩
              · have hne : p9 ≠ g := by omega
                simp [go_sem, Hc3.out]
              · refine HI3.out.frame (fun b a o z e => ?_) (fun _ _ _ _ a => a)
                have hne : b ≠ g := by omega
                simp [go_sem, e]
            case measure => simp [intOf]; omega
          · have hqj : q = j := by omega
            have hcp := Hcq.out
            clear hlt2
            subst hqj
            go_wp2_with fail
            refine (kind_flat (.list (tsOf L q)) v9 wq wq (Below.refl _ _) HIq.out.lt).mono ?_
            rintro e z4 ⟨he, c4⟩
            rcases he with ⟨_, sv, rfl, o4⟩ | ⟨hno, _⟩
            · rw [HTf.out] at o4
              obtain ⟨so, sc, rfl, hLs, _⟩ := Vl.own_ls o4 HShw.out
              have hrl : (⟨5, (q : Int), .empty, 0, 0, 0⟩ :: Th.flats (tsOf L q) : List T).length = q + 1 := by rw [List.length_cons, tsOf_flats_len HJl.out]
              rw [hrl] at hLs ⊢
              obtain ⟨ro', rc', heq, hLr, _⟩ := Vl.own_ls (Vl.own_below HRq.out c4) HShw.out
              rw [hrl] at heq hLr
              simp only [Value.slice.injEq] at heq
              obtain ⟨e1, _, e2⟩ := heq
              subst e1 e2
              have HLs := Lib.hid hLs
              have HLr := Lib.hid hLr
              have HI4 := Lib.hid (HIq.out.stays c4)
              have Hc4 := Lib.hid (keepC Hcq.out c4)
              have HB4 := Lib.hid (bchain HBq.out c4)
              have hcp4 := Hc4.out
              clear c4 o4 hLs hLr hrl hcp
              go_wp2_with fail
              refine (kind_list (tsOf L q) v9 z4 z4 (Below.refl _ _) HI4.out).mono ?_
              rintro e z5 ⟨⟨g5, vs5, rfl, _, _, _, _⟩, c5, _⟩
              rw [HTl.out]
              have HC5 := Lib.hid c5
              clear c5 hcp4
              go_wp2_with fail
              refine (Vl.same_any _ _ so ro (q + 1) (q + 1) sc rc z5 z5 (Below.refl _ _) (HLs.out.below HC5.out) (HLr.out.below HC5.out)).mono ?_
              rintro e z6 ⟨rfl, c6⟩
              rw [Vl.sameB_self]
              have HC6 := Lib.hid (bchain HC5.out c6)
              have hcp6 := keepC Hc4.out HC6.out
              clear c6
              go_wp2_with fail
              refine (kind_any (.list (tsOf L q)) v9 z6 z6 (Below.refl _ _) (HI4.out.stays HC6.out)).mono ?_
              rintro e z7 ⟨rfl, c7⟩
              have HB7 := Lib.hid (bchain (bchain HB4.out HC6.out) c7)
              clear c7 hcp6
              unfold Th.kind
              go_wp2_with fail
              refine (kruns_any w _ HB7.out).mono ?_
              rintro e z8 ⟨rfl, c8⟩
              have HB8 := Lib.hid c8
              clear c8
              go_wp2_with fail
              go_ret
              exact ⟨rfl, HB8.out⟩
            · exact absurd HTx.out hno
  · have hL := hR
    have hs1 : True := trivial
    clear hR
    have HL := Lib.hid hL
    have HLen := Lib.hid hL.len
    clear hL
    have HOr0 := Lib.hid (own_one w ⟨5, (n : Int), .empty, 0, 0, 0⟩ w.heap.size (Nat.le_refl _))
    have HBr0 := Lib.hid (below_alloc w (Vl.block ⟨5, (n : Int), .empty, 0, 0, 0⟩))
    go_enter Try.func7, Try.ntmps7
    go_wp2_with fail
    go_loopw [3, 4, 5, 6, 7, 8] (fun th wa i _ _ _ wr => ∃ (j : Nat) (fv rv : Value) (vs : List Value), fv = th ∧ rv = wa ∧ i = .int .i64 j ∧ j ≤ n ∧ Hid (Own wr w.heap.size fv vs) ∧ Hid (vs.length = j) ∧ Hid (Vl.Own wr w.heap.size rv (⟨5, (n : Int), .empty, 0, 0, 0⟩ :: Th.flats (tsOf rs j))) ∧ Hid (∀ A u, Each A u (tsOf rs j) vs) ∧ Hid (∀ b, rv.ownBlock = some b → fv.ownBlock ≠ some b) ∧ Hid (Below w.heap.size w wr)) (fun _ _ i _ _ _ _ => n - (intOf i).toNat)
    case atStart => exact ⟨0, _, _, [], rfl, rfl, rfl, by omega, Lib.hid (own_nil _ _), Lib.hid rfl, HOr0, Lib.hid (fun _ _ => .nil), Lib.hid (fun b _ h => by cases h), HBr0⟩
    case round =>
      obtain ⟨j, fv, rv, vs, rfl, rfl, rfl, hj, HOf, HVl, HOr, HEa, HNe, HB⟩ := hrel
      clear hs1
      have hsq := HB.out.size
      by_cases hlt : j < n
      · have hjl : j < rs.length := HLen.out ▸ hlt
        obtain ⟨b, off, rfl⟩ := HL.out.at (by omega)
        have hrow := (HL.out.row j hjl).below HB.out
        have hsh := HL.out.short rs[j] (List.getElem_mem hjl)
        obtain ⟨x, hx⟩ : ∃ x, rs[j] = x := ⟨_, rfl⟩
        have HTs : Hid (tsOf rs (j + 1) = tsOf rs j ++ [oneT x]) := Lib.hid (by rw [← hx]; exact tsOf_succ hjl)
        rw [hx] at hrow hsh
        have HSh := Lib.hid hsh
        obtain ⟨g0, g1, g2, g3, g4, g5⟩ := hrow
        clear hx hsh
        go_wp2_with fail
        refine (one_any x HSh.out wr wr (Below.refl _ _)).mono ?_
        rintro e z1 ⟨⟨v, rfl, hA⟩, c1⟩
        have hv1 := (hA (fun _ => True) z1).oneCell
        have hst := store_fresh z1 v hv1
        have HA : Hid (∀ A u, Is A u (oneT x) v) := Lib.hid hA
        have HC1 := Lib.hid (bchain c1 (below_alloc z1 (.cells #[v] 25)))
        have HsX : Hid ((z1.alloc (.cells #[v] 25)).heap.size = z1.heap.size + 1) := Lib.hid (by simp)
        have HcX : Hid ((z1.alloc (.cells #[v] 25)).cell? ⟨z1.heap.size, 0, none⟩ = some v) := Lib.hid (by simp [go_sem])
        have hs1' := c1.size
        clear hA c1 g0 g1 g2 g3 g4 g5
        unfold tv
        go_wp2_with fail
        refine (kind_flat (oneT x) v (z1.alloc (.cells #[v] 25)) _ (Below.refl _ _) (HA.out _ _)).mono ?_
        rintro e z2 ⟨he, c2⟩
        rcases he with ⟨_, sv, rfl, o2⟩ | ⟨hno, _⟩
        · have hshh := (HA.out (fun _ => True) z2).short
          rw [oneT_flat] at o2 hshh
          obtain ⟨so, sc, rfl, hLs, hso⟩ := Vl.own_ls o2 hshh
          simp only [List.length_singleton] at hLs ⊢
          obtain ⟨b2, off2, rfl⟩ := hLs.at (by omega)
          obtain ⟨_, hadd, hb2⟩ := hso _ rfl
          simp only [Addr.mk.injEq] at hadd
          obtain ⟨e1, e2, _⟩ := hadd
          subst e1 e2
          have hrow := hLs.row 0 (by simp)
          simp only [List.getElem_cons_zero, Nat.zero_mul, Nat.add_zero] at hrow
          obtain ⟨y, hy⟩ : ∃ y, (oneT x).head = y := ⟨_, rfl⟩
          have hyk : y.kind = (oneT x).kind := by rw [← hy, Th.head_kind]
          have HFy : Hid ((oneT x).flat = [y]) := Lib.hid (by rw [oneT_flat, hy])
          rw [hy] at hrow hLs
          have HRow := Lib.hid hrow
          have hcv := keepC HcX.out c2
          have hcv' := cell_regrown hcv
          have m0' := cell_regrown hrow.c0
          have k2 := kind_agg (HA.out (fun _ => True) z2)
          rw [← hyk] at k2
          have hne0 : (y.kind != y.kind) = false := bne_self_eq_false _
          have hsc := hLs.reach
          have hsf := hLs.fits
          have HC2 := Lib.hid (bchain HC1.out c2)
          have HCv := Lib.hid hcv
          have hs2 := c2.size
          clear c2 o2 hLs hso hrow hcv hst hshh hyk hy
          go_wp2
          refine wp_region_quiet_below (by kernel_rfl) (by kernel_rfl) ?_
          repeat (first | go_big_quiet_step (first | (go_at_call 18; exact k2 _ _)) | quiet_step (first | (go_at_call 18; exact k2 _ _)))
          refine wpQuiet_nil ?_
          intro _ hw'
          obtain ⟨⟨dq, osq⟩, hw''⟩ := hw'
          subst hw''
          have bq := below_regrown z2 dq osq
          have hcv3 := keepC HCv.out bq
          have HRow3 := Lib.hid (HRow.out.below bq)
          have HC3 := Lib.hid (bchain HC2.out bq)
          have hs3 := bq.size
          clear bq hcv' m0' k2 hne0
          generalize grow (redrawn z2 dq) osq = z3 at *
          have HOfa : Hid (∀ o, Own (z3.alloc o) w.heap.size fv vs) := fun o => own_alloc (own_below HOf.out HC3.out) o
          go_wp2_with (at_builtin; go_must (refine Tg.wpList_append _ rfl (.tmp 56) (.tmp 58) 34 Try.underlying34 rfl w.heap.size fv vs rfl (HOfa.out _) z3.heap.size 1 v rfl (by simp [go_sem]) hv1 (by have := HVl.out; omega) (by have := HC3.out.size; simp; omega) ?_))
          intro f1 y1 o3 gr3 hw3
          have hbx := below_alloc z3 (.cells #[v] 25)
          have hsx : (z3.alloc (.cells #[v] 25)).heap.size = z3.heap.size + 1 := by simp
          have hlf := rows_lt HOf.out
          have hlr := rows_lt HOr.out
          have HOr1 : Hid (Vl.Own y1 w.heap.size rv (⟨5, (n : Int), .empty, 0, 0, 0⟩ :: Th.flats (tsOf rs j))) := Lib.hid (rows_grown (Vl.own_alloc (Vl.own_below HOr.out HC3.out) _) gr3 (fun b hb h => HNe.out b hb h))
          have HOf1 := Lib.hid o3
          have HNe1 : Hid (∀ b, rv.ownBlock = some b → f1.ownBlock ≠ some b) := Lib.hid (fun b hb hf => by
            rcases hw3 with h | h
            · exact HNe.out b hb (h ▸ hf)
            · rw [h] at hf
              injection hf with hf
              have := hlr b hb
              have := HC3.out.size
              omega)
          have hrb : fv.ownBlock ≠ some b2 := fun k => by
            have := hlf b2 k
            have := HsX.out
            omega
          have r0 := cell_grown gr3 (keepC HRow3.out.c0 hbx) hrb
          have r1 := cell_grown gr3 (keepC HRow3.out.c1 hbx) hrb
          have r2 := cell_grown gr3 (keepC HRow3.out.c2 hbx) hrb
          have r3 := cell_grown gr3 (keepC HRow3.out.c3 hbx) hrb
          have r4 := cell_grown gr3 (keepC HRow3.out.c4 hbx) hrb
          have r5 := cell_grown gr3 (keepC HRow3.out.c5 hbx) hrb
          have HBy1 := Lib.hid ((bchain (bchain HB.out HC3.out) hbx).grown gr3 (bchain (bchain HB.out HC3.out) hbx).size (fun b hb => (rows_lt HOf.out b hb).1))
          have HOra : Hid (∀ o, Vl.Own (y1.alloc o) w.heap.size rv (⟨5, (n : Int), .empty, 0, 0, 0⟩ :: Th.flats (tsOf rs j))) := fun o => Vl.own_alloc HOr1.out o
          have hsy := HBy1.out.size
          clear o3 gr3 hw3 hbx hsx hlf hrb hcv3
          go_wp2_with (at_builtin; go_must (refine Vl.wpList_append _ rfl (.tmp 60) (.tmp 64) rfl w.heap.size rv (⟨5, (n : Int), .empty, 0, 0, 0⟩ :: Th.flats (tsOf rs j)) rfl (HOra.out _) (some ⟨y1.heap.size, 0, none⟩) 1 1 [y] rfl rfl (fun h => by cases h) (Vl.seg_block (heap_alloc_new y1 _)) (by rw [List.length_cons, tsOf_flats_len (by omega)]; omega) (by simp; omega) ?_))
          intro r1' y2 o4 gr4 hw4
          have hbx := below_alloc y1 (Vl.block y)
          have hsx : (y1.alloc (Vl.block y)).heap.size = y1.heap.size + 1 := by simp
          have hlf1 := rows_lt HOf1.out
          have HOr2 : Hid (Vl.Own y2 w.heap.size r1' (⟨5, (n : Int), .empty, 0, 0, 0⟩ :: Th.flats (tsOf rs (j + 1)))) := Lib.hid (by
            rw [HTs.out, Th.flats_app, Th.flats_one, HFy.out]
            exact o4)
          have HOf2 : Hid (Own y2 w.heap.size f1 (vs ++ [v])) := Lib.hid (rows_grown (own_alloc HOf1.out _) gr4 (fun b hb h => HNe1.out b h hb))
          have HNe2 : Hid (∀ b, r1'.ownBlock = some b → f1.ownBlock ≠ some b) := Lib.hid (fun b hb hf => by
            rcases hw4 with h | h
            · exact HNe1.out b (h ▸ hb) hf
            · rw [h] at hb
              injection hb with hb
              have := hlf1 b hf
              omega)
          have HBy2 := Lib.hid ((bchain HBy1.out hbx).grown gr4 (bchain HBy1.out hbx).size (fun b hb => (rows_lt HOr1.out b hb).1))
          have HVl2 : Hid ((vs ++ [v]).length = j + 1) := Lib.hid (by rw [List.length_append, HVl.out]; rfl)
          have HEa2 : Hid (∀ A u, Each A u (tsOf rs (j + 1)) (vs ++ [v])) := Lib.hid (fun A u => by rw [HTs.out]; exact (HEa.out A u).app (HA.out A u))
          clear o4 gr4 hw4 hbx hsx hlf1 hlr r0 r1 r2 r3 r4 r5
          go_wp2_with fail
          go_roundw
          case rel => exact ⟨j + 1, f1, r1', vs ++ [v], rfl, rfl, by go_num, by omega, HOf2, HVl2, HOr2, HEa2, HNe2, HBy2⟩
          case measure => simp [intOf]; omega
        · exact absurd (oneT_fits x) hno
      · obtain rfl : j = n := by omega
        have hjl : j ≤ rs.length := by rw [← HLen.out]; exact Nat.le_refl _
        have HJl := Lib.hid hjl
        obtain ⟨fo, fc, rfl, hf1, hf2, hf3, hf4⟩ := own_seg HOf.out
        have hvl := HVl.out
        rw [hvl] at hf1 HOf HNe ⊢
        have HSf := Lib.hid hf4
        have hshw : ∀ r ∈ (⟨5, (j : Int), .empty, 0, 0, 0⟩ :: Th.flats (tsOf rs j) : List T), Vl.Short r := by
          intro r hr
          have f0 : Fit 0 := ⟨by omega, by omega⟩
          have e0 : ByteArray.empty.size ≤ 140737488355328 := by decide
          rcases List.mem_cons.1 hr with rfl | hr
          · exact ⟨⟨by dsimp only; omega, by dsimp only; omega⟩, ⟨by dsimp only; omega, by dsimp only; omega⟩, e0, f0, f0, f0⟩
          · obtain ⟨t, ht, hr⟩ := Th.mem_flats.1 hr
            obtain ⟨i, hi, rfl⟩ := List.getElem_of_mem ht
            have hE := HEa.out (fun _ => True) w
            exact (hE.2 i hi (by rw [← hE.1]; exact hi)).short r hr
        obtain ⟨ro, rc, rfl, hLr, _⟩ := Vl.own_ls HOr.out hshw
        have hrl : (⟨5, (j : Int), .empty, 0, 0, 0⟩ :: Th.flats (tsOf rs j) : List T).length = j + 1 := by rw [List.length_cons, tsOf_flats_len hjl]
        rw [hrl] at HOr HNe ⊢
        have HShw := Lib.hid hshw
        clear hf3 hf4 hLr hvl hshw hrl
        have HTl := Lib.hid (tsOf_len hjl)
        have HTf := Lib.hid (tsOf_flat hjl)
        have HTx := Lib.hid (tsOf_fits hjl (by omega))
        go_wp2_with fail
        refine (from_list2 fo j fc _ (fun _ => False) (tsOf rs j) vs wr wr (Below.refl _ _) HVl.out.symm (by omega) HSf.out (HEa.out _ _)).mono ?_
        rintro e z1 ⟨⟨v9, rfl, hI9⟩, c1⟩
        have hv9 := hI9.oneCell
        have hst := store_fresh z1 v9 hv9
        have bz := below_alloc z1 (.cells #[v9] 25)
        have HI9 : Hid (Is (fun b => wr.heap.size ≤ b) (z1.alloc (.cells #[v9] 25)) (.list (tsOf rs j)) v9) := Lib.hid ((hI9.mono (fun b h => h.resolve_left id)).stays bz)
        have HC1 := Lib.hid (bchain c1 bz)
        have hs1 := c1.size
        have HcZ : Hid ((z1.alloc (.cells #[v9] 25)).cell? ⟨z1.heap.size, 0, none⟩ = some v9) := Lib.hid (by simp [go_sem])
        have HOf0 := Lib.hid (own_below HOf.out HC1.out)
        have HOr0 := Lib.hid (Vl.own_below HOr.out HC1.out)
        have HBz := Lib.hid (bchain HB.out HC1.out)
        clear hI9 c1 bz
        unfold tv
        go_wp2_with fail
        obtain ⟨p9, hp9⟩ : ∃ p, z1.heap.size = p := ⟨_, rfl⟩
        rw [hp9] at HcZ hs1 ⊢
        generalize z1.alloc (.cells #[v9] 25) = Z at *
        clear hst hp9
        go_loopw [10] (fun i wq => ∃ (q : Nat) (M : List Value), i = .int .i64 q ∧ q ≤ j ∧ Hid (Own wq w.heap.size (.slice fo j fc) M) ∧ Hid (M.length = j) ∧ Hid (Vl.Own wq w.heap.size (.slice ro (j + 1) rc) (⟨5, (j : Int), .empty, 0, 0, 0⟩ :: Th.flats (tsOf rs j))) ∧ Hid (wq.cell? ⟨p9, 0, none⟩ = some v9) ∧ Hid (Is (fun b => wr.heap.size ≤ b) wq (.list (tsOf rs j)) v9) ∧ Hid (Below w.heap.size w wq)) (fun i _ => j - (intOf i).toNat)
        case atStart => exact ⟨0, vs, rfl, by omega, HOf0, HVl, HOr0, HcZ, HI9, HBz⟩
        case round =>
          rename World => wq
          obtain ⟨q, M, rfl, hq, HOq, HMl, HRq, Hcq, HIq, HBq⟩ := hrel
          by_cases hlt2 : q < j
          · obtain ⟨g, rfl, hjM⟩ := own_some HOq.out (by have := HMl.out; omega)
            clear hjM
            have hgl : g < wr.heap.size := (rows_lt HOf.out g rfl).2
            go_wp2_with fail
            refine (from_text ⟨#[116, 117, 114, 110, 101, 100]⟩ wq wq (Below.refl _ _)).mono ?_
            rintro e z3 ⟨rfl, c3⟩
            have HO3 := Lib.hid (own_below HOq.out c3)
            obtain ⟨hc3, hf3', hgB⟩ := own_here HO3.out q (by have := HMl.out; omega)
            have hf3 := hf3' q
            have HR3 := Lib.hid (Vl.own_below HRq.out c3)
            have Hc3 := Lib.hid (keepC Hcq.out c3)
            have HI3 := Lib.hid (HIq.out.stays c3)
            have HB3 := Lib.hid (bchain HBq.out c3)
            clear c3 hf3'
            unfold tv
            go_wp2_with fail
            go_roundw
            case rel =>
              refine ⟨q + 1, _, by go_num, by omega, Lib.hid (own_put HO3.out q _), Lib.hid (by rw [List.length_set]; exact HMl.out), Lib.hid (rows_set_ne HR3.out (fun k => HNe.out g k rfl) _), Lib.hid ?_, Lib.hid ?_, Lib.hid (HB3.out.setCell (p := ⟨g, q, none⟩) hgB _)⟩
              · have hne : p9 ≠ g := by omega
                simp [go_sem, Hc3.out]
              · refine HI3.out.frame (fun b a o z e => ?_) (fun _ _ _ _ a => a)
                have hne : b ≠ g := by omega
                simp [go_sem, e]
            case measure => simp [intOf]; omega
          · have hqj : q = j := by omega
            have hcp := Hcq.out
            clear hlt2
            subst hqj
            go_wp2_with fail
            refine (kind_flat (.list (tsOf rs q)) v9 wq wq (Below.refl _ _) HIq.out.lt).mono ?_
            rintro e z4 ⟨he, c4⟩
            rcases he with ⟨_, sv, rfl, o4⟩ | ⟨hno, _⟩
            · rw [HTf.out] at o4
              obtain ⟨so, sc, rfl, hLs, _⟩ := Vl.own_ls o4 HShw.out
              have hrl : (⟨5, (q : Int), .empty, 0, 0, 0⟩ :: Th.flats (tsOf rs q) : List T).length = q + 1 := by rw [List.length_cons, tsOf_flats_len HJl.out]
              rw [hrl] at hLs ⊢
              obtain ⟨ro', rc', heq, hLr, _⟩ := Vl.own_ls (Vl.own_below HRq.out c4) HShw.out
              rw [hrl] at heq hLr
              simp only [Value.slice.injEq] at heq
              obtain ⟨e1, _, e2⟩ := heq
              subst e1 e2
              have HLs := Lib.hid hLs
              have HLr := Lib.hid hLr
              have HI4 := Lib.hid (HIq.out.stays c4)
              have Hc4 := Lib.hid (keepC Hcq.out c4)
              have HB4 := Lib.hid (bchain HBq.out c4)
              have hcp4 := Hc4.out
              clear c4 o4 hLs hLr hrl hcp
              go_wp2_with fail
              refine (kind_list (tsOf rs q) v9 z4 z4 (Below.refl _ _) HI4.out).mono ?_
              rintro e z5 ⟨⟨g5, vs5, rfl, _, _, _, _⟩, c5, _⟩
              rw [HTl.out]
              have HC5 := Lib.hid c5
              clear c5 hcp4
              go_wp2_with fail
              refine (Vl.same_any _ _ so ro (q + 1) (q + 1) sc rc z5 z5 (Below.refl _ _) (HLs.out.below HC5.out) (HLr.out.below HC5.out)).mono ?_
              rintro e z6 ⟨rfl, c6⟩
              rw [Vl.sameB_self]
              have HC6 := Lib.hid (bchain HC5.out c6)
              have hcp6 := keepC Hc4.out HC6.out
              clear c6
              go_wp2_with fail
              refine (kind_any (.list (tsOf rs q)) v9 z6 z6 (Below.refl _ _) (HI4.out.stays HC6.out)).mono ?_
              rintro e z7 ⟨rfl, c7⟩
              have HB7 := Lib.hid (bchain (bchain HB4.out HC6.out) c7)
              clear c7 hcp6
              unfold Th.kind
              go_wp2_with fail
              refine (kruns_any w _ HB7.out).mono ?_
              rintro e z8 ⟨rfl, c8⟩
              have HB8 := Lib.hid c8
              clear c8
              go_wp2_with fail
              go_ret
              exact ⟨rfl, HB8.out⟩
            · exact absurd HTx.out hno
end Go.Proofs.Ytfmfeagfinnmmaa
