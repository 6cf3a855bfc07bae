/- THE DOCUMENT's OWN ANSWER: impostref8's Entries. (By genres.py.) -/
import Derived.Test.YtgnepgkmjgpkeaaPoE
import Derived.Test.YtgnepgkmjgpkeaaTtK
import Derived.Test.YtgnepgkmjgpkeaaBaM
import Derived.Test.YtgnepgkmjgpkeaaRefMonN
import Derived.Deep.RegionHeld3
set_option maxRecDepth 100000
set_option linter.unusedVariables false
namespace Go.Proofs.Ytgnepgkmjgpkeaa
open Go.RowKit
open Mem

theorem refSubZ (x : Int) (w : World) (hx : Fit x) : Calls Try.prog 27 #[.int .i64 0, .int .i64 x] w fun e w' => e = both (Mn.amt (-x)) (Mn.err (-x)) ∧ w' = w := by
  have h := refSub_any 0 x w (by decide) hx
  rw [Int.zero_sub] at h
  exact h
theorem seg_two {X : World} {g : Nat} {a b : Ba.T} (h : X.heap[g]? = some (.cells #[.string a.acct, .int .i64 a.amt, .string b.acct, .int .i64 b.amt] 33 (0, 0))) : Ba.Seg X (some ⟨g, 0, none⟩) [a, b] := by
  have hB : Ba.Block X g [a, b] := h
  refine .inr ⟨g, 0, rfl, fun k hk => ?_⟩
  rw [Nat.zero_add]
  exact hB.row k hk
theorem text_add (a b : ByteArray) (h : a.size + b.size ≤ 9223372036854775807) : ∀ u, (Op.stringOp .add a b).run Try.prog u = .ok (.string (a ++ b)) u := fun u => run_string_add_sum u a b h
/-- what Entries answers: rows in new memory, and why there are none -/
def EntrE (w : World) (g : Int) (ps : List Pt.T) (e : Ending) (w' : World) : Prop := ∃ v, e = .returned (.tuple #[v, .int .i64 (Po.entrE ps)]) ∧ Ba.Own w' w.heap.size v (Po.entrR g ps) ∧ Below w.heap.size w w'
theorem Iv_err_z {x : Int} (h : Mn.err x = 0) : Mn.Fit x := by
  unfold Mn.err at h
  split at h
  · assumption
  · omega
theorem entr_len (g : Int) (ps : List Pt.T) : (Po.entrL g ps).length = 1 + 2 * ps.length := by
  unfold Po.entrL
  rw [List.length_cons]
  have : (ps.flatMap Po.rowsOf).length = 2 * ps.length := by
    induction ps with
    | nil => rfl
    | cons p l ih =>
      rw [List.flatMap_cons, List.length_append, ih, List.length_cons]
      show 2 + _ = _
      omega
  omega
theorem entr_short {g : Int} {ps : List Pt.T} (hg : Fit g) (hs : ∀ x ∈ ps, Pt.Short x) (hc : ∀ x ∈ ps, x.cat.size ≤ 140737488351232) (hb : ∀ x ∈ ps, Po.badE x = false) : ∀ r ∈ Po.entrL g ps, Ba.Short r := by
  intro r hr
  unfold Po.entrL at hr
  rcases List.mem_cons.1 hr with rfl | hr
  · exact ⟨(by decide : Po.owedA.size ≤ 140737488355328), hg⟩
  · obtain ⟨p, hp, hr⟩ := List.mem_flatMap.1 hr
    have h1 := hc p hp
    have h2 := hb p hp
    unfold Po.badE at h2
    rw [decide_eq_false_iff_not] at h2
    have e1 : Mn.err (-p.net) = 0 := Decidable.byContradiction fun q => h2 (.inl q)
    have e2 : Mn.err (-p.tax) = 0 := Decidable.byContradiction fun q => h2 (.inr q)
    unfold Po.rowsOf at hr
    simp only [List.mem_cons, List.not_mem_nil, or_false] at hr
    rcases hr with rfl | rfl
    · exact ⟨by show (Po.netA ++ p.cat).size ≤ _; rw [ByteArray.size_append]; have : Po.netA.size = 4 := rfl; omega, Iv_err_z e1⟩
    · exact ⟨by show (Po.taxA ++ p.cat).size ≤ _; rw [ByteArray.size_append]; have : Po.taxA.size = 4 := rfl; omega, Iv_err_z e2⟩
set_option maxHeartbeats 4000000 in
theorem rentries (N X G : Int) (ps : List Pt.T) (ao : Option Addr) (p cap : Nat) (w : World) (hL : Pt.Ls w ao p cap ps) (hG : Fit G) (hp : p ≤ 1000) (hc : ∀ x ∈ ps, x.cat.size ≤ 140737488351232) :
    Calls Try.prog 15 #[Tt.val N X G (.slice ao p cap)] w (EntrE w G ps) := by
  have HL := Lib.hid hL
  have HLn := Lib.hid hL.len
  have HCa := Lib.hid hc
  have HGf := Lib.hid hG
  have hcap := hL.reach
  have hfit := hL.fits
  obtain ⟨U, hU⟩ : ∃ U, w.alloc (.cells #[.int .i64 N, .int .i64 X, .int .i64 G, .slice ao p cap] 30) = U := ⟨_, rfl⟩
  have hbU : Below w.heap.size w U := hU ▸ (Below.refl _ _).alloc (Nat.le_refl _) _
  have hAU : Tt.At U w.heap.size N X G (.slice ao p cap) := hU ▸ Tt.at_box w N X G (.slice ao p cap)
  have HLU := Lib.hid (hL.below hbU)
  have HBU := Lib.hid hbU
  obtain ⟨h, hh⟩ : ∃ h, w.heap.size = h := ⟨_, rfl⟩
  have HHw := Lib.hid hh
  rw [hh] at hAU
  have HAU := Lib.hid hAU
  have HO0 : Hid (Ba.Own (U.alloc (.cells #[.string Po.owedA, .int .i64 G] 33)) U.heap.size (.slice (some ⟨U.heap.size, 0, none⟩) 1 1) (Po.entrL G (ps.take 0))) := Lib.hid (Ba.own_of_block (M := [⟨Po.owedA, G⟩]) (heap_alloc_new U _) (Nat.le_refl _) rfl (by omega))
  have hUz : U.heap.size = h + 1 := by rw [← hU, ← hh]; simp
  have HO1 : Hid (Ba.Own (U.alloc (.cells #[.string Po.owedA, .int .i64 G] 33)) U.heap.size (.slice (some ⟨h + 1, 0, none⟩) 1 1) (Po.entrL G (ps.take 0))) := Lib.hid (by rw [← hUz]; exact HO0.out)
  clear HO0
  have HUz := Lib.hid hUz
  have HB0 : Hid (Below U.heap.size U (U.alloc (.cells #[.string Po.owedA, .int .i64 G] 33))) := Lib.hid ((Below.refl _ _).alloc (Nat.le_refl _) _)
  obtain ⟨c0, c1, c2, c3⟩ := hAU.cells
  rw [← hU] at c0 c1 c2 c3
  have HUs := Lib.hid hU
  unfold Po.owedA at HO1 HB0
  clear hL hc hG hU hbU hAU hUz
  unfold Tt.val
  go_enter Try.func15, Try.ntmps15
  go_wp2_with fail
  rw [HUs.out]
  clear HUs c0 c1 c2 c3
  generalize U.alloc (.cells #[.string ⟨#[111, 119, 101, 100]⟩, .int .i64 G] 33) = V at *
  go_loopw [4, 5, 6, 7, 8, 9] (fun t i _ _ _ _ wr => ∃ (k : Nat) (vo : Option Addr) (q vc : Nat), k ≤ p ∧ i = .int .i64 k ∧ t = .slice vo q vc ∧ Hid (Below U.heap.size U wr) ∧ Hid (Ba.Own wr U.heap.size (.slice vo q vc) (Po.entrL G (ps.take k))) ∧ Hid (∀ x ∈ ps.take k, Po.badE x = false)) (fun _ i _ _ _ _ _ => p - (intOf i).toNat)
  case atStart => exact ⟨0, some ⟨h + 1, 0, none⟩, 1, 1, by omega, rfl, rfl, HB0, HO1, Lib.hid (by simp)⟩
  case round =>
    clear HB0 HO1
    rename World => wz
    obtain ⟨k, vo, q, vc, hk, rfl, rfl, HB, HO, HK⟩ := hrel
    obtain ⟨c0, c1, c2, c3⟩ := (HAU.out.below HB.out).cells
    by_cases hlt : k < p
    · obtain ⟨b, off, rfl⟩ := HLU.out.at (by omega)
      have hkl : k < ps.length := HLn.out ▸ hlt
      have hrow := (HLU.out.row k hkl).below HB.out
      have HSt := Lib.hid (Po.entr_step G ps k hkl)
      have HTk := Lib.hid (List.take_succ_eq_append_getElem hkl)
      have HSh := Lib.hid (HL.out.short _ (List.getElem_mem hkl))
      have HMm : Hid (ps[k] ∈ ps) := Lib.hid (List.getElem_mem hkl)
      have HCk := Lib.hid (HCa.out _ (List.getElem_mem hkl))
      obtain ⟨r, hr⟩ : ∃ r, ps[k] = r := ⟨_, rfl⟩
      rw [hr] at hrow HSt HTk HSh HMm HCk
      clear hr
      obtain ⟨r0, r1, r2, r3⟩ := hrow
      have HLe : Hid ((Po.entrL G (ps.take k)).length ≤ 2001) := Lib.hid (by rw [entr_len, List.length_take]; omega)
      go_wp2_with fail
      refine (refSubZ r.net _ HSh.out.2.2.1).mono ?_
      rintro e w2 ⟨rfl, hw2⟩
      subst hw2
      unfold both
      go_wp2_with fail
      refine (refSubZ r.tax _ HSh.out.2.2.2).mono ?_
      rintro e w3 ⟨rfl, hw3⟩
      subst hw3
      unfold both
      rename World => wz
      rcases Mn.err_two (-r.net) with e1 | e1
      · rcases Mn.err_two (-r.tax) with e2 | e2
        · have HBd := Lib.hid (Po.bad_no e1 e2)
          rw [e1, e2, Mn.amt_fit (Iv_err_z e1), Mn.amt_fit (Iv_err_z e2)]
          clear e1 e2
          obtain ⟨t1, ht1⟩ : ∃ t1, Po.netA ++ r.cat = t1 := ⟨_, rfl⟩
          obtain ⟨t2, ht2⟩ : ∃ t2, Po.taxA ++ r.cat = t2 := ⟨_, rfl⟩
          have hadd1 : ∀ u, (Op.stringOp .add ⟨#[110, 101, 116, 47]⟩ r.cat).run Try.prog u = .ok (.string t1) u := fun u => by
            rw [← ht1]
            exact text_add Po.netA r.cat (by have := HCk.out; have : Po.netA.size = 4 := rfl; omega) u
          have hadd2 : ∀ u, (Op.stringOp .add ⟨#[116, 97, 120, 47]⟩ r.cat).run Try.prog u = .ok (.string t2) u := fun u => by
            rw [← ht2]
            exact text_add Po.taxA r.cat (by have := HCk.out; have : Po.taxA.size = 4 := rfl; omega) u
          have HRw : Hid (Po.rowsOf r = [⟨t1, -r.net⟩, ⟨t2, -r.tax⟩]) := Lib.hid (by unfold Po.rowsOf; rw [ht1, ht2])
          have hr0U : U.cell? ⟨b, off + k * 4, none⟩ = some (.string r.cat) := by
            have h' := r0
            rw [(bcell HB.out).1 _ _ (cell_lt ((HLU.out.row k hkl).1))] at h'
            exact h'
          have h3U : U.cell? ⟨h, 3, none⟩ = some (.slice (some ⟨b, off, none⟩) p cap) := HAU.out.cells.2.2.2
          have HKn : Hid (∀ x ∈ ps.take (k + 1), Po.badE x = false) := Lib.hid (by
            rw [HTk.out]
            intro x hx
            rcases List.mem_append.1 hx with hx | hx
            · exact HK.out x hx
            · obtain rfl := List.mem_singleton.1 hx
              exact HBd.out)
          clear ht1 ht2
          go_wp2_with fail
          have lx : ∀ u, Below U.heap.size U u → Below U.heap.size U u ∧ u.cell? ⟨h, 3, none⟩ = some (.slice (some ⟨b, off, none⟩) p cap) ∧ u.cell? ⟨b, off + k * 4, none⟩ = some (.string r.cat) := fun u hu => ⟨hu, by rw [(bcell hu).1 _ _ (cell_lt h3U)]; exact h3U, by rw [(bcell hu).1 _ _ (cell_lt hr0U)]; exact hr0U⟩
          have hBz := HB.out
          go_region_held3 (fun u => Below U.heap.size U u ∧ u.cell? ⟨h, 3, none⟩ = some (.slice (some ⟨b, off, none⟩) p cap) ∧ u.cell? ⟨b, off + k * 4, none⟩ = some (.string r.cat)) (first | with_reducible assumption | (apply lx; repeat (first | with_reducible assumption | with_reducible apply below_box | with_reducible apply Below.drew)) | fail) (first | (refine Ba.step_append (wz.alloc (.cells #[.string t1, .int .i64 (-r.net), .string t2, .int .i64 (-r.tax)] 33)).drew U (below_box HB.out _).drew (by rfl) (.tmp 47) (.tmp 66) (by rfl) (.slice vo q vc) (Po.entrL G (ps.take k)) (by rfl) (Ba.own_alloc HO.out _) (some ⟨wz.heap.size, 0, none⟩) 2 2 [⟨t1, -r.net⟩, ⟨t2, -r.tax⟩] (by rfl) rfl (fun h => by cases h) (seg_two (heap_alloc_new wz _)) (by have := HLe.out; omega) ?_; intro v3 y3 o3 gr3 b3; have s3 := lx _ b3) | fail)
          all_goals (
            obtain ⟨uo, uc, e3, hUl, _⟩ := Ba.own_ls o3 (by
              rw [← HRw.out, ← HSt.out]
              exact entr_short HGf.out (fun x hx => HL.out.short x (List.mem_of_mem_take hx)) (fun x hx => HCa.out x (List.mem_of_mem_take hx)) HKn.out)
            subst e3
            obtain ⟨q3, hq3⟩ : ∃ q3, (Po.entrL G (ps.take k) ++ [⟨t1, -r.net⟩, ⟨t2, -r.tax⟩] : List Ba.T).length = q3 := ⟨_, rfl⟩
            have HO3 : Hid (Ba.Own y3 U.heap.size (.slice uo q3 uc) (Po.entrL G (ps.take (k + 1)))) := Lib.hid (by rw [HSt.out, HRw.out, ← hq3]; exact o3)
            have HB3 := Lib.hid b3
            rw [hq3]
            clear hq3 hUl o3 gr3 b3 s3
            go_wp2_with fail
            go_roundw)
          case rel => exact ⟨k + 1, uo, q3, uc, by omega, by go_num, rfl, HB3, HO3, HKn⟩
          case measure => simp [intOf]; omega
        · have HP := Lib.hid (Po.entr_bad G HMm.out (Po.bad_yes (.inr (by rw [e2]; omega))))
          rw [e1, e2]
          clear e1 e2
          go_wp2_with fail
          go_ret2
          exact ⟨_, by rw [HP.out.1]; rfl, by rw [HP.out.2]; exact Ba.own_nil _ _, bchain HBU.out HB.out⟩
      · have HP := Lib.hid (Po.entr_bad G HMm.out (Po.bad_yes (.inl (by rw [e1]; omega))))
        rw [e1]
        clear e1
        go_wp2_with fail
        go_ret2
        exact ⟨_, by rw [HP.out.1]; rfl, by rw [HP.out.2]; exact Ba.own_nil _ _, bchain HBU.out HB.out⟩
    · obtain rfl : k = p := by omega
      have HTk : Hid (ps.take k = ps) := Lib.hid (List.take_of_length_le (by rw [HLn.out]; exact Nat.le_refl _))
      have HP := Lib.hid (Po.entr_ok G (fun x hx => HK.out x (by rw [HTk.out]; exact hx)))
      go_wp2_with fail
      go_ret2
      refine ⟨.slice vo q vc, by rw [HP.out.1]; rfl, ?_, bchain HBU.out HB.out⟩
      rw [HP.out.2]
      have ho := HO.out
      rw [HTk.out] at ho
      exact Ba.own_mono ho (by have h1 := HUz.out; have h2 := HHw.out; omega)
end Go.Proofs.Ytgnepgkmjgpkeaa
