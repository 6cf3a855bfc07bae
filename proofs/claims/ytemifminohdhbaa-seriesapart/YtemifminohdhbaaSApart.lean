/- THE WALK OF SeriesApart. -/
import Derived.Test.YtemifminohdhbaaSNames
import Derived.Test.YtemifminohdhbaaAkS
import Derived.Deep.RegionHeld3
set_option maxRecDepth 100000
namespace Go.Proofs.Ytemifminohdhbaa
open Go.RowKit
open Mem
open Go.Sort (grow)

theorem take_len {l : List Sr.T} {s : ByteArray} (h : Se.takeE l s = 0) : (Se.takeR l s).length = l.length := by
  unfold Se.takeR
  rw [if_pos h, List.length_set]
theorem take_0 {l : List Sr.T} {s : ByteArray} (h : Se.takeE l s = 0) : Se.unE l s = 0 ∧ ¬ (Se.own l s).limit < (Se.own l s).next := by
  unfold Se.takeE at h
  by_cases k : Se.unE l s = 0
  · rw [if_neg (by simpa using k)] at h
    refine ⟨k, fun m => ?_⟩
    rw [if_pos m] at h
    omega
  · rw [if_pos k] at h
    exact absurd h k
theorem take_own {l : List Sr.T} {s : ByteArray} (h : Se.takeE l s = 0) (t : ByteArray) : decide (Se.ix t (Se.takeR l s) < (Se.takeR l s).length) = decide (Se.ix t l < l.length) ∧ Se.own (Se.takeR l s) t = if t = s then Se.nextT (Se.own l s) else Se.own l t := by
  obtain ⟨h1, h2⟩ := take_0 h
  obtain ⟨k1, k2, k3⟩ := Se.un_0 h1
  have e := Se.set_own (r := Se.nextT (Se.own l s)) k2 (Se.own_name k2) t
  rw [take_len h, (Se.take_ok h1 h2).2.2, e.1]
  exact ⟨rfl, e.2⟩
theorem take_short {L : List Sr.T} {s : ByteArray} (hL : ∀ r ∈ L, Sr.Short r) : ∀ r ∈ Se.takeR L s, Sr.Short r := by
  intro r hr
  by_cases h : Se.unE L s = 0
  · by_cases k : (Se.own L s).limit < (Se.own L s).next
    · rw [(Se.take_full h k).2.2] at hr
      cases hr
    · rw [(Se.take_ok h k).2.2] at hr
      obtain ⟨h1, h2, h3⟩ := Se.un_0 h
      rcases Se.set_mem h2 r hr with rfl | hr
      · have := hL _ (Se.own_mem h2)
        obtain ⟨k1, k2, k3, k4⟩ := Se.sound_iff.1 (((Se.right_iff L).1 h1).2.1 _ (Se.own_mem h2))
        have k5 := Se.lim_iff.1 k2
        refine ⟨this.1, ?_, this.2.2⟩
        show -9223372036854775808 ≤ (Se.own L s).next + 1 ∧ (Se.own L s).next + 1 ≤ 9223372036854775807
        omega
      · exact hL r hr
  · rw [(Se.take_un h).2.2] at hr
    cases hr
set_option maxHeartbeats 4000000 in
theorem seriesApart_walk (zs : List Ak.T) (ao : Option Addr) (n cap : Nat) (nam : Int) (w : World) (hA : Ak.Ls w ao n cap zs) (hnam : (Lit.int .i64 nam).wf = true) :
    Calls Try.prog 6 #[.slice ao n cap, .int .i64 nam] w fun e w' => e = .returned (.bool true) ∧ Below w.heap.size w w' := by
  have HA := Lib.hid hA
  have HF := Lib.hid (fit_in hnam)
  have HAn := Lib.hid hA.len
  have hcap := hA.reach
  have hfit := hA.fits
  clear hA hnam
  go_enter Try.func6, Try.ntmps6
  go_wp2_with fail
  have HNm := Lib.hid (names_at w)
  have HBn : Hid (Below w.heap.size w (w.alloc (.cells #[.string ⟨#[97]⟩, .string ⟨#[98]⟩, .string ⟨#[82, 111, 116]⟩, .string ⟨#[122, 45, 57]⟩] 9))) := Lib.hid ((Below.refl _ _).alloc (Nat.le_refl _) _)
  generalize w.alloc (.cells #[.string ⟨#[97]⟩, .string ⟨#[98]⟩, .string ⟨#[82, 111, 116]⟩, .string ⟨#[122, 45, 57]⟩] 9) = U at *
  replace HA := Lib.hid (HA.out.below HBn.out)
  generalize w.heap.size = g at HNm ⊢
  go_loopw [5, 7, 8, 9, 10] (fun a i _ _ _ wr => ∃ (l : List Sr.T) (lo : Option Addr) (p lc j : Nat), j ≤ n ∧ p ≤ 8 ∧ p ≤ lc ∧ lc ≤ 9223372036854775807 ∧ a = .slice lo p lc ∧ i = .int .i64 j ∧ Hid (Se.rightB l = true ∧ p = l.length) ∧ Hid (Sr.Ls wr lo p lc l) ∧ Hid (Below U.heap.size U wr)) (fun _ i _ _ _ _ => n - (intOf i).toNat)
  case atStart => exact ⟨[], none, 0, 0, 0, by omega, by omega, by omega, by omega, rfl, rfl, Lib.hid ⟨rfl, rfl⟩, Lib.hid (Sr.ls_nil U), Lib.hid (Below.refl _ _)⟩
  case round =>
    rename World => wz
    obtain ⟨l, lo, p, lc, j, hj, hp, hpc, hlc, rfl, rfl, HR, HL, HB⟩ := hrel
    by_cases hlt : j < n ∧ j < 50
    · obtain ⟨hj1, hj2⟩ := hlt
      obtain ⟨b, off, rfl⟩ := HA.out.at (by omega)
      have hjl : j < zs.length := by have := HAn.out; omega
      have hrow := (HA.out.row j hjl).below HB.out
      have HSh := Lib.hid (HA.out.short _ (List.getElem_mem hjl))
      generalize zs[j] = z at *
      have hrowd := hrow.below ((Below.refl wz.heap.size wz).drew)
      obtain ⟨g0, g1, g2⟩ := hrow
      obtain ⟨d0, d1, d2⟩ := hrowd
      go_wp2_with fail
      refine (bookWithin_any z.name 0 3 _ HSh.out.2.1 (by omega) (by omega) (by omega)).mono ?_
      rintro e w1 ⟨⟨k, rfl, hk0, hk1⟩, hw1⟩
      subst hw1
      have hk3 : k ≤ 3 := by omega
      have hk4 : k < 4 := by omega
      have hk5 : (k : Int) < 4 := by omega
      have lx : ∀ y, Below w1.heap.size w1 y → Below w1.heap.size w1 y ∧ y.cell? ⟨b, off + j * 3 + 2, none⟩ = some (.int .i64 z.limit) ∧ y.cell? ⟨g, k, none⟩ = some (.string (nm k)) := fun y hy => ⟨hy, by rw [(bcell hy).1 _ _ (cell_lt g2)]; exact g2, ((HNm.out.below HB.out).below hy) k hk3⟩
      clear g0 g1 g2 d0 d1 d2
      go_wp2
      go_region_held3 (fun y => Below w1.heap.size w1 y ∧ y.cell? ⟨b, off + j * 3 + 2, none⟩ = some (.int .i64 z.limit) ∧ y.cell? ⟨g, k, none⟩ = some (.string (nm k))) (first | assumption | exact lx _ (Below.refl _ _).drew) (first | (go_at_call 21; refine (within_gen z.limit 1 9 w1 _ (Below.refl _ _).drew HSh.out.2.2 (by omega) (by omega) (by omega)).mono ?_; rintro e w2 ⟨⟨r, rfl, hr0, hr1⟩, b2⟩; have s2 := lx _ b2) | (go_at_call 8; refine (ser_open l (nm k) r lo p lc _ (HL.out.below b2) (nm_size k)).mono ?_; rintro e w3 ⟨v, rfl, o3, b3⟩; have b3' := bchain b2 b3; have s3 := lx _ b3') | fail)
      have HB3 := Lib.hid (bchain HB.out b3')
      have HL3 := Lib.hid (HL.out.below b3')
      clear s2 s3 lx b2 b3 b3'
      rcases open_cases (n := (r : Int)) HR.out.1 (nm_name k) (lim_small hr0 hr1) with ⟨hE, hO, hT, h8, _⟩ | ⟨hE, hO, _⟩
      · rw [hE]
        rw [hO] at o3
        obtain ⟨vo, vc, rfl, hV, hvf, hvr⟩ := Sr.own_lit o3 (open_short HL.out.short (nm_size k) (fit_small hr1)) (n := p + 1) (by rw [Se.openL_len, ← HR.out.2])
        have HV := Lib.hid hV
        have HQ2 : Hid (p + 1 = (Se.openL l ⟨nm k, 1, r, false⟩).length) := Lib.hid hV.len
        have HQ := Lib.hid hT
        have h8' : p + 1 ≤ 8 := by have := HR.out.2; omega
        clear hE hO hT h8 hV o3
        generalize Se.openL l ⟨nm k, 1, r, false⟩ = l2 at *
        go_wp2_with fail
        go_roundw
        case rel => exact ⟨l2, vo, p + 1, vc, j + 1, by omega, h8', hvf, hvr, rfl, by go_num, Lib.hid ⟨HQ.out, HQ2.out⟩, HV, HB3⟩
        case measure => simp [intOf]; omega
      · obtain ⟨E, hEE⟩ : ∃ E, Se.openE l (nm k) r = E := ⟨_, rfl⟩
        rw [hEE] at hE
        rw [hEE]
        have hne : (E == 0) = false := beq_eq_false_iff_ne.2 hE
        clear hE hEE hO o3
        go_wp2_with fail
        go_roundw
        case rel => exact ⟨l, lo, p, lc, j + 1, by omega, hp, hpc, hlc, rfl, by go_num, HR, HL3, HB3⟩
        case measure => simp [intOf]; omega
    · have hcs : ¬ j < n ∨ (j < n ∧ ¬ j < 50) := by omega
      clear hlt
      rcases hcs with hcs | ⟨hcs1, hcs2⟩
      all_goals
        go_wp2_with fail
        refine (bookWithin_any nam 0 3 _ HF.out (by omega) (by omega) (by omega)).mono ?_
        rintro e w1 ⟨⟨k, rfl, hk0, hk1⟩, hw1⟩
        subst hw1
        have hk3 : k ≤ 3 := by omega
        have hnm := (HNm.out.below HB.out) k hk3
        go_wp2_with fail
        refine (ser_take l (nm k) lo p lc _ HL.out).mono ?_
        rintro e w2 ⟨v, rfl, o2, b2⟩
        have HB2 := Lib.hid (bchain HB.out b2)
        have HL2 := Lib.hid (HL.out.below b2)
        clear hnm
        by_cases hE : Se.takeE l (nm k) = 0
        · have HT := Lib.hid (take_own hE)
          have h0 := take_0 hE
          obtain ⟨u1, u2, u3⟩ := Se.un_0 h0.1
          have hsd := Se.sound_iff.1 (((Se.right_iff l).1 u1).2.1 _ (Se.own_mem u2))
          have hlm := Se.lim_iff.1 hsd.2.1
          have HBd : Hid (1 ≤ (Se.own l (nm k)).next ∧ (Se.own l (nm k)).next ≤ 1099511627777) := Lib.hid ⟨hsd.2.2.1, by omega⟩
          rw [hE]
          obtain ⟨vo, vc, rfl, hV, hvf, hvr⟩ := Sr.own_lit o2 (take_short HL.out.short) (n := p) (by rw [take_len hE, ← HR.out.2])
          have HV := Lib.hid hV
          generalize Se.takeN l (nm k) = N at *
          generalize Se.takeR l (nm k) = m at *
          clear hE h0 u1 u2 u3 hsd hlm hV o2 b2
          go_wp2_with fail
          go_loopw [15, 16, 17, 18, 19] (fun i _ _ _ _ wr => ∃ j : Nat, j ≤ 4 ∧ i = .int .i64 j ∧ Hid (Below w2.heap.size w2 wr)) (fun i _ _ _ _ _ => 4 - (intOf i).toNat)
          case atStart => exact ⟨0, by omega, rfl, Lib.hid (Below.refl _ _)⟩
          case round =>
            rename World => wy
            obtain ⟨i, hi, rfl, HBy⟩ := hrel
            by_cases hi4 : i < 4
            · have hi3 : i ≤ 3 := by omega
              have hnm := ((HNm.out.below HB2.out).below HBy.out) i hi3
              go_wp2_with fail
              refine (ser_find l (nm i) lo p lc w2 _ HBy.out (HL2.out.below HBy.out)).mono ?_
              rintro e y1 ⟨rfl, c1⟩
              have HT1 := Lib.hid (HT.out (nm i))
              have HC1 := Lib.hid c1
              unfold Sr.val
              obtain ⟨f, hf⟩ : ∃ f, decide (Se.ix (nm i) l < l.length) = f := ⟨_, rfl⟩
              rw [hf]
              rw [hf] at HT1
              obtain ⟨x, hx⟩ : ∃ x, Se.own l (nm i) = x := ⟨_, rfl⟩
              have HX := Lib.hid hx
              rw [hx]
              have hnm2 := (((HNm.out.below HB2.out).below HC1.out).below (Sr.below_own y1 x)) i hi3
              have hb2 := bchain HC1.out (Sr.below_own y1 x)
              have HC2 := Lib.hid hb2
              have HCx := Lib.hid (Sr.c_box y1 x)
              rw [show Sr.box y1 x = y1.alloc (.cells #[.string x.name, .int .i64 x.next, .int .i64 x.limit, .bool x.shut] 32) from rfl] at hnm2
              clear hf hx c1 hb2 hnm
              go_wp2_with fail
              rw [show y1.alloc (.cells #[.string x.name, .int .i64 x.next, .int .i64 x.limit, .bool x.shut] 32) = Sr.box y1 x from rfl]
              generalize Sr.box y1 x = Y1 at *
              clear hnm2
              refine (ser_find m (nm i) vo p vc Y1 _ (Below.refl _ _) (HV.out.below HC2.out)).mono ?_
              rintro e y2 ⟨rfl, c2⟩
              rw [HT1.out.1, HT1.out.2]
              by_cases hik : i = k
              · subst hik
                rw [if_pos rfl, HX.out]
                have hbd := HBd.out
                rw [HX.out] at hbd
                unfold Sr.val Se.nextT
                dsimp only
                have hb3 := bchain c2 (Sr.below_own y2 ⟨x.name, x.next + 1, x.limit, x.shut⟩)
                have HC3 := Lib.hid (bchain HC2.out hb3)
                have hCx := HCx.out.below hb3
                have hCb := Sr.c_box y2 ⟨x.name, x.next + 1, x.limit, x.shut⟩
                unfold Sr.C at hCx hCb
                rw [show Sr.box y2 ⟨x.name, x.next + 1, x.limit, x.shut⟩ = y2.alloc (.cells #[.string x.name, .int .i64 (x.next + 1), .int .i64 x.limit, .bool x.shut] 32) from rfl] at hCx hCb HC3
                obtain ⟨a0, a1, a2, a3⟩ := hCx
                obtain ⟨e0, e1, e2, e3⟩ := hCb
                have n0 : (x.name.toList == x.name.toList) = true := beq_self_eq_true _
                have n1 : (x.next == x.next) = true := beq_self_eq_true _
                have n2 : (x.limit == x.limit) = true := beq_self_eq_true _
                have n3 : (x.shut == x.shut) = true := beq_self_eq_true _
                have n5 : (x.limit != x.limit) = false := bne_self_eq_false _
                have n6 : (x.shut != x.shut) = false := bne_self_eq_false _
                have n7 : (f != f) = false := bne_self_eq_false _
                have n4 : (x.next + 1 != x.next + 1) = false := bne_self_eq_false _
                have n8 : ((i : Int) != (i : Int)) = false := bne_self_eq_false _
                have n9 : ((i : Int) == (i : Int)) = true := beq_self_eq_true _
                clear hb3
                go_wp2_with fail
                go_roundw
                case rel => exact ⟨i + 1, by omega, by go_num, HC3⟩
                case measure => simp [intOf]; omega
              · rw [if_neg (fun e => hik (nm_inj hi3 hk3 e)), HX.out]
                unfold Sr.val
                have hb3 := bchain c2 (Sr.below_own y2 x)
                have HC3 := Lib.hid (bchain HC2.out hb3)
                have hCx := HCx.out.below hb3
                have hCb := Sr.c_box y2 x
                unfold Sr.C at hCx hCb
                rw [show Sr.box y2 x = y2.alloc (.cells #[.string x.name, .int .i64 x.next, .int .i64 x.limit, .bool x.shut] 32) from rfl] at hCx hCb HC3
                obtain ⟨a0, a1, a2, a3⟩ := hCx
                obtain ⟨e0, e1, e2, e3⟩ := hCb
                have n0 : (x.name.toList == x.name.toList) = true := beq_self_eq_true _
                have n1 : (x.next == x.next) = true := beq_self_eq_true _
                have n2 : (x.limit == x.limit) = true := beq_self_eq_true _
                have n3 : (x.shut == x.shut) = true := beq_self_eq_true _
                have n5 : (x.limit != x.limit) = false := bne_self_eq_false _
                have n6 : (x.shut != x.shut) = false := bne_self_eq_false _
                have n7 : (f != f) = false := bne_self_eq_false _
                have n8 : ((i : Int) != (k : Int)) = true := bne_iff_ne.2 (by omega)
                have n9 : ((i : Int) == (k : Int)) = false := beq_eq_false_iff_ne.2 (by omega)
                clear hb3
                go_wp2_with fail
                go_roundw
                case rel => exact ⟨i + 1, by omega, by go_num, HC3⟩
                case measure => simp [intOf]; omega
            · go_wp2_with fail
              refine (sruns w2 _ HBy.out).mono ?_
              rintro e w7 ⟨rfl, b7⟩
              have HB7 := Lib.hid b7
              clear b7
              go_wp2_with fail
              go_ret
              exact ⟨rfl, bchain HBn.out (bchain HB2.out HB7.out)⟩
        · have hO : Se.takeR l (nm k) = [] := if_neg hE
          rw [hO] at o2
          obtain ⟨vo, vc, rfl, hV, hvf, hvr⟩ := Sr.own_lit o2 (by intro r hr; cases hr) (n := 0) rfl
          obtain ⟨E, hEE⟩ : ∃ E, Se.takeE l (nm k) = E := ⟨_, rfl⟩
          rw [hEE] at hE
          rw [hEE]
          have hne : (E != 0) = true := bne_iff_ne.2 hE
          generalize Se.takeN l (nm k) = N at *
          clear hE hEE hO o2 hV b2
          go_wp2_with fail
          refine (sruns U _ HB2.out).mono ?_
          rintro e w7 ⟨rfl, b7⟩
          have HB7 := Lib.hid b7
          clear b7
          go_wp2_with fail
          go_ret
          exact ⟨rfl, bchain HBn.out HB7.out⟩
end Go.Proofs.Ytemifminohdhbaa
