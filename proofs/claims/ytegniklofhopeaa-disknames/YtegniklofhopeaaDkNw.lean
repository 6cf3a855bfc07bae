/- DiskNames walked. -/
import Derived.Test.YtegniklofhopeaaDkI
import Derived.Deep.DeepCutAuto
import Derived.Deep.CutBlock
import Derived.BigQuiet
set_option maxRecDepth 100000
set_option linter.unusedVariables false
namespace Go.Proofs.Ytegniklofhopeaa
open Go.RowKit
open Mem Dk

/-- what the loop holds -/
def Dk.NI (w : World) (p i : Nat) (wr : World) : Prop := ∃ (P : Nat → Prop) (d : D), S P w wr p d ∧ Free d ∧ d.fs.length ≤ i
theorem Dk.NI.below {w wr wx : World} {p i : Nat} (h : NI w p i wr) (k : Below wr.heap.size wr wx) : NI w p i wx := by
  obtain ⟨P, d, h1, h2, h3⟩ := h
  exact ⟨P, d, h1.later k, h2, h3⟩
theorem Dk.NI.more {w wr : World} {p i : Nat} (h : NI w p i wr) : NI w p (i + 1) wr := by
  obtain ⟨P, d, h1, h2, h3⟩ := h
  exact ⟨P, d, h1, h2, by omega⟩
set_option maxHeartbeats 8000000 in
theorem diskNames_walk (zs : List As.T) (ao : Option Addr) (n cap : Nat) (w : World) (hA : Asks w ao n cap zs) :
    Calls Try.prog 5 #[.slice ao n cap] w fun e w' => e = .returned (.bool true) ∧ Below w.heap.size w w' := by
  have HA := Lib.hid hA
  have HN := Lib.hid hA.ls.len
  have hcap := hA.ls.reach
  have hfit := hA.ls.fits
  clear hA
  go_enter Try.func5, Try.ntmps5
  go_wp2_with (go_at_call 6; refine (s_new w).mono ?_; rintro e W1 ⟨p, rfl, h1⟩; have H1 : Hid (NI w p 0 W1) := Lib.hid ⟨_, _, h1, ⟨rfl, rfl⟩, Nat.le_refl _⟩; clear h1)
  go_loopw [4, 5, 6, 7, 8, 9, 10, 11, 12, 13, 14, 15, 16, 17, 18] (fun i _ _ _ _ _ _ _ _ _ _ _ _ _ _ wr => ∃ j : Nat, j ≤ 50 ∧ i = .int .i64 j ∧ Hid (NI w p j wr)) (fun i _ _ _ _ _ _ _ _ _ _ _ _ _ _ _ => 51 - (intOf i).toNat)
  case atStart => exact ⟨0, by omega, rfl, H1⟩
  case round =>
    clear H1
    rename World => wz
    obtain ⟨j, hj, rfl, H⟩ := hrel
    by_cases hlt : j < n ∧ j < 50
    · obtain ⟨hj1, hj2⟩ := hlt
      obtain ⟨b, off, rfl⟩ := HA.out.ls.at (by omega)
      have hjl : j < zs.length := HN.out ▸ hj1
      obtain ⟨P, d, hS, hF, hl⟩ := H.out
      have hrow := (HA.out.ls.row j hjl).below hS.bel
      have HSh := Lib.hid (HA.out.ls.short _ (List.getElem_mem hjl))
      have HSub := Lib.hid (HA.out.sub _ (List.getElem_mem hjl))
      obtain ⟨z, hz⟩ : ∃ z, zs[j] = z := ⟨_, rfl⟩
      rw [hz] at hrow HSh HSub
      clear hz
      obtain ⟨c0, c1, c2, c3, c4, c5⟩ := hrow
      obtain ⟨W, hW, hbW, hC⟩ := As.boxed1 wz z
      have HS := Lib.hid (hS.tight.later hbW)
      have HF := Lib.hid hF
      have HL := Lib.hid hl
      have HC := Lib.hid hC
      unfold As.C at hC
      obtain ⟨a0, a1, a2, a3, a4, a5⟩ := hC
      have HBW := Lib.hid hbW
      clear hS hF hl hbW
      obtain ⟨xs, hx, hxn⟩ := HSub.out.1
      have hxc := hx.reach
      have hxf := hx.fits
      have HX := Lib.hid hx
      clear hx
      by_cases hbig : (300 : Int) < (z.data.n : Int)
      · have HM := Lib.hid (H.out.more.below HBW.out)
        clear HS HC HBW HF HL H
        go_wp2_with fail
        go_roundw
        case rel => exact ⟨j + 1, by omega, by go_num, HM⟩
        case measure => simp [intOf]; omega
      · obtain ⟨th, hth⟩ : ∃ th, has z.name d.fs = th := ⟨_, rfl⟩
        have HTh := Lib.hid hth
        have CR := Lib.hid (s_is HS.out z.name th hth)
        clear hth H
        go_upto_block 2 with (go_at_call 16; refine CR.out.mono ?_; rintro e W2 ⟨ro, rn, rc, rfl, b2⟩; clear c0 c1 c2 c3 c4 c5 CR; have HS2 := Lib.hid (HS.out.later b2); have HC2 := Lib.hid (HC.out.below b2); (obtain ⟨x0, x1, x2, x3, x4, x5⟩ := HC.out.below b2); clear b2 a0 a1 a2 a3 a4 a5 HS HC HBW)
        go_cut [8, 9, 10, 11, 12, 13, 49, 71] (fun _ _ _ _ _ _ _ _ wx => Hid (NI w p (j + 1) wx))
        case first =>
          by_cases e1 : z.kind = 1
          · have q1 : (z.kind == 1) = true := beq_iff_eq.2 e1
            clear e1
            have CA := Lib.hid (s_app_old HS2.out z.name HSh.out.2.2.1 HX.out (by have := HL.out; omega))
            cases hq : ((appD d z.name xs).1 == 0)
            · cases th
              · have HH : Hid (has z.name (appD d z.name xs).2.fs = false) := Lib.hid (by rw [app_has HS2.out.ok, HTh.out, hq]; rfl)
                have HNi : Hid (Free (appD d z.name xs).2 ∧ (appD d z.name xs).2.fs.length ≤ j + 1) := Lib.hid ⟨app_free HF.out, by have := app_len (d := d) (s := z.name) (zs := xs); have := HL.out; omega⟩
                generalize (appD d z.name xs).1 = q at CA hq
                generalize (appD d z.name xs).2 = d' at CA HH HNi
                go_wp2_with (first | (go_at_call 11; refine CA.out.mono ?_; rintro e W3 ⟨rfl, h3, u3⟩; have HC3 := Lib.hid (HC2.out.keep (u3.block _ HC2.out.lt fun z => Nat.lt_irrefl _ z.2)); have CR3 := Lib.hid (s_is h3 z.name false HH.out); have HS3 := Lib.hid h3; (obtain ⟨y0, y1, y2, y3, y4, y5⟩ := HC3.out); clear h3 u3 CA) | (go_at_call 16; refine CR3.out.mono ?_; rintro e W4 ⟨ro4, rn4, rc4, rfl, b4⟩; have HM : Hid (NI w p (j + 1) W4) := Lib.hid ⟨_, _, HS3.out.later b4, HNi.out.1, HNi.out.2⟩; clear b4 CR3))
                go_meet
                exact HM
              · have HH : Hid (has z.name (appD d z.name xs).2.fs = true) := Lib.hid (by rw [app_has HS2.out.ok, HTh.out, hq]; rfl)
                have HNi : Hid (Free (appD d z.name xs).2 ∧ (appD d z.name xs).2.fs.length ≤ j + 1) := Lib.hid ⟨app_free HF.out, by have := app_len (d := d) (s := z.name) (zs := xs); have := HL.out; omega⟩
                generalize (appD d z.name xs).1 = q at CA hq
                generalize (appD d z.name xs).2 = d' at CA HH HNi
                go_wp2_with (first | (go_at_call 11; refine CA.out.mono ?_; rintro e W3 ⟨rfl, h3, u3⟩; have HC3 := Lib.hid (HC2.out.keep (u3.block _ HC2.out.lt fun z => Nat.lt_irrefl _ z.2)); have CR3 := Lib.hid (s_is h3 z.name true HH.out); have HS3 := Lib.hid h3; (obtain ⟨y0, y1, y2, y3, y4, y5⟩ := HC3.out); clear h3 u3 CA) | (go_at_call 16; refine CR3.out.mono ?_; rintro e W4 ⟨ro4, rn4, rc4, rfl, b4⟩; have HM : Hid (NI w p (j + 1) W4) := Lib.hid ⟨_, _, HS3.out.later b4, HNi.out.1, HNi.out.2⟩; clear b4 CR3))
                go_meet
                exact HM
            · cases th
              · have HH : Hid (has z.name (appD d z.name xs).2.fs = true) := Lib.hid (by rw [app_has HS2.out.ok, HTh.out, hq]; rfl)
                have HNi : Hid (Free (appD d z.name xs).2 ∧ (appD d z.name xs).2.fs.length ≤ j + 1) := Lib.hid ⟨app_free HF.out, by have := app_len (d := d) (s := z.name) (zs := xs); have := HL.out; omega⟩
                generalize (appD d z.name xs).1 = q at CA hq
                generalize (appD d z.name xs).2 = d' at CA HH HNi
                go_wp2_with (first | (go_at_call 11; refine CA.out.mono ?_; rintro e W3 ⟨rfl, h3, u3⟩; have HC3 := Lib.hid (HC2.out.keep (u3.block _ HC2.out.lt fun z => Nat.lt_irrefl _ z.2)); have CR3 := Lib.hid (s_is h3 z.name true HH.out); have HS3 := Lib.hid h3; (obtain ⟨y0, y1, y2, y3, y4, y5⟩ := HC3.out); clear h3 u3 CA) | (go_at_call 16; refine CR3.out.mono ?_; rintro e W4 ⟨ro4, rn4, rc4, rfl, b4⟩; have HM : Hid (NI w p (j + 1) W4) := Lib.hid ⟨_, _, HS3.out.later b4, HNi.out.1, HNi.out.2⟩; clear b4 CR3))
                go_meet
                exact HM
              · have HH : Hid (has z.name (appD d z.name xs).2.fs = true) := Lib.hid (by rw [app_has HS2.out.ok, HTh.out, hq]; rfl)
                have HNi : Hid (Free (appD d z.name xs).2 ∧ (appD d z.name xs).2.fs.length ≤ j + 1) := Lib.hid ⟨app_free HF.out, by have := app_len (d := d) (s := z.name) (zs := xs); have := HL.out; omega⟩
                generalize (appD d z.name xs).1 = q at CA hq
                generalize (appD d z.name xs).2 = d' at CA HH HNi
                go_wp2_with (first | (go_at_call 11; refine CA.out.mono ?_; rintro e W3 ⟨rfl, h3, u3⟩; have HC3 := Lib.hid (HC2.out.keep (u3.block _ HC2.out.lt fun z => Nat.lt_irrefl _ z.2)); have CR3 := Lib.hid (s_is h3 z.name true HH.out); have HS3 := Lib.hid h3; (obtain ⟨y0, y1, y2, y3, y4, y5⟩ := HC3.out); clear h3 u3 CA) | (go_at_call 16; refine CR3.out.mono ?_; rintro e W4 ⟨ro4, rn4, rc4, rfl, b4⟩; have HM : Hid (NI w p (j + 1) W4) := Lib.hid ⟨_, _, HS3.out.later b4, HNi.out.1, HNi.out.2⟩; clear b4 CR3))
                go_meet
                exact HM
          · have q1 : (z.kind == 1) = false := beq_eq_false_iff_ne.2 e1
            by_cases e5 : z.kind = 5
            · have q5 : (z.kind == 5) = true := beq_iff_eq.2 e5
              clear e1 e5
              have CA := Lib.hid (s_remove HS2.out z.name)
              cases th
              · have HH : Hid (has z.name (remD d z.name).2.fs = false) := Lib.hid (rem_has HS2.out.ok HF.out).1
                have hq := (rem_has (s := z.name) HS2.out.ok HF.out).2
                rw [HTh.out] at hq
                have HNi : Hid (Free (remD d z.name).2 ∧ (remD d z.name).2.fs.length ≤ j + 1) := Lib.hid ⟨rem_free HF.out, by have := rem_len (d := d) (s := z.name); have := HL.out; omega⟩
                generalize (remD d z.name).1 = q at CA hq
                generalize (remD d z.name).2 = d' at CA HH HNi
                go_wp2_with (first | (go_at_call 14; refine CA.out.mono ?_; rintro e W3 ⟨rfl, h3, u3⟩; have HC3 := Lib.hid (HC2.out.keep (u3.block _ HC2.out.lt fun z => Nat.lt_irrefl _ z.2)); have CR3 := Lib.hid (s_is h3 z.name false HH.out); have HS3 := Lib.hid h3; (obtain ⟨y0, y1, y2, y3, y4, y5⟩ := HC3.out); clear h3 u3 CA) | (go_at_call 16; refine CR3.out.mono ?_; rintro e W4 ⟨ro4, rn4, rc4, rfl, b4⟩; have HM : Hid (NI w p (j + 1) W4) := Lib.hid ⟨_, _, HS3.out.later b4, HNi.out.1, HNi.out.2⟩; clear b4 CR3))
                go_meet
                exact HM
              · have HH : Hid (has z.name (remD d z.name).2.fs = false) := Lib.hid (rem_has HS2.out.ok HF.out).1
                have hq := (rem_has (s := z.name) HS2.out.ok HF.out).2
                rw [HTh.out] at hq
                have HNi : Hid (Free (remD d z.name).2 ∧ (remD d z.name).2.fs.length ≤ j + 1) := Lib.hid ⟨rem_free HF.out, by have := rem_len (d := d) (s := z.name); have := HL.out; omega⟩
                generalize (remD d z.name).1 = q at CA hq
                generalize (remD d z.name).2 = d' at CA HH HNi
                go_wp2_with (first | (go_at_call 14; refine CA.out.mono ?_; rintro e W3 ⟨rfl, h3, u3⟩; have HC3 := Lib.hid (HC2.out.keep (u3.block _ HC2.out.lt fun z => Nat.lt_irrefl _ z.2)); have CR3 := Lib.hid (s_is h3 z.name false HH.out); have HS3 := Lib.hid h3; (obtain ⟨y0, y1, y2, y3, y4, y5⟩ := HC3.out); clear h3 u3 CA) | (go_at_call 16; refine CR3.out.mono ?_; rintro e W4 ⟨ro4, rn4, rc4, rfl, b4⟩; have HM : Hid (NI w p (j + 1) W4) := Lib.hid ⟨_, _, HS3.out.later b4, HNi.out.1, HNi.out.2⟩; clear b4 CR3))
                go_meet
                exact HM
            · have q5 : (z.kind == 5) = false := beq_eq_false_iff_ne.2 e5
              clear e1 e5
              have HM : Hid (NI w p (j + 1) W2) := Lib.hid ⟨_, _, HS2.out, HF.out, by have := HL.out; omega⟩
              go_wp2_with fail
              go_meet
              exact HM
        case rest =>
          clear HS2 HC2 x0 x1 x2 x3 x4 x5 HF HL HTh HX hxc hxf
          rename World => wn
          obtain ⟨P5, d5, hS5, hF5, hl5⟩ := hcut.out
          have HS5 := Lib.hid hS5
          have HFr := Lib.hid hF5
          have HL5 := Lib.hid hl5
          obtain ⟨nn, hnn⟩ : ∃ nn, d5.fs.length = nn := ⟨_, rfl⟩
          have HNn := Lib.hid hnn
          have HLn : Hid ((names d5.fs).length = nn) := Lib.hid (by unfold names; rw [List.length_map]; exact hnn)
          have HRm := Lib.hid hS5.ok.room
          have HSo := Lib.hid hS5.ok.sorted
          have hnn50 : nn ≤ 51 := by omega
          clear hS5 hF5 hl5 hcut hnn
          go_wp2_with (go_at_call 18; refine (s_names HS5.out).mono ?_; rintro e W5 ⟨v5, rfl, o5, b5⟩; (obtain ⟨no, ncap, hv5, hNs⟩ := St.own_ls o5); rw [HLn.out] at hv5 hNs; subst hv5; have HNs := Lib.hid hNs; have hn1 := hNs.fits; have hn2 := hNs.reach; have HS6 := Lib.hid (HS5.out.later b5); clear hNs b5 o5 HS5)
          go_loopw [14, 16, 17, 18] (fun t k _ _ wr => ∃ q m : Nat, q ≤ nn ∧ m ≤ 4194304 ∧ k = .int .i64 q ∧ t = .int .i64 m ∧ Hid (total (d5.fs.take q) = m) ∧ Hid (Below W5.heap.size W5 wr)) (fun _ k _ _ _ => nn - (intOf k).toNat)
          case atStart => exact ⟨0, 0, by omega, by omega, rfl, rfl, Lib.hid rfl, Lib.hid (Below.refl _ _)⟩
          case round =>
            rename World => wy
            obtain ⟨q, m, hq, hm, rfl, rfl, HT, HB⟩ := hrel
            by_cases hqn : q < nn
            · have hqf : q < d5.fs.length := HNn.out ▸ hqn
              obtain ⟨b', off', rfl⟩ := HNs.out.at (by omega)
              have hq2 : q < (names d5.fs).length := HLn.out ▸ hqn
              have r0 := (HNs.out.below HB.out).row q hq2
              have e0 : (names d5.fs)[q] = d5.fs[q].name := by simp [names]
              have HSt := Lib.hid (total_take hqf)
              have HLe := Lib.hid (total_take_le d5.fs (q + 1))
              have C := Lib.hid (s_nth (HS6.out.later HB.out) hqf)
              rw [e0] at r0
              have HPrev : Hid (∀ q', q = q' + 1 → ∃ pr : ByteArray, wy.cell? ⟨b', off' + q', none⟩ = some (.string pr) ∧ Op.bytesLess pr.toList d5.fs[q].name.toList = true) := Lib.hid fun q' e => by
                subst e
                have hq3 : q' < (names d5.fs).length := by omega
                refine ⟨_, (HNs.out.below HB.out).row q' hq3, ?_⟩
                have e1 : (names d5.fs)[q'] = (d5.fs[q']'(by omega)).name := by simp [names]
                rw [e1]
                exact List.pairwise_iff_getElem.1 HSo.out q' (q' + 1) (by omega) hqf (by omega)
              obtain ⟨f, hf⟩ : ∃ f, d5.fs[q] = f := ⟨_, rfl⟩
              rw [hf] at r0 C HPrev HSt
              obtain ⟨bl, hbl⟩ : ∃ bl, f.bs.length = bl := ⟨_, rfl⟩
              rw [hbl] at C HSt
              have hbn : m + bl ≤ 4194304 := by
                have h1 := HSt.out
                have h2 := HT.out
                have h3 := HLe.out
                have h4 := HRm.out
                omega
              have HM : Hid (total (d5.fs.take (q + 1)) = m + bl) := Lib.hid (by rw [HSt.out, HT.out])
              clear hf hbl e0
              by_cases h0 : 0 < q
              · obtain ⟨q', rfl⟩ : ∃ q', q = q' + 1 := ⟨q - 1, by omega⟩
                obtain ⟨pr, r1, hlt1⟩ := HPrev.out q' rfl
                have hsub : ((q' + 1 : Nat) : Int) - 1 = (q' : Int) := by omega
                have hgt : (0 : Int) < ((q' + 1 : Nat) : Int) := by omega
                go_wp2_with (go_at_call 16; refine C.out.mono ?_; rintro e W6 ⟨g6, rfl, hb6, b6⟩; have HB6 := Lib.hid (bchain HB.out b6); have r0' := (bcell b6).1 _ (off' + (q' + 1)) (cell_lt r0) |>.trans r0; have r1' := (bcell b6).1 _ (off' + q') (cell_lt r1) |>.trans r1; clear hb6 b6 C r0 r1)
                go_quiet (fail)
                go_wp2_with fail
                go_roundw
                case rel => exact ⟨q' + 1 + 1, m + bl, by omega, by omega, by go_num, by go_num, HM, Lib.hid (below_drewN HB6.out _)⟩
                case measure => simp [intOf]; omega
              · obtain rfl : q = 0 := by omega
                have hgt : ¬ (0 : Int) < ((0 : Nat) : Int) := by omega
                rw [Nat.add_zero] at r0
                go_wp2_with (go_at_call 16; refine C.out.mono ?_; rintro e W6 ⟨g6, rfl, hb6, b6⟩; have HB6 := Lib.hid (bchain HB.out b6); clear hb6 b6 C)
                go_quiet (fail)
                go_wp2_with fail
                go_roundw
                case rel => exact ⟨1, m + bl, by omega, by omega, by go_num, by go_num, HM, Lib.hid (below_drewN HB6.out _)⟩
                case measure => simp [intOf]; omega
            · obtain rfl : q = nn := by omega
              have HM : Hid (total d5.fs = m) := Lib.hid (by rw [← HT.out, List.take_of_length_le (by have := HNn.out; omega)])
              have C := Lib.hid (s_total (HS6.out.later HB.out))
              rw [HM.out] at C
              have HSy := Lib.hid (HS6.out.later HB.out)
              go_wp2_with (go_at_call 19; refine C.out.mono ?_; rintro e W7 ⟨rfl, b7⟩; have HM7 : Hid (NI w p (j + 1) W7) := Lib.hid ⟨_, _, HSy.out.later b7, HFr.out, HL5.out⟩; clear b7 C)
              go_roundw
              case rel => exact ⟨j + 1, by omega, by go_num, HM7⟩
              case measure => simp [intOf]; omega
    · obtain ⟨P, d, hS, hF, hl⟩ := H.out
      have HB := Lib.hid hS.bel
      clear hS hF hl H
      by_cases hjn : j < n
      · have hj50 : ¬ (j : Int) < 50 := by omega
        go_wp2_with (go_at_call 10; refine (diskRuns_walk _).mono ?_; rintro e W9 ⟨rfl, b9⟩; have HB9 := Lib.hid (bchain HB.out b9); clear b9)
        go_ret
        exact ⟨rfl, HB9.out⟩
      · go_wp2_with (go_at_call 10; refine (diskRuns_walk _).mono ?_; rintro e W9 ⟨rfl, b9⟩; have HB9 := Lib.hid (bchain HB.out b9); clear b9)
        go_ret
        exact ⟨rfl, HB9.out⟩
end Go.Proofs.Ytegniklofhopeaa
