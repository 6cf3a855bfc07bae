/- DiskKeeps walked. -/
import Derived.Test.YtegniklofhopeaaDkE
import Derived.Deep.DeepCutAuto
import Derived.Deep.CutBlock
set_option maxRecDepth 100000
set_option linter.unusedVariables false
namespace Go.Proofs.Ytegniklofhopeaa
open Go.RowKit
open Mem Dk

def Dk.KI (w : World) (p : Nat) (ks : List UInt8) (i : Nat) (wr : World) : Prop := ∃ (P : Nat → Prop) (d : D), S P w wr p d ∧ Keep d ks i
theorem Dk.KI.below {w wr wx : World} {p i : Nat} {ks : List UInt8} (h : KI w p ks i wr) (k : Below wr.heap.size wr wx) : KI w p ks i wx := by
  obtain ⟨P, d, h1, h2⟩ := h
  exact ⟨P, d, h1.later k, h2⟩
theorem Dk.KI.more {w wr : World} {p i : Nat} {ks : List UInt8} (h : KI w p ks i wr) : KI w p ks (i + 1) wr := by
  obtain ⟨P, d, h1, h2⟩ := h
  exact ⟨P, d, h1, h2.more⟩
/-- the law's own file, as it is -/
def Dk.Has (w : World) (p : Nat) (f : F) (wr : World) : Prop := ∃ (P : Nat → Prop) (d : D), S P w wr p d ∧ has no d.fs = true ∧ own no d.fs = f
section
variable {w wr : World} {p i : Nat} {ks : List UInt8}
theorem k_tail (h : KI w p ks i wr) (hi : i ≤ 30) {ao : Option Addr} {n cap : Nat} {zs : List UInt8} (hL : By.Ls w ao n cap zs) (hn : n ≤ 300) :
    Calls Try.prog 11 #[.pointer (some ⟨p, 0, none⟩), .string ⟨#[111, 119, 110]⟩, .slice ao n cap] wr fun e w' => e = .returned (.int .i64 0) ∧ Has w p ⟨no, ks ++ zs, ks.length⟩ w' := by
  obtain ⟨P, d, h1, h2⟩ := h
  have hl := hL.len
  have h3 := h2.len
  obtain ⟨a, b, c⟩ := keep_last (zs := zs) h2 h1.ok hi (by omega)
  refine (s_app_old h1 no (by decide) hL (by omega)).mono ?_
  rintro e w' ⟨rfl, k, _⟩
  rw [a]
  exact ⟨rfl, _, _, k, b, c⟩
/-- .. and a block is none of the disk's -/
def Dk.HasG (w : World) (p : Nat) (f : F) (g : Nat) (wr : World) : Prop := ∃ (P : Nat → Prop) (d : D), S P w wr p d ∧ ¬ P g ∧ has no d.fs = true ∧ own no d.fs = f
theorem Dk.HasG.below {f : F} {g : Nat} {wx : World} (h : HasG w p f g wr) (k : Below wr.heap.size wr wx) : HasG w p f g wx := by
  obtain ⟨P, d, h1, h2, h3⟩ := h
  exact ⟨P, d, h1.later k, h2, h3⟩
theorem Dk.HasG.has {f : F} {g : Nat} (h : HasG w p f g wr) : Has w p f wr := by
  obtain ⟨P, d, h1, h2, h3⟩ := h
  exact ⟨P, d, h1, h3⟩
theorem k_read {f : F} (h : Has w p f wr) : Calls Try.prog 16 #[.pointer (some ⟨p, 0, none⟩), .string ⟨#[111, 119, 110]⟩] wr fun e w' => ∃ g : Nat, e = .returned (.tuple #[.slice (some ⟨g, 0, none⟩) f.bs.length f.bs.length, .bool true]) ∧ By.Block w' g f.bs ∧ HasG w p f g w' ∧ Below w.heap.size w w' ∧ Below wr.heap.size wr w' := by
  obtain ⟨P, d, h1, h2, rfl⟩ := h
  refine (s_read h1 no).mono ?_
  rintro e w' ⟨b, ⟨h3, rfl⟩ | ⟨_, g, rfl, hb, hg⟩⟩
  · rw [h2] at h3
    cases h3
  · exact ⟨g, rfl, hb, ⟨_, d, h1.tight.later b, fun z => by have := z.2; omega, h2, rfl⟩, bchain h1.bel b, b⟩
theorem k_crash_g {f : F} {g : Nat} (h : HasG w p f g wr) {cs : List UInt8} (hb : By.Block wr g cs) {ao : Option Addr} {n cap : Nat} {zs : List Int} (hI : Ints w ao n cap zs) :
    Calls Try.prog 15 #[.pointer (some ⟨p, 0, none⟩), .slice ao n cap] wr fun e w' => e = .returned (.tuple #[]) ∧ ∃ q, Has w p (tear f q) w' ∧ By.Block w' g cs := by
  obtain ⟨P, d, h1, hg, h2, rfl⟩ := h
  refine (s_crash_old h1 hI).mono ?_
  rintro e w' ⟨rfl, k, u⟩
  obtain ⟨q, a, b⟩ := crash_own h1.ok k.ok h2
  exact ⟨rfl, q, ⟨P, _, k, a, b⟩, (u.block g hb.lt hg).trans hb⟩
theorem k_crash {f : F} (h : Has w p f wr) {ao : Option Addr} {n cap : Nat} {zs : List Int} (hI : Ints w ao n cap zs) :
    Calls Try.prog 15 #[.pointer (some ⟨p, 0, none⟩), .slice ao n cap] wr fun e w' => e = .returned (.tuple #[]) ∧ ∃ q, Has w p (tear f q) w' := by
  obtain ⟨P, d, h1, h2, rfl⟩ := h
  refine (s_crash_old h1 hI).mono ?_
  rintro e w' ⟨rfl, k, _⟩
  obtain ⟨q, a, b⟩ := crash_own h1.ok k.ok h2
  exact ⟨rfl, q, P, _, k, a, b⟩
/-- the bytes behind the first crash -/
structure Dk.Told (ks zs cs : List UInt8) (k : Nat) : Prop where
  le : k ≤ zs.length
  len : cs.length = ks.length + k
  front : cs.take ks.length = ks
  rest : ∀ i, i < k → ∃ x t : UInt8, cs[ks.length + i]? = some x ∧ zs[i]? = some t ∧ (x = t ∨ (i + 1 = k ∧ x = t ^^^ 255 ∧ x ≠ t))
theorem Dk.told_of (ks zs : List UInt8) (q : Nat) : ∃ k cs, tear ⟨no, ks ++ zs, ks.length⟩ q = ⟨no, cs, cs.length⟩ ∧ Told ks zs cs k := by
  obtain ⟨k, h1, h2, h3, h4⟩ := tear_told ⟨no, ks ++ zs, ks.length⟩ q (by simp)
  simp only [List.length_append] at h1 h2 h3 h4
  rw [List.take_left' rfl] at h3
  refine ⟨k, _, rfl, by omega, h2, h3, fun i hi => ?_⟩
  have hz : (ks ++ zs)[ks.length + i]? = zs[i]? := by
    rw [List.getElem?_append_right (by omega)]
    congr 1
    omega
  have hi' : i < zs.length := by omega
  have ht : zs[i]? = some zs[i] := List.getElem?_eq_getElem hi'
  have h5 := h4 i hi
  rw [hz, ht] at h5
  rcases h5 with a | ⟨a, y, b, c⟩
  · exact ⟨_, _, a, ht, .inl rfl⟩
  · cases b
    by_cases e : zs[i] ^^^ 255 = zs[i]
    · exact ⟨_, _, c, ht, .inl e⟩
    · exact ⟨_, _, c, ht, .inr ⟨a, rfl, e⟩⟩
end
set_option maxHeartbeats 8000000 in
theorem diskKeeps_walk (rs : List As.T) (ao : Option Addr) (n cap : Nat) (ks : List UInt8) (ko : Option Addr) (kn kcap : Nat) (zs : List UInt8) (zo : Option Addr) (zn zcap : Nat) (is : List Int) (io : Option Addr) (inn icap : Nat) (w : World) (hA : Asks w ao n cap rs) (hK : By.Ls w ko kn kcap ks) (hkn : kn ≤ 140737488351232) (hZ : By.Ls w zo zn zcap zs) (hzn : zn ≤ 140737488351232) (hI : Ints w io inn icap is) :
    Calls Try.prog 4 #[.slice ao n cap, .slice ko kn kcap, .slice zo zn zcap, .slice io inn icap] w fun e w' => e = .returned (.bool true) ∧ Below w.heap.size w w' := by
  have HA := Lib.hid hA
  have HK := Lib.hid hK
  have HZ := Lib.hid hZ
  have HI := Lib.hid hI
  have HN := Lib.hid hA.ls.len
  have hcap := hA.ls.reach
  have hfit := hA.ls.fits
  have hkf := hK.fits
  have hkr := hK.reach
  have hzf := hZ.fits
  have hzr := hZ.reach
  have hif := hI.fits
  have hir := hI.reach
  have HKn := Lib.hid hK.len
  have HZn := Lib.hid hZ.len
  clear hA hK hZ hI
  by_cases b1 : (300 : Int) < (kn : Int)
  · go_enter Try.func4, Try.ntmps4
    go_wp2_with (first | (go_at_call 6; refine (s_new w).mono ?_; rintro e W1 ⟨p, rfl, h1⟩; have HB1 := Lib.hid h1.bel; clear h1) | (go_at_call 10; refine (diskRuns_walk _).mono ?_; rintro e W9 ⟨rfl, b9⟩; have HB9 := Lib.hid (bchain HB1.out b9); clear b9))
    go_ret
    exact ⟨rfl, HB9.out⟩
  by_cases b2 : (300 : Int) < (zn : Int)
  · go_enter Try.func4, Try.ntmps4
    go_wp2_with (first | (go_at_call 6; refine (s_new w).mono ?_; rintro e W1 ⟨p, rfl, h1⟩; have HB1 := Lib.hid h1.bel; clear h1) | (go_at_call 10; refine (diskRuns_walk _).mono ?_; rintro e W9 ⟨rfl, b9⟩; have HB9 := Lib.hid (bchain HB1.out b9); clear b9))
    go_ret
    exact ⟨rfl, HB9.out⟩
  by_cases b3 : (30 : Int) < (inn : Int)
  · go_enter Try.func4, Try.ntmps4
    go_wp2_with (first | (go_at_call 6; refine (s_new w).mono ?_; rintro e W1 ⟨p, rfl, h1⟩; have HB1 := Lib.hid h1.bel; clear h1) | (go_at_call 10; refine (diskRuns_walk _).mono ?_; rintro e W9 ⟨rfl, b9⟩; have HB9 := Lib.hid (bchain HB1.out b9); clear b9))
    go_ret
    exact ⟨rfl, HB9.out⟩
  obtain ⟨hk1, hk2, hk3⟩ := keep_first (ks := ks) (by have := HKn.out; omega)
  have HK1 := Lib.hid hk1
  have HK2 := Lib.hid hk2
  have HK3 := Lib.hid hk3
  clear hk1 hk2 hk3
  go_enter Try.func4, Try.ntmps4
  go_wp2_with (first | (go_at_call 6; refine (s_new w).mono ?_; rintro e W1 ⟨p, rfl, h1⟩; have CA := Lib.hid (s_app_old h1 no (by decide) HK.out (by decide)); rw [HK2.out] at CA; clear h1) | (go_at_call 11; refine CA.out.mono ?_; rintro e W2 ⟨rfl, h2, u2⟩; have CS := Lib.hid (s_sync h2 no); rw [HK3.out] at CS; clear h2 u2 CA) | (go_at_call 12; refine CS.out.mono ?_; rintro e W3 ⟨rfl, h3, u3⟩; have H3 : Hid (KI w p ks 0 W3) := Lib.hid ⟨_, _, h3, HK1.out⟩; clear h3 u3 CS))
  clear HK1 HK2 HK3
  go_loopw [10, 11] (fun i _ wr => ∃ j : Nat, j ≤ 30 ∧ i = .int .i64 j ∧ Hid (KI w p ks j wr)) (fun i _ _ => 31 - (intOf i).toNat)
  case atStart => exact ⟨0, by omega, rfl, H3⟩
  case round =>
    clear H3
    rename World => wz
    obtain ⟨j, hj, rfl, H⟩ := hrel
    by_cases hlt : j < n ∧ j < 30
    · obtain ⟨hj1, hj2⟩ := hlt
      obtain ⟨b, off, rfl⟩ := HA.out.ls.at (by omega)
      have hjl : j < rs.length := HN.out ▸ hj1
      obtain ⟨P, d, hS, hF⟩ := H.out
      have hrow := (HA.out.ls.row j hjl).below hS.bel
      have HSh := Lib.hid (HA.out.ls.short _ (List.getElem_mem hjl))
      have HSub := Lib.hid (HA.out.sub _ (List.getElem_mem hjl))
      obtain ⟨z, hz⟩ : ∃ z, rs[j] = z := ⟨_, rfl⟩
      rw [hz] at hrow HSh HSub
      clear hz
      obtain ⟨c0, c1, c2, c3, c4, c5⟩ := hrow
      obtain ⟨W, hW, hbW, hC⟩ := As.boxed1 wz z
      have HS := Lib.hid (hS.tight.later hbW)
      have HF := Lib.hid hF
      unfold As.C at hC
      obtain ⟨a0, a1, a2, a3, a4, a5⟩ := hC
      have HM := Lib.hid (H.out.more.below hbW)
      clear hS hF hbW H
      obtain ⟨xs, hx, hxn⟩ := HSub.out.1
      have hxc := hx.reach
      have hxf := hx.fits
      have HX := Lib.hid hx
      clear hx
      cases q1 : (z.name.toList == [111, 119, 110])
      · cases q2 : (z.to.toList == [111, 119, 110])
        · by_cases hbig : (300 : Int) < (z.data.n : Int)
          · clear HS HF
            go_wp2_with fail
            go_roundw
            case rel => exact ⟨j + 1, by omega, by go_num, HM⟩
            case measure => simp [intOf]; omega
          · have HN1 := Lib.hid (is_no q1)
            have HN2 := Lib.hid (is_no q2)
            have HXl : Hid (xs.length ≤ 300) := Lib.hid (by have := HX.out.len; omega)
            have HFw : Hid (d.fs.length < 1000) := Lib.hid (by have := HF.out.len; omega)
            by_cases e1 : z.kind = 1
            · have k1 : (z.kind == 1) = true := beq_iff_eq.2 e1
              clear e1
              have C := Lib.hid (s_app_old HS.out z.name HSh.out.2.2.1 HX.out HFw.out)
              go_wp2_with (go_at_call 11; refine C.out.mono ?_; rintro e W4 ⟨rfl, h4, u4⟩; have H4 : Hid (KI w p ks (j + 1) W4) := Lib.hid ⟨_, _, h4, HF.out.app HS.out.ok HN1.out HXl.out⟩; clear h4 u4 C)
              go_roundw
              case rel => exact ⟨j + 1, by omega, by go_num, H4⟩
              case measure => simp [intOf]; omega
            have k1 : (z.kind == 1) = false := beq_eq_false_iff_ne.2 e1
            by_cases e2 : z.kind = 2
            · have k2 : (z.kind == 2) = true := beq_iff_eq.2 e2
              clear e1 e2
              have C := Lib.hid (s_sync HS.out z.name)
              go_wp2_with (go_at_call 12; refine C.out.mono ?_; rintro e W4 ⟨rfl, h4, u4⟩; have H4 : Hid (KI w p ks (j + 1) W4) := Lib.hid ⟨_, _, h4, HF.out.sync HS.out.ok HN1.out⟩; clear h4 u4 C)
              go_roundw
              case rel => exact ⟨j + 1, by omega, by go_num, H4⟩
              case measure => simp [intOf]; omega
            have k2 : (z.kind == 2) = false := beq_eq_false_iff_ne.2 e2
            by_cases e4 : z.kind = 4
            · have k4 : (z.kind == 4) = true := beq_iff_eq.2 e4
              clear e1 e2 e4
              have C := Lib.hid (s_rename HS.out z.name z.to (by have := HSh.out.2.2.2; omega))
              go_wp2_with (go_at_call 13; refine C.out.mono ?_; rintro e W4 ⟨rfl, h4, u4⟩; have H4 : Hid (KI w p ks (j + 1) W4) := Lib.hid ⟨_, _, h4, HF.out.ren HS.out.ok HN1.out HN2.out⟩; clear h4 u4 C)
              go_roundw
              case rel => exact ⟨j + 1, by omega, by go_num, H4⟩
              case measure => simp [intOf]; omega
            have k4 : (z.kind == 4) = false := beq_eq_false_iff_ne.2 e4
            by_cases e5 : z.kind = 5
            · have k5 : (z.kind == 5) = true := beq_iff_eq.2 e5
              clear e1 e2 e4 e5
              have C := Lib.hid (s_remove HS.out z.name)
              go_wp2_with (go_at_call 14; refine C.out.mono ?_; rintro e W4 ⟨rfl, h4, u4⟩; have H4 : Hid (KI w p ks (j + 1) W4) := Lib.hid ⟨_, _, h4, HF.out.rem HS.out.ok HN1.out⟩; clear h4 u4 C)
              go_roundw
              case rel => exact ⟨j + 1, by omega, by go_num, H4⟩
              case measure => simp [intOf]; omega
            · have k5 : (z.kind == 5) = false := beq_eq_false_iff_ne.2 e5
              clear e1 e2 e4 e5 HS HF
              go_wp2_with fail
              go_roundw
              case rel => exact ⟨j + 1, by omega, by go_num, HM⟩
              case measure => simp [intOf]; omega
        · clear HS HF
          go_wp2_with fail
          go_roundw
          case rel => exact ⟨j + 1, by omega, by go_num, HM⟩
          case measure => simp [intOf]; omega
      · clear HS HF
        go_wp2_with fail
        go_roundw
        case rel => exact ⟨j + 1, by omega, by go_num, HM⟩
        case measure => simp [intOf]; omega
    · have hstop : ¬ (j : Int) < (n : Int) ∨ ((j : Int) < (n : Int) ∧ ¬ (j : Int) < 30) := by omega
      have C0 := Lib.hid (k_tail H.out hj HZ.out (by omega))
      clear H hlt
      rcases hstop with hs | ⟨hs1, hs2⟩
      · clear HA
        go_wp2_with (first | (go_at_call 11; refine C0.out.mono ?_; rintro e W4 ⟨rfl, h4⟩; have C1 := Lib.hid (k_crash h4 HI.out); clear h4 C0) | (go_at_call 15; refine C1.out.mono ?_; rintro e W5 ⟨rfl, q, h5⟩; (obtain ⟨k, cs, htr, hT⟩ := told_of ks zs q); rw [htr] at h5; have C2 := Lib.hid (k_read h5); have HT := Lib.hid hT; (obtain ⟨cn, hcn⟩ : ∃ cn, cs.length = cn := ⟨_, rfl⟩); have HCn := Lib.hid hcn; simp only [hcn] at C2; (have hc1 : kn ≤ cn := by have := hT.len; have := HKn.out; omega); (have hc2 : cn ≤ kn + zn := by have := hT.len; have := hT.le; have := HKn.out; have := HZn.out; omega); (have hc3 : (cn : Int) - (kn : Int) = (k : Int) := by have := hT.len; have := HKn.out; omega); (have hkz : k ≤ zn := by have := hT.le; have := HZn.out; omega); clear htr hT h5 hcn C1) | (go_at_call 16; refine C2.out.mono ?_; rintro e W6 ⟨g, rfl, hb6, h6, bw6, b6⟩; have HB6 := Lib.hid hb6; have H6 := Lib.hid h6; have HW6 := Lib.hid bw6; (have hL6 : By.Ls W6 (some ⟨g, 0, none⟩) cn cn cs := by rw [← HCn.out]; exact hb6.ls (by have := HCn.out; omega)); (obtain ⟨hsl, hL7⟩ := hL6.to kn hc1); (have C3 := Lib.hid (By.same_any ks ks _ _ _ _ _ _ W6 (by have e := HT.out.front; rw [← HKn.out] at e; rw [e] at hL7; exact hL7) (HK.out.below bw6))); rw [decide_eq_true rfl] at C3; clear hb6 h6 bw6 b6 hL6 hL7 C2) | (go_at_call 17; refine C3.out.mono ?_; rintro e W7 ⟨rfl, b7⟩; have HB7 := Lib.hid (HB6.out.below b7); have H7 := Lib.hid (H6.out.below b7); have HW7 := Lib.hid (bchain HW6.out b7); clear b7 C3 HB6 H6 HW6 hsl))
        go_loopw [15, 16] (fun i _ wr => ∃ q : Nat, q ≤ k ∧ i = .int .i64 q ∧ wr = W7) (fun i _ _ => k - (intOf i).toNat)
        case atStart => exact ⟨0, by omega, rfl, rfl⟩
        case round =>
          obtain ⟨q, hq, rfl, rfl⟩ := hrel
          rename World => wy
          by_cases hqk : q < k
          · obtain ⟨x, t, e1, e2, hxt⟩ := HT.out.rest q hqk
            obtain ⟨zb, zoff, rfl⟩ := HZ.out.at (by omega)
            have r1 : wy.cell? ⟨g, kn + q, none⟩ = some (.int .u8 (x.toNat : Int)) := by
              have e3 := HKn.out
              rw [← e3] at e1
              obtain ⟨hl, e4⟩ := List.getElem?_eq_some_iff.1 e1
              have := HB7.out.row (kn + q) hl
              rw [e4] at this
              exact this
            have r2 : wy.cell? ⟨zb, zoff + q, none⟩ = some (.int .u8 (t.toNat : Int)) := by
              obtain ⟨hl, e4⟩ := List.getElem?_eq_some_iff.1 e2
              have := (HZ.out.below HW7.out).row q hl
              rw [e4] at this
              exact this
            have hin : kn + q < cn := by omega
            clear e1 e2
            rcases hxt with rfl | ⟨hq1, hx, hne⟩
            · generalize (x.toNat : Int) = vx at r1 r2
              go_wp2_with fail
              go_roundw
              case rel => exact ⟨q + 1, by omega, by go_num, by first | rfl | trivial⟩
              case measure => simp [intOf]; omega
            · have hxor : bits BinOp.xor IntKind.u8 (t.toNat : Int) 255 = (x.toNat : Int) := by rw [hx]; exact xor_byte t
              have hneq : ((x.toNat : Int) == (t.toNat : Int)) = false := by
                rw [beq_eq_false_iff_ne]
                exact fun e => hne (UInt8.toNat_inj.1 (by omega))
              have hneq2 : ((x.toNat : Int) != (t.toNat : Int)) = true := by
                rw [bne, hneq]
                rfl
              have hneq3 : ¬ (x.toNat : Int) = (t.toNat : Int) := beq_eq_false_iff_ne.1 hneq
              have hlast : ¬ (q : Int) < (k : Int) - 1 := by omega
              clear hx hne hq1
              generalize (x.toNat : Int) = vx at r1 hxor hneq hneq2 hneq3
              generalize (t.toNat : Int) = vt at r2 hxor hneq hneq2 hneq3
              go_wp2_with fail
              go_roundw
              case rel => exact ⟨q + 1, by omega, by go_num, by first | rfl | trivial⟩
              case measure => simp [intOf]; omega
          · obtain rfl : q = k := by omega
            have C4 := Lib.hid (k_crash_g H7.out HB7.out HI.out)
            clear H7 HB7
            go_wp2_with (first | (go_at_call 15; refine C4.out.mono ?_; rintro e W8 ⟨rfl, q8, h8, hb8⟩; rw [← HCn.out, tear_again] at h8; have C5 := Lib.hid (k_read h8); simp only [HCn.out] at C5; have HB8 := Lib.hid hb8; clear h8 hb8 C4) | (go_at_call 16; refine C5.out.mono ?_; rintro e W9 ⟨g9, rfl, hb9, h9, bw9, b9⟩; have HW9 := Lib.hid bw9; (have C6 := Lib.hid (By.same_any cs cs (some ⟨g, 0, none⟩) (some ⟨g9, 0, none⟩) cn cn cn cn W9 (by rw [← HCn.out]; exact (HB8.out.below b9).ls (by have := HCn.out; omega)) (by rw [← HCn.out]; exact hb9.ls (by have := HCn.out; omega)))); rw [decide_eq_true rfl] at C6; clear hb9 h9 bw9 b9 C5 HB8) | (go_at_call 17; refine C6.out.mono ?_; rintro e Wa ⟨rfl, ba⟩; have HWa := Lib.hid (bchain HW9.out ba); clear ba C6 HW9) | (go_at_call 10; refine (diskRuns_walk _).mono ?_; rintro e Wb ⟨rfl, bb⟩; have HBb := Lib.hid (bchain HWa.out bb); clear bb))
            go_ret
            exact ⟨rfl, HBb.out⟩
      · clear HA
        go_wp2_with (first | (go_at_call 11; refine C0.out.mono ?_; rintro e W4 ⟨rfl, h4⟩; have C1 := Lib.hid (k_crash h4 HI.out); clear h4 C0) | (go_at_call 15; refine C1.out.mono ?_; rintro e W5 ⟨rfl, q, h5⟩; (obtain ⟨k, cs, htr, hT⟩ := told_of ks zs q); rw [htr] at h5; have C2 := Lib.hid (k_read h5); have HT := Lib.hid hT; (obtain ⟨cn, hcn⟩ : ∃ cn, cs.length = cn := ⟨_, rfl⟩); have HCn := Lib.hid hcn; simp only [hcn] at C2; (have hc1 : kn ≤ cn := by have := hT.len; have := HKn.out; omega); (have hc2 : cn ≤ kn + zn := by have := hT.len; have := hT.le; have := HKn.out; have := HZn.out; omega); (have hc3 : (cn : Int) - (kn : Int) = (k : Int) := by have := hT.len; have := HKn.out; omega); (have hkz : k ≤ zn := by have := hT.le; have := HZn.out; omega); clear htr hT h5 hcn C1) | (go_at_call 16; refine C2.out.mono ?_; rintro e W6 ⟨g, rfl, hb6, h6, bw6, b6⟩; have HB6 := Lib.hid hb6; have H6 := Lib.hid h6; have HW6 := Lib.hid bw6; (have hL6 : By.Ls W6 (some ⟨g, 0, none⟩) cn cn cs := by rw [← HCn.out]; exact hb6.ls (by have := HCn.out; omega)); (obtain ⟨hsl, hL7⟩ := hL6.to kn hc1); (have C3 := Lib.hid (By.same_any ks ks _ _ _ _ _ _ W6 (by have e := HT.out.front; rw [← HKn.out] at e; rw [e] at hL7; exact hL7) (HK.out.below bw6))); rw [decide_eq_true rfl] at C3; clear hb6 h6 bw6 b6 hL6 hL7 C2) | (go_at_call 17; refine C3.out.mono ?_; rintro e W7 ⟨rfl, b7⟩; have HB7 := Lib.hid (HB6.out.below b7); have H7 := Lib.hid (H6.out.below b7); have HW7 := Lib.hid (bchain HW6.out b7); clear b7 C3 HB6 H6 HW6 hsl))
        go_loopw [15, 16] (fun i _ wr => ∃ q : Nat, q ≤ k ∧ i = .int .i64 q ∧ wr = W7) (fun i _ _ => k - (intOf i).toNat)
        case atStart => exact ⟨0, by omega, rfl, rfl⟩
        case round =>
          obtain ⟨q, hq, rfl, rfl⟩ := hrel
          rename World => wy
          by_cases hqk : q < k
          · obtain ⟨x, t, e1, e2, hxt⟩ := HT.out.rest q hqk
            obtain ⟨zb, zoff, rfl⟩ := HZ.out.at (by omega)
            have r1 : wy.cell? ⟨g, kn + q, none⟩ = some (.int .u8 (x.toNat : Int)) := by
              have e3 := HKn.out
              rw [← e3] at e1
              obtain ⟨hl, e4⟩ := List.getElem?_eq_some_iff.1 e1
              have := HB7.out.row (kn + q) hl
              rw [e4] at this
              exact this
            have r2 : wy.cell? ⟨zb, zoff + q, none⟩ = some (.int .u8 (t.toNat : Int)) := by
              obtain ⟨hl, e4⟩ := List.getElem?_eq_some_iff.1 e2
              have := (HZ.out.below HW7.out).row q hl
              rw [e4] at this
              exact this
            have hin : kn + q < cn := by omega
            clear e1 e2
            rcases hxt with rfl | ⟨hq1, hx, hne⟩
            · generalize (x.toNat : Int) = vx at r1 r2
              go_wp2_with fail
              go_roundw
              case rel => exact ⟨q + 1, by omega, by go_num, by first | rfl | trivial⟩
              case measure => simp [intOf]; omega
            · have hxor : bits BinOp.xor IntKind.u8 (t.toNat : Int) 255 = (x.toNat : Int) := by rw [hx]; exact xor_byte t
              have hneq : ((x.toNat : Int) == (t.toNat : Int)) = false := by
                rw [beq_eq_false_iff_ne]
                exact fun e => hne (UInt8.toNat_inj.1 (by omega))
              have hneq2 : ((x.toNat : Int) != (t.toNat : Int)) = true := by
                rw [bne, hneq]
                rfl
              have hneq3 : ¬ (x.toNat : Int) = (t.toNat : Int) := beq_eq_false_iff_ne.1 hneq
              have hlast : ¬ (q : Int) < (k : Int) - 1 := by omega
              clear hx hne hq1
              generalize (x.toNat : Int) = vx at r1 hxor hneq hneq2 hneq3
              generalize (t.toNat : Int) = vt at r2 hxor hneq hneq2 hneq3
              go_wp2_with fail
              go_roundw
              case rel => exact ⟨q + 1, by omega, by go_num, by first | rfl | trivial⟩
              case measure => simp [intOf]; omega
          · obtain rfl : q = k := by omega
            have C4 := Lib.hid (k_crash_g H7.out HB7.out HI.out)
            clear H7 HB7
            go_wp2_with (first | (go_at_call 15; refine C4.out.mono ?_; rintro e W8 ⟨rfl, q8, h8, hb8⟩; rw [← HCn.out, tear_again] at h8; have C5 := Lib.hid (k_read h8); simp only [HCn.out] at C5; have HB8 := Lib.hid hb8; clear h8 hb8 C4) | (go_at_call 16; refine C5.out.mono ?_; rintro e W9 ⟨g9, rfl, hb9, h9, bw9, b9⟩; have HW9 := Lib.hid bw9; (have C6 := Lib.hid (By.same_any cs cs (some ⟨g, 0, none⟩) (some ⟨g9, 0, none⟩) cn cn cn cn W9 (by rw [← HCn.out]; exact (HB8.out.below b9).ls (by have := HCn.out; omega)) (by rw [← HCn.out]; exact hb9.ls (by have := HCn.out; omega)))); rw [decide_eq_true rfl] at C6; clear hb9 h9 bw9 b9 C5 HB8) | (go_at_call 17; refine C6.out.mono ?_; rintro e Wa ⟨rfl, ba⟩; have HWa := Lib.hid (bchain HW9.out ba); clear ba C6 HW9) | (go_at_call 10; refine (diskRuns_walk _).mono ?_; rintro e Wb ⟨rfl, bb⟩; have HBb := Lib.hid (bchain HWa.out bb); clear bb))
            go_ret
            exact ⟨rfl, HBb.out⟩
end Go.Proofs.Ytegniklofhopeaa
