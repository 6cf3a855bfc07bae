/- CONTRACTS OF PACKAGE disk: find (slices.BinarySearchFunc over its files' rows). -/
import Derived.Test.YtegniklofhopeaaDkA
import Derived.Test.YtegniklofhopeaaShelf
import Derived.Deep.RegionHeld3
set_option maxRecDepth 100000
set_option linter.unusedVariables false
namespace Go.Proofs.Ytegniklofhopeaa
open Go.RowKit
open Mem Dk

def Dk.cmp (a b : ByteArray) : Int := Lib.compareBytes a.data.toList b.data.toList
theorem Dk.cmp_less : ∀ a b : List UInt8, decide (Lib.compareBytes a b < 0) = Op.bytesLess a b
  | [], [] => rfl
  | [], _ :: _ => rfl
  | _ :: _, [] => rfl
  | a :: x, b :: y => by
    have ih := Dk.cmp_less x y
    unfold Lib.compareBytes Op.bytesLess
    by_cases h : a < b
    · rw [if_pos h, decide_eq_true h]
      rfl
    · rw [if_neg h, decide_eq_false h, Bool.false_or]
      by_cases k : b < a
      · rw [if_pos k]
        have hne : (a == b) = false := beq_eq_false_iff_ne.2 fun e => by subst e; exact UInt8.lt_irrefl a k
        rw [hne]
        rfl
      · rw [if_neg k, ih]
        have he : a = b := UInt8.le_antisymm (UInt8.not_lt.1 k) (UInt8.not_lt.1 h)
        rw [beq_iff_eq.2 he, Bool.true_and]
theorem Dk.cmp_zero : ∀ a b : List UInt8, Lib.compareBytes a b = 0 ↔ a = b
  | [], [] => ⟨fun _ => rfl, fun _ => rfl⟩
  | [], _ :: _ => ⟨fun h => (by cases h), fun h => (by cases h)⟩
  | _ :: _, [] => ⟨fun h => (by cases h), fun h => (by cases h)⟩
  | a :: x, b :: y => by
    have ih := Dk.cmp_zero x y
    unfold Lib.compareBytes
    by_cases h : a < b
    · rw [if_pos h]
      exact ⟨fun z => (by cases z), fun z => (by cases z; exact absurd h (UInt8.lt_irrefl a))⟩
    · rw [if_neg h]
      by_cases k : b < a
      · rw [if_pos k]
        exact ⟨fun z => (by cases z), fun z => (by cases z; exact absurd k (UInt8.lt_irrefl a))⟩
      · rw [if_neg k, ih]
        have he : a = b := UInt8.le_antisymm (UInt8.not_lt.1 k) (UInt8.not_lt.1 h)
        rw [he]
        exact ⟨fun z => (by rw [z]), fun z => (by cases z; rfl)⟩
theorem Dk.cmp_lt (a b : ByteArray) : Dk.cmp a b < 0 ↔ lt a b = true := by
  have h := Dk.cmp_less a.data.toList b.data.toList
  unfold Dk.cmp lt
  rw [← decide_eq_true_iff (p := Lib.compareBytes a.data.toList b.data.toList < 0), h]
  have e : ∀ s : ByteArray, s.toList = s.data.toList := fun s => tl s
  rw [e, e]
theorem Dk.cmp_eq (a b : ByteArray) : Dk.cmp a b = 0 ↔ a = b := by
  unfold Dk.cmp
  rw [Dk.cmp_zero]
  constructor
  · intro h
    cases a
    cases b
    simp only [ByteArray.mk.injEq]
    exact Array.toList_inj.1 h
  · intro h
    rw [h]
theorem dk_order (r : Fl.T) (s : ByteArray) (w0 w : World) (hw : Below w0.heap.size w0 w) : Calls Try.prog 48 #[.agg #[.string r.name, .slice r.bytes.ao r.bytes.n r.bytes.cap, .int .i64 r.kept], .string s] w fun e w' => e = .returned (.int .i64 (Dk.cmp r.name s)) ∧ Below w0.heap.size w0 w' := by
  have hcon : ∀ W', Calls Try.prog 49 #[.string r.name, .string s] W' fun e w' => e = .returned (.int .i64 (Dk.cmp r.name s)) ∧ w' = W' := fun W' => Try.strings_Compare r.name s W'
  have HW := Lib.hid hw
  generalize Dk.cmp r.name s = q at hcon ⊢
  clear hw
  go_enter Try.func48, Try.ntmps48
  go_wp2_with (go_at_call 49; refine (hcon _).mono ?_; rintro e w' ⟨rfl, rfl⟩)
  go_ret
  exact ⟨rfl, below_box HW.out _⟩
set_option maxHeartbeats 4000000 in
theorem dk_search (rs : List Fl.T) (fs : List F) (s : ByteArray) (ao : Option Addr) (n cap : Nat) (w : World) (hL : Fl.Ls w ao n cap rs) (hl : rs.length = fs.length) (hn : ∀ i (h : i < rs.length), rs[i].name = (fs[i]'(hl ▸ h)).name) (hs : Sorted fs) (hm : n ≤ 1000) :
    Calls Try.prog 47 #[.slice ao n cap, .string s, .func (.func 48) #[] #[]] w fun e w' => e = .returned (.tuple #[.int .i64 (spot s fs : Nat), .bool (has s fs)]) ∧ Below w.heap.size w w' := by
  have HL := Lib.hid hL
  have HN := Lib.hid hL.len
  have HNm := Lib.hid hn
  have HSo := Lib.hid hs
  have hcap := hL.reach
  have hfit := hL.fits
  have HSp : Hid (spot s fs ≤ n) := Lib.hid (by have h1 := spot_le s fs; have h2 := hL.len; omega)
  obtain ⟨sp, hsp⟩ : ∃ sp, spot s fs = sp := ⟨_, rfl⟩
  have HSq := Lib.hid hsp
  rw [hsp] at HSp
  clear hL hn hs
  have HIf : Hid (∀ i (hi : i < rs.length), Dk.cmp rs[i].name s < 0 ↔ i < sp) := Lib.hid fun i hi => by
    rw [Dk.cmp_lt, HNm.out i hi, spot_iff s fs HSo.out i (hl ▸ hi), HSq.out]
  have hsn := HSp.out
  clear hsp
  go_enter Try.func47, Try.ntmps47
  go_wp2_with fail
  go_loopw [9, 10, 11] (fun a b _ wr => ∃ i j : Nat, i ≤ sp ∧ sp ≤ j ∧ j ≤ n ∧ a = .int .i64 i ∧ b = .int .i64 j ∧ Hid (Below w.heap.size w wr)) (fun a b _ _ => (intOf b).toNat - (intOf a).toNat)
  case atStart => exact ⟨0, n, by omega, by omega, by omega, rfl, rfl, Lib.hid (Below.refl _ _)⟩
  case round =>
    rename World => wz
    obtain ⟨i, j, h1, h2, h3, rfl, rfl, HB⟩ := hrel
    by_cases hij : i < j
    · obtain ⟨h, hh⟩ : ∃ h, (i + j) / 2 = h := ⟨_, rfl⟩
      have hh1 : i ≤ h := by omega
      have hh2 : h < j := by omega
      have hsh : ((i : Int) + (j : Int)) / 2 = (h : Int) := by omega
      obtain ⟨b, off, rfl⟩ := HL.out.at (by omega)
      have hhr : h < rs.length := by have := HN.out; omega
      have hrow := (HL.out.row h hhr).below HB.out
      have hif := HIf.out h hhr
      obtain ⟨r, hr⟩ : ∃ r, rs[h] = r := ⟨_, rfl⟩
      rw [hr] at hrow hif
      have HIh := Lib.hid hif
      obtain ⟨g0, g1, g2⟩ := hrow
      clear hr hif hh
      by_cases hc : h < sp
      · have hcm : Dk.cmp r.name s < 0 := HIh.out.2 hc
        have HC := Lib.hid hc
        have HCo : Hid (∀ u, Below wz.heap.size wz u → Calls Try.prog 48 #[.agg #[.string r.name, .slice r.bytes.ao r.bytes.n r.bytes.cap, .int .i64 r.kept], .string s] u fun e w' => e = .returned (.int .i64 (Dk.cmp r.name s)) ∧ Below wz.heap.size wz w') := Lib.hid fun u hu => dk_order r s wz u hu
        generalize Dk.cmp r.name s = q at HCo hcm
        clear hc HIh
        go_wp2_with (go_at_call 48; refine (HCo.out _ (Below.refl _ _)).mono ?_; rintro e w1 ⟨rfl, b1⟩; have HB1 := Lib.hid (bchain HB.out b1); clear b1)
        go_roundw
        case rel => exact ⟨h + 1, j, by have := HC.out; omega, by omega, by omega, by go_num, rfl, HB1⟩
        case measure => simp [intOf]; omega
      · have hcm : ¬ Dk.cmp r.name s < 0 := fun z => hc (HIh.out.1 z)
        have HC := Lib.hid hc
        have HCo : Hid (∀ u, Below wz.heap.size wz u → Calls Try.prog 48 #[.agg #[.string r.name, .slice r.bytes.ao r.bytes.n r.bytes.cap, .int .i64 r.kept], .string s] u fun e w' => e = .returned (.int .i64 (Dk.cmp r.name s)) ∧ Below wz.heap.size wz w') := Lib.hid fun u hu => dk_order r s wz u hu
        generalize Dk.cmp r.name s = q at HCo hcm
        clear hc HIh
        go_wp2_with (go_at_call 48; refine (HCo.out _ (Below.refl _ _)).mono ?_; rintro e w1 ⟨rfl, b1⟩; have HB1 := Lib.hid (bchain HB.out b1); clear b1)
        go_roundw
        case rel => exact ⟨i, h, by omega, by have := HC.out; omega, by omega, rfl, rfl, HB1⟩
        case measure => simp [intOf]; omega
    · obtain rfl : i = sp := by omega
      obtain rfl : j = i := by omega
      by_cases hlt : j < n
      · obtain ⟨b, off, rfl⟩ := HL.out.at (by omega)
        have hjr : j < rs.length := by have := HN.out; omega
        have hrow := (HL.out.row j hjr).below HB.out
        have HHas : Hid (has s fs = decide (Dk.cmp rs[j].name s = 0)) := Lib.hid (by
          rw [Bool.eq_iff_iff, has_spot HSo.out, decide_eq_true_iff, Dk.cmp_eq, HNm.out j hjr]
          simp only [HSq.out]
          exact ⟨fun z => z.2, fun z => ⟨hl ▸ hjr, z⟩⟩)
        obtain ⟨r, hr⟩ : ∃ r, rs[j] = r := ⟨_, rfl⟩
        rw [hr] at hrow HHas
        obtain ⟨g0, g1, g2⟩ := hrow
        have HCo : Hid (∀ u, Below wz.heap.size wz u → Calls Try.prog 48 #[.agg #[.string r.name, .slice r.bytes.ao r.bytes.n r.bytes.cap, .int .i64 r.kept], .string s] u fun e w' => e = .returned (.int .i64 (Dk.cmp r.name s)) ∧ Below wz.heap.size wz w') := Lib.hid fun u hu => dk_order r s wz u hu
        generalize Dk.cmp r.name s = q at HCo HHas
        clear hr
        by_cases hq : q = 0
        · have hqe : (q == 0) = true := beq_iff_eq.2 hq
          have HH : Hid (has s fs = true) := Lib.hid (by rw [HHas.out]; exact decide_eq_true hq)
          clear hq HHas
          go_wp2_with (go_at_call 48; refine (HCo.out _ (Below.refl _ _)).mono ?_; rintro e w1 ⟨rfl, b1⟩; have HB1 := Lib.hid (bchain HB.out b1); clear b1)
          go_ret2
          exact ⟨by rw [HSq.out, HH.out]; rfl, HB1.out⟩
        · have hqe : (q == 0) = false := beq_eq_false_iff_ne.2 hq
          have HH : Hid (has s fs = false) := Lib.hid (by rw [HHas.out]; exact decide_eq_false hq)
          clear hq HHas
          go_wp2_with (go_at_call 48; refine (HCo.out _ (Below.refl _ _)).mono ?_; rintro e w1 ⟨rfl, b1⟩; have HB1 := Lib.hid (bchain HB.out b1); clear b1)
          go_ret2
          exact ⟨by rw [HSq.out, HH.out]; rfl, HB1.out⟩
      · have HH : Hid (has s fs = false) := Lib.hid (by
          rw [Bool.eq_false_iff]
          intro z
          have h4 := spot_lt HSo.out z
          have h5 := HSq.out
          have h6 := HN.out
          omega)
        go_wp2_with fail
        go_ret2
        exact ⟨by rw [HSq.out, HH.out]; rfl, HB.out⟩
theorem dk_find {P : Nat → Prop} {w : World} {p : Nat} {d : D} {v : Sl} {L : Int} {rs : List Fl.T} (h : At P w p d v L rs) (s : ByteArray) :
    Calls Try.prog 37 #[.pointer (some ⟨p, 0, none⟩), .string s] w fun e w' => e = .returned (.tuple #[.int .i64 (spot s d.fs : Nat), .bool (has s d.fs)]) ∧ Below w.heap.size w w' := by
  have HA := Lib.hid h
  obtain ⟨c0, c1, c2, c3⟩ := h.box.cells
  have HC := Lib.hid (dk_search rs d.fs s v.ao v.n v.cap w h.ls h.each.len h.each.name h.ok.sorted (by rw [h.n.1]; exact h.few))
  generalize spot s d.fs = sp at HC ⊢
  generalize has s d.fs = hb at HC ⊢
  clear h
  go_enter Try.func37, Try.ntmps37
  go_wp2_with fail
  refine HC.out.mono ?_
  rintro e w1 ⟨rfl, b1⟩
  have HB := Lib.hid b1
  clear b1 c0 c1 c2 c3
  go_wp2_with fail
  go_ret2
  exact ⟨rfl, HB.out⟩
end Go.Proofs.Ytegniklofhopeaa
