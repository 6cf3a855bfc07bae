/- CONTRACTS OF THE DOCUMENT's OWN ANSWER TO CHAPTER 1: Seal, Open. -/
import Derived.Test.YtehdhhmaijogbaaRefSum
import Derived.Test.YtehdhhmaijogbaaApp
import Derived.Test.YtehdhhmaijogbaaSeal
import Derived.Deep.RegionHeld3
namespace Go.Proofs.Ytehdhhmaijogbaa
open Go.RowKit

set_option maxHeartbeats 1000000 in
theorem refSeal_any (bs : List UInt8) (ao : Option Addr) (n cap : Nat) (w : World) (hn : n = bs.length) (hl : n ≤ 140737488351232) (hnil : ao = none → cap = 0) (hs : Seg w ao bs) :
    Calls Try.prog 19 #[.slice ao n cap] w fun e w' => ∃ g cp spare, e = .returned (.slice (some ⟨g, 0, none⟩) (n + 4) cp) ∧ w.heap.size ≤ g ∧ Row w' g ((Crc.sealed bs).map bv ++ spare) ∧ Below w.heap.size w w' := by
  have HN : Hid (n = bs.length) := hn
  have HS : Hid (Seg w ao bs) := hs
  have HL : Hid (ao = none → cap = 0) := hnil
  clear hn hs hnil
  have hc := Crc.on_lt 0 bs (by omega)
  have HC : Hid (Crc.sealed bs = bs ++ Crc.four (Crc.on 0 bs)) := rfl
  go_enter Try.func19, Try.ntmps19
  go_wp2_with fail
  refine (refOn_any 0 bs _ _ _ _ (by omega) HN.out (by omega) HS.out).mono ?_
  rintro e u1 ⟨rfl, rfl⟩
  generalize Crc.on 0 bs = c at *
  go_wp2_with (at_builtin; go_must (refine wpList_append_bytes _ rfl (.tmp 6) (.tmp 7) rfl u1.heap.size 0 0 [] [] rfl (row_new u1 []) rfl rfl (by omega) _ _ _ bs rfl HN.out HL.out (HS.out.below ((Below.refl _ _).alloc (Nat.le_refl _) _)) (by omega) ?_))
  intro g cp spare w2 r2 hg hcp hcpm hgrow
  have HR2 : Hid (Row w2 g (bs.map bv ++ spare)) := by show Row _ _ _; simpa using r2
  have HB2 : Hid (Below u1.heap.size u1 w2) := ((Below.refl _ _).alloc (Nat.le_refl _) _).grown hgrow (by simp) (by rintro k ⟨⟩; omega)
  have hg' : u1.heap.size ≤ g := by omega
  have HCP : Hid (cp = n + spare.length) := by show _ = _; omega
  clear r2 hg hcp hgrow
  go_wp2_with (at_builtin; go_must (refine wpList_append_bytes _ rfl (.tmp 8) (.tmp 20) rfl g n cp (bs.map bv) spare (by rfl) (HR2.out.alloc _) (by rw [List.length_map]; exact HN.out) HCP.out (by omega) _ 4 4 (Crc.four c) (by rfl) rfl (fun h => by cases h) ?s (by omega) ?_))
  case s =>
    have e : #[Value.int .u8 ((c : Int) % 256), Value.int .u8 ((c : Int) / 256 % 256), Value.int .u8 ((c : Int) / 65536 % 256), Value.int .u8 ((c : Int) / 16777216)] = ((Crc.four c).map bv).toArray := by
      have e3 : (c : Int) / 16777216 = (c : Int) / 16777216 % 256 := by omega
      rw [e3]
      simp [Crc.four, bv, UInt8.toNat_ofNat']
    rw [e]
    exact seg_lit w2 (Crc.four c) (0, 0)
  intro g2 cp2 spare2 w3 r3 hg2 hcp2 hcpm2 hgrow2
  have hz2 := HB2.out.size
  have HR3 : Hid (Row w3 g2 ((Crc.sealed bs).map bv ++ spare2)) := by rw [HC.out, List.map_append, List.append_assoc]; exact r3
  have HB3 : Hid (Below u1.heap.size u1 w3) := (HB2.out.alloc hz2 _).grown hgrow2 (by simp; omega) (by rintro k ⟨⟩; omega)
  have hg3 : u1.heap.size ≤ g2 := by omega
  clear r3 hg2 hcp2 hgrow2
  go_wp2
  go_ret
  exact ⟨g2, cp2, spare2, rfl, hg3, HR3.out, HB3.out⟩

theorem or_four (x0 x1 x2 x3 : UInt8) : bits .or .u32 (bits .or .u32 (bits .or .u32 ((x0.toNat : Int) % 4294967296) ((x1.toNat : Int) % 4294967296 * 256 % 4294967296)) ((x2.toNat : Int) % 4294967296 * 65536 % 4294967296)) ((x3.toNat : Int) % 4294967296 * 16777216 % 4294967296) =
    ((Crc.le [x0, x1, x2, x3] : Nat) : Int) := by
  have h0 := x0.toNat_lt
  have h1 := x1.toNat_lt
  have h2 := x2.toNat_lt
  have h3 := x3.toNat_lt
  rw [show (x0.toNat : Int) % 4294967296 = ((x0.toNat : Nat) : Int) from by omega, show (x1.toNat : Int) % 4294967296 = (x1.toNat : Int) from by omega, show (x2.toNat : Int) % 4294967296 = (x2.toNat : Int) from by omega, show (x3.toNat : Int) % 4294967296 = (x3.toNat : Int) from by omega]
  have e1 := or_shift x0.toNat x1.toNat 1 (by omega) (by omega) h1
  have e2 := or_shift (x0.toNat + 2 ^ (8 * 1) * x1.toNat) x2.toNat 2 (by omega) (by omega) h2
  have e3 := or_shift (x0.toNat + 2 ^ (8 * 1) * x1.toNat + 2 ^ (8 * 2) * x2.toNat) x3.toNat 3 (by omega) (by omega) h3
  rw [show (2 : Int) ^ (8 * 1) = 256 from rfl] at e1
  rw [show (2 : Int) ^ (8 * 2) = 65536 from rfl] at e2
  rw [show (2 : Int) ^ (8 * 3) = 16777216 from rfl] at e3
  rw [e1, e2, e3]
  simp only [Crc.le]
  omega
theorem good_split (bs : List UInt8) (n : Nat) (hn : n + 4 = bs.length) : Crc.good bs = (Crc.on 0 (bs.take n) == Crc.le (bs.drop n)) := by
  unfold Crc.good
  rw [← hn, Nat.add_sub_cancel]
theorem refOpen_short (ao : Option Addr) (n cap : Nat) (w : World) (h : n < 4) :
    Calls Try.prog 18 #[.slice ao n cap] w fun e w' => e = .returned (.tuple #[.slice none 0 0, .bool false]) ∧ Below w.heap.size w w' := by
  have hn : (n : Int) - 4 < 0 := by omega
  go_enter Try.func18, Try.ntmps18
  go_wp2
  go_ret2
  exact ⟨rfl, Below.refl _ _⟩
set_option maxHeartbeats 1000000 in
theorem refOpen_core (bs : List UInt8) (b off n cap : Nat) (w : World) (hn : n + 4 = bs.length) (hl : n ≤ 140737488355328) (hcap : n + 4 ≤ cap) (_hcap2 : cap ≤ 9223372036854775807) (hs : Seg w (some ⟨b, off, none⟩) bs) :
    Calls Try.prog 18 #[.slice (some ⟨b, off, none⟩) (n + 4) cap] w fun e w' => Below w.heap.size w w' ∧
      ((Crc.good bs = true ∧ ∃ g cp spare, e = .returned (.tuple #[.slice (some ⟨g, 0, none⟩) n cp, .bool true]) ∧ w.heap.size ≤ g ∧ Row w' g ((bs.take n).map bv ++ spare)) ∨
       (Crc.good bs = false ∧ e = .returned (.tuple #[.slice none 0 0, .bool false]))) := by
  have HN : Hid (n + 4 = bs.length) := hn
  have HS : Hid (Seg w (some ⟨b, off, none⟩) bs) := hs
  have a1 : (0 : Int) ≤ (n : Int) := by omega
  have a2 : (n : Int) < (n : Int) + 4 := by omega
  have a3 : (n : Int) + 1 < (n : Int) + 4 := by omega
  have a4 : (n : Int) + 2 < (n : Int) + 4 := by omega
  have a5 : (n : Int) + 3 < (n : Int) + 4 := by omega
  obtain ⟨x0, x1, x2, x3, hx⟩ : ∃ x0 x1 x2 x3, bs.drop n = [x0, x1, x2, x3] := by
    have h4 : (bs.drop n).length = 4 := by simp; omega
    match bs.drop n, h4 with
    | [x0, x1, x2, x3], _ => exact ⟨x0, x1, x2, x3, rfl⟩
  have hd := hs.drop n
  rw [hx] at hd
  rcases hd with h | ⟨b', off', e, hc⟩
  · cases h
  · cases e
    have c0 := hc 0 (by simp)
    have c1 := hc 1 (by simp)
    have c2 := hc 2 (by simp)
    have c3 := hc 3 (by simp)
    simp only [List.getElem_cons_zero, List.getElem_cons_succ, Nat.add_zero] at c0 c1 c2 c3
    rw [Nat.add_assoc] at c1 c2 c3
    have HX : Hid (bs.drop n = [x0, x1, x2, x3]) := hx
    clear hn hs hc hx
    go_enter Try.func18, Try.ntmps18
    go_wp2
    go_quiet (fail)
    rw [or_four x0 x1 x2 x3, ← HX.out]
    clear c0 c1 c2 c3
    go_wp2_with fail
    refine (refOn_any 0 (bs.take n) _ _ _ _ (by omega) (by have := HN.out; simp; omega) (by omega) ((HS.out.take n).below (below_drewN (Below.refl _ _) _))).mono ?_
    rintro e u1 ⟨rfl, rfl⟩
    have HG : Hid (Crc.good bs = (Crc.on 0 (bs.take n) == Crc.le (bs.drop n))) := good_split bs n HN.out
    have HB : Hid (Below w.heap.size w (w.drewN nq)) := below_drewN (Below.refl _ _) _
    by_cases hg : Crc.on 0 (bs.take n) = Crc.le (bs.drop n)
    · have hgd : (((Crc.on 0 (bs.take n) : Nat) : Int) != ((Crc.le (bs.drop n) : Nat) : Int)) = false := by rw [hg]; simp
      have HT : Hid (Crc.good bs = true) := by show _ = _; rw [HG.out, hg]; simp
      clear hg
      go_wp2_with (at_builtin; go_must (refine wpList_append_bytes _ rfl (.tmp 46) (.tmp 49) rfl w.heap.size 0 0 [] [] (by rfl) (row_new _ []) rfl rfl (by omega) _ _ _ (bs.take n) (by rfl) ?c1 (fun h => by cases h) ?c2 (by omega) ?_))
      case c1 => have := HN.out; simp; omega
      case c2 => exact ((HS.out.take n).below HB.out).below ((Below.refl _ _).alloc (Nat.le_refl _) _)
      intro g cp spare w2 r2 hg hcp hcpm hgrow
      have HR2 : Hid (Row w2 g ((bs.take n).map bv ++ spare)) := by rw [List.map_take]; exact r2
      have HB2 : Hid (Below w.heap.size w w2) := (HB.out.alloc (by simp) _).grown hgrow (by simp) (by rintro k ⟨⟩; omega)
      have hg' : w.heap.size ≤ g := by omega
      clear r2 hg hcp hgrow
      go_wp2
      go_ret2
      exact ⟨HB2.out, .inl ⟨HT.out, g, cp, spare, rfl, hg', HR2.out⟩⟩
    · have hgd : (((Crc.on 0 (bs.take n) : Nat) : Int) != ((Crc.le (bs.drop n) : Nat) : Int)) = true := by rw [bne_iff_ne]; omega
      have HT : Hid (Crc.good bs = false) := by show _ = _; rw [HG.out]; simpa using hg
      clear hg
      go_wp2
      go_ret2
      exact ⟨HB.out, .inr ⟨HT.out, rfl⟩⟩
theorem refOpen_any (bs : List UInt8) (ao : Option Addr) (n cap : Nat) (w : World) (hn : n = bs.length) (hl : n ≤ 140737488355332) (hcap : n ≤ cap) (hcap2 : cap ≤ 9223372036854775807) (hs : Seg w ao bs) :
    Calls Try.prog 18 #[.slice ao n cap] w fun e w' => Below w.heap.size w w' ∧
      (((decide (4 ≤ n) && Crc.good bs) = true ∧ ∃ g cp spare, e = .returned (.tuple #[.slice (some ⟨g, 0, none⟩) (n - 4) cp, .bool true]) ∧ w.heap.size ≤ g ∧ Row w' g ((bs.take (n - 4)).map bv ++ spare)) ∨
       ((decide (4 ≤ n) && Crc.good bs) = false ∧ e = .returned (.tuple #[.slice none 0 0, .bool false]))) := by
  by_cases h4 : 4 ≤ n
  · obtain ⟨m, rfl⟩ : ∃ m, n = m + 4 := ⟨n - 4, by omega⟩
    rcases hs with rfl | ⟨b, off, rfl, hc⟩
    · simp at hn
    · have hs : Seg w (some ⟨b, off, none⟩) bs := .inr ⟨b, off, rfl, hc⟩
      refine (refOpen_core bs b off m cap w hn (by omega) hcap hcap2 hs).mono fun e w' ⟨hb, h⟩ => ⟨hb, ?_⟩
      rcases h with ⟨hg, g, cp, spare, he, hge, hr⟩ | ⟨hg, he⟩
      · exact .inl ⟨by simp [hg], g, cp, spare, he, hge, hr⟩
      · exact .inr ⟨by simp [hg], he⟩
  · refine (refOpen_short ao n cap w (by omega)).mono fun e w' ⟨he, hb⟩ => ⟨hb, .inr ⟨by simp [h4], he⟩⟩
end Go.Proofs.Ytehdhhmaijogbaa
