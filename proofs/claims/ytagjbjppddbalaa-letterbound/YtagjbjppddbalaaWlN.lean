/- PLAIN LEAN: numbers and texts of any length as bytes, read on (chapter 2); no Go walked here. -/
import Derived.Test.YtagjbjppddbalaaPkV
namespace Go.Proofs.Ytagjbjppddbalaa.Wl
open Pk

/-- a number's bytes, a text's -/
def nm (n : Int) : List UInt8 := vb (zz n)
def tx (b : ByteArray) : List UInt8 := nm (b.size : Int) ++ txt b
theorem nm_pos (n : Int) : 1 ≤ (nm n).length := vbF_pos
theorem nm_len (n : Int) : (nm n).length ≤ 10 := vbF_len 10 _
/-- a reader in order, with these bytes ahead of it -/
def Rem (bs : List UInt8) (s : St) (r : List UInt8) : Prop := s.err = 0 ∧ bs.drop s.at' = r
def s0 : St := ⟨0, 0⟩
theorem fwd_num {bs : List UInt8} {s : St} {n : Int} {r : List UInt8} (h : Rem bs s (nm n ++ r)) (hn : Fit n) : (rNum bs s).1 = n ∧ Rem bs (rNum bs s).2 r := by
  have hk : num (bs.drop s.at') = .inr (zz n, wd (zz n)) := by rw [h.2]; exact num_vb (zz_lt hn) r
  rw [rNum_ok h.1 hk]
  refine ⟨uz_zz n, rfl, ?_⟩
  show bs.drop (s.at' + wd (zz n)) = r
  rw [← List.drop_drop, h.2]
  exact List.drop_left' rfl
theorem fwd_count {bs : List UInt8} {s : St} {k : Nat} {most : Int} {r : List UInt8} (h : Rem bs s (nm (k : Int) ++ r)) (hk : (k : Int) ≤ most) (hm : most ≤ 100000) (hr : k ≤ r.length) : (rCount bs most s).1 = k ∧ Rem bs (rCount bs most s).2 r := by
  have hf : Fit (k : Int) := ⟨by omega, by omega⟩
  obtain ⟨h1, h2⟩ := fwd_num h hf
  have hw : rWithin bs 0 most s = rNum bs s := rWithin_ok h2.1 (by rw [h1]; omega)
  have hl := congrArg List.length h.2
  rw [List.length_append, List.length_drop] at hl
  have hp := nm_pos (k : Int)
  have hn : num (bs.drop s.at') = .inr (zz (k : Int), wd (zz (k : Int))) := by rw [h.2]; exact num_vb (zz_lt hf) r
  have ha : (rNum bs s).2.at' = s.at' + (nm (k : Int)).length := by rw [rNum_ok h.1 hn]; rfl
  have hc : rCount bs most s = rNum bs s := by
    rw [rCount_ok (by rw [hw, h1, ha]; omega), hw]
  rw [hc]
  exact ⟨h1, h2⟩
theorem str_txt (t : ByteArray) : str (txt t) = t := rfl
theorem fwd_text {bs : List UInt8} {s : St} {t : ByteArray} {most : Int} {r : List UInt8} (h : Rem bs s (tx t ++ r)) (ht : (t.size : Int) ≤ most) (hm : most ≤ 100000) : (rText bs most s).1 = t ∧ Rem bs (rText bs most s).2 r := by
  unfold tx at h
  rw [List.append_assoc] at h
  obtain ⟨h1, h2⟩ := fwd_count h ht hm (by rw [List.length_append, txt_len]; omega)
  have ha : (bs.take ((rCount bs most s).2.at' + t.size)).drop (rCount bs most s).2.at' = txt t := by
    rw [List.drop_take, h2.2, show (rCount bs most s).2.at' + t.size - (rCount bs most s).2.at' = t.size by omega]
    exact List.take_left' (txt_len t)
  unfold rText
  rw [h1, Int.toNat_natCast, ha]
  refine ⟨str_txt t, h2.1, ?_⟩
  show bs.drop ((rCount bs most s).2.at' + t.size) = r
  rw [← List.drop_drop, h2.2]
  exact List.drop_left' (txt_len t)
theorem rem_end {bs : List UInt8} {s : St} (h : Rem bs s []) : (rEnd bs s).1 = 0 := by
  rw [rEnd_else fun k => ?_]
  · exact h.1
  · have := congrArg List.length h.2
    rw [List.length_drop, List.length_nil] at this
    omega
theorem rem_start (bs : List UInt8) : Rem bs s0 bs := ⟨rfl, rfl⟩
end Go.Proofs.Ytagjbjppddbalaa.Wl
