/- THE DOCUMENT's OWN ANSWER: impostref3's ReadDate, of any text. -/
import Derived.Test.YtekegbnmmjhfiaaRefRd
namespace Go.Proofs.Ytekegbnmmjhfiaa
open Go.RowKit

set_option maxHeartbeats 1000000 in
theorem refRead_dash (s : ByteArray) (a b c d e f g h i j : UInt8) (w0 w : World) (hw : Below w0.heap.size w0 w) (hx : txt s = [a, b, c, d, e, f, g, h, i, j]) (hn : e ≠ 45 ∨ h ≠ 45) :
    Calls Try.prog 20 #[.string s] w fun en w' => en = dayE (0, 0, 0, 4) ∧ Below w0.heap.size w0 w' := by
  have HW := Lib.hid hw
  clear hw
  have hs : s.size = 10 := by rw [← txt_len, hx]; rfl
  have q4 : s[4] = e := by rw [at_txt]; simp [hx]
  have q7 : s[7] = h := by rw [at_txt]; simp [hx]
  clear hx
  by_cases h4 : e = 45
  · have h7 : h ≠ 45 := by
      rcases hn with k | k
      · exact absurd h4 k
      · exact k
    have h7' := ne_45 h7
    subst h4
    clear hn h7
    go_enter Try.func20, Try.ntmps20
    go_wp2
    exact bodyPost_ret (v := .tuple #[dayV 0 0 0, .int .i64 4]) (by simp [results, dayV, Try.results20, go_sem]) rfl ⟨rfl, below_box HW.out _⟩
  · have h4' := ne_45 h4
    clear hn h4
    go_enter Try.func20, Try.ntmps20
    go_wp2
    exact bodyPost_ret (v := .tuple #[dayV 0 0 0, .int .i64 4]) (by simp [results, dayV, Try.results20, go_sem]) rfl ⟨rfl, below_box HW.out _⟩
theorem refRead_any (s : ByteArray) (w0 w : World) (hw : Below w0.heap.size w0 w) (hs : s.size ≤ 140737488355328) :
    Calls Try.prog 20 #[.string s] w fun en w' => en = dayE (Dt.told (txt s)) ∧ Below w0.heap.size w0 w' := by
  by_cases hl : s.size = 10
  · obtain ⟨a, b, c, d, e, f, g, h, i, j, hx⟩ := Dt.ten (l := txt s) (by rw [txt_len]; exact hl)
    by_cases hd : e = 45 ∧ h = 45
    · obtain ⟨rfl, rfl⟩ := hd
      rw [hx]
      exact refRead_ten s a b c d f g i j w0 w hw hx
    · have hn : e ≠ 45 ∨ h ≠ 45 := by
        by_cases he : e = 45
        · exact .inr fun hh => hd ⟨he, hh⟩
        · exact .inl he
      rw [hx, told_dash hn]
      exact refRead_dash s a b c d e f g h i j w0 w hw hx hn
  · rw [told_len (by rw [txt_len]; exact hl)]
    exact refRead_len s w0 w hw hs hl
end Go.Proofs.Ytekegbnmmjhfiaa
