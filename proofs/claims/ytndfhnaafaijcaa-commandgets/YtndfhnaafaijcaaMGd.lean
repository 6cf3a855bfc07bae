/- MERGED: CmP, CmQ, CmH, CmAsk, CdK, CdO, CdM. (By mg.py.) -/
import Derived.Test.YtndfhnaafaijcaaMGb
import Derived.Test.YtndfhnaafaijcaaMGc
import Derived.Test.YtndfhnaafaijcaaMGa
/- PLAIN LEAN: a command's bytes, written and read. -/
namespace Go.Proofs.Ytndfhnaafaijcaa.Cm
open Pk

/-- a number's bytes, a text's, a day's, a line's, lines' -/
def nm (n : Int) : List UInt8 := vb (zz n)
def tx (b : ByteArray) : List UInt8 := nm (b.size : Int) ++ txt b
def dayB (y m d : Int) : List UInt8 := nm y ++ (nm m ++ nm d)
def lineB (x : Ln.T) : List UInt8 := tx x.text ++ (tx x.category ++ (nm x.count ++ nm x.price))
def linesB : List Ln.T → List UInt8
  | [] => []
  | x :: l => lineB x ++ linesB l
theorem linesB_app : ∀ a b : List Ln.T, linesB (a ++ b) = linesB a ++ linesB b
  | [], _ => rfl
  | x :: l, b => by rw [List.cons_append, linesB, linesB, linesB_app l b, List.append_assoc]
/-- what stands behind a command's kind -/
def S.fields (s : S) : List UInt8 :=
  if s.kind = 1 then tx s.series ++ nm s.limit
  else if s.kind = 2 then tx s.series
  else if s.kind = 3 then tx s.cat ++ (dayB s.fy s.fm s.fd ++ nm s.bp)
  else if s.kind = 4 then tx s.series ++ (dayB s.y s.m s.d ++ (nm (s.lines.length : Int) ++ linesB s.lines))
  else if s.kind = 5 then tx s.series ++ (dayB s.y s.m s.d ++ (tx s.ofs ++ nm s.ofn))
  else if s.kind = 6 then []
  else if s.kind = 7 then nm s.session
  else if s.kind = 8 then tx s.series
  else []
def S.bytes (s : S) : List UInt8 := nm s.kind ++ s.fields
def longT (b : ByteArray) : Bool := decide (64 < b.size)
def longL (l : List Ln.T) : Bool := decide (12 < l.length) || l.any fun x => longT x.text || longT x.category
/-- a text of it is too long, or there are too many lines -/
def S.long (s : S) : Bool :=
  if s.kind = 1 then longT s.series
  else if s.kind = 2 then longT s.series
  else if s.kind = 3 then longT s.cat
  else if s.kind = 4 then longT s.series || longL s.lines
  else if s.kind = 5 then longT s.series || longT s.ofs
  else if s.kind = 6 then false
  else if s.kind = 7 then false
  else if s.kind = 8 then longT s.series
  else false
/-- what Put answers: why not, and the bytes -/
def S.putE (s : S) : Int := if ¬ (1 ≤ s.kind ∧ s.kind ≤ 8) then 17 else if s.long = true ∨ 1024 < s.bytes.length then 2 else 0
def S.putB (s : S) : List UInt8 := if s.putE = 0 then s.bytes else []
structure S.Fit' (s : S) : Prop where
  series : s.series.size ≤ 140737488355328
  cat : s.cat.size ≤ 140737488355328
  ofs : s.ofs.size ≤ 140737488355328
  limit : Fit s.limit
  fy : Fit s.fy
  fm : Fit s.fm
  fd : Fit s.fd
  bp : Fit s.bp
  y : Fit s.y
  m : Fit s.m
  d : Fit s.d
  ofn : Fit s.ofn
  session : Fit s.session
  lines : ∀ x ∈ s.lines, Ln.Short x
/-- a command of a kind, with the fields that it names alone -/
structure S.Good (s : S) : Prop where
  lo : 1 ≤ s.kind
  hi : s.kind ≤ 8
  bare : s.bare = s
  fit : s.Fit'
/-- reading -/
def rDay (bs : List UInt8) (s : St) : (Int × Int × Int) × St :=
  (((rNum bs s).1, (rNum bs (rNum bs s).2).1, (rNum bs (rNum bs (rNum bs s).2).2).1), (rNum bs (rNum bs (rNum bs s).2).2).2)
def rLine (bs : List UInt8) (s : St) : Ln.T × St :=
  (⟨(rText bs 64 s).1, (rText bs 64 (rText bs 64 s).2).1, (rNum bs (rText bs 64 (rText bs 64 s).2).2).1, (rNum bs (rNum bs (rText bs 64 (rText bs 64 s).2).2).2).1⟩, (rNum bs (rNum bs (rText bs 64 (rText bs 64 s).2).2).2).2)
def rLines (bs : List UInt8) : Nat → St → List Ln.T × St
  | 0, s => ([], s)
  | k + 1, s => ((rLine bs s).1 :: (rLines bs k (rLine bs s).2).1, (rLines bs k (rLine bs s).2).2)
def rOpen (bs : List UInt8) (s : St) : S × St := (⟨1, (rText bs 64 s).1, (rNum bs (rText bs 64 s).2).1, .empty, 0, 0, 0, 0, 0, 0, 0, [], .empty, 0, 0⟩, (rNum bs (rText bs 64 s).2).2)
def rShut (bs : List UInt8) (s : St) : S × St := (⟨2, (rText bs 64 s).1, 0, .empty, 0, 0, 0, 0, 0, 0, 0, [], .empty, 0, 0⟩, (rText bs 64 s).2)
def rLevy (bs : List UInt8) (s : St) : S × St :=
  (⟨3, .empty, 0, (rText bs 64 s).1, (rDay bs (rText bs 64 s).2).1.1, (rDay bs (rText bs 64 s).2).1.2.1, (rDay bs (rText bs 64 s).2).1.2.2, (rNum bs (rDay bs (rText bs 64 s).2).2).1, 0, 0, 0, [], .empty, 0, 0⟩, (rNum bs (rDay bs (rText bs 64 s).2).2).2)
def rPost (bs : List UInt8) (s : St) : S × St :=
  (⟨4, (rText bs 64 s).1, 0, .empty, 0, 0, 0, 0, (rDay bs (rText bs 64 s).2).1.1, (rDay bs (rText bs 64 s).2).1.2.1, (rDay bs (rText bs 64 s).2).1.2.2, (rLines bs (rCount bs 12 (rDay bs (rText bs 64 s).2).2).1.toNat (rCount bs 12 (rDay bs (rText bs 64 s).2).2).2).1, .empty, 0, 0⟩, (rLines bs (rCount bs 12 (rDay bs (rText bs 64 s).2).2).1.toNat (rCount bs 12 (rDay bs (rText bs 64 s).2).2).2).2)
def rCredit (bs : List UInt8) (s : St) : S × St :=
  (⟨5, (rText bs 64 s).1, 0, .empty, 0, 0, 0, 0, (rDay bs (rText bs 64 s).2).1.1, (rDay bs (rText bs 64 s).2).1.2.1, (rDay bs (rText bs 64 s).2).1.2.2, [], (rText bs 64 (rDay bs (rText bs 64 s).2).2).1, (rNum bs (rText bs 64 (rDay bs (rText bs 64 s).2).2).2).1, 0⟩, (rNum bs (rText bs 64 (rDay bs (rText bs 64 s).2).2).2).2)
def rJoin (s : St) : S × St := (⟨6, .empty, 0, .empty, 0, 0, 0, 0, 0, 0, 0, [], .empty, 0, 0⟩, s)
def rLeave (bs : List UInt8) (s : St) : S × St := (⟨7, .empty, 0, .empty, 0, 0, 0, 0, 0, 0, 0, [], .empty, 0, (rNum bs s).1⟩, (rNum bs s).2)
def rAsk (bs : List UInt8) (s : St) : S × St := (⟨8, (rText bs 64 s).1, 0, .empty, 0, 0, 0, 0, 0, 0, 0, [], .empty, 0, 0⟩, (rText bs 64 s).2)
def rRead (bs : List UInt8) (k : Int) (s : St) : S × St :=
  if k = 1 then rOpen bs s else if k = 2 then rShut bs s else if k = 3 then rLevy bs s else if k = 4 then rPost bs s else if k = 5 then rCredit bs s
  else if k = 6 then rJoin s else if k = 7 then rLeave bs s else if k = 8 then rAsk bs s else ({ S.zero with kind := k }, s)
def s0 : St := ⟨0, 0⟩
/-- what Get answers -/
def get (bs : List UInt8) : S × Int :=
  if 1024 < bs.length then (S.zero, 2)
  else if (rNum bs s0).2.err ≠ 0 then (S.zero, (rNum bs s0).2.err)
  else if ¬ (1 ≤ (rNum bs s0).1 ∧ (rNum bs s0).1 ≤ 8) then (S.zero, 17)
  else if (rEnd bs (rRead bs (rNum bs s0).1 (rNum bs s0).2).2).1 ≠ 0 then (S.zero, (rEnd bs (rRead bs (rNum bs s0).1 (rNum bs s0).2).2).1)
  else ((rRead bs (rNum bs s0).1 (rNum bs s0).2).1, 0)

/-- a reader in order, with these bytes ahead of it -/
def Rem (bs : List UInt8) (s : St) (r : List UInt8) : Prop := s.err = 0 ∧ bs.drop s.at' = r
theorem nm_pos (n : Int) : 1 ≤ (nm n).length := vbF_pos
theorem fwd_num {bs : List UInt8} {s : St} {n : Int} {r : List UInt8} (h : Rem bs s (nm n ++ r)) (hn : Fit n) : (rNum bs s).1 = n ∧ Rem bs (rNum bs s).2 r := by
  have hk : num (bs.drop s.at') = .inr (zz n, wd (zz n)) := by rw [h.2]; exact num_vb (zz_lt hn) r
  rw [rNum_ok h.1 hk]
  refine ⟨uz_zz n, rfl, ?_⟩
  show bs.drop (s.at' + wd (zz n)) = r
  rw [← List.drop_drop, h.2]
  exact List.drop_left' rfl
theorem bwd_num {bs : List UInt8} {s : St} {r : List UInt8} (h : Rem bs (rNum bs s).2 r) : Rem bs s (nm (rNum bs s).1 ++ r) := by
  by_cases he : s.err = 0
  · cases hn : num (bs.drop s.at') with
    | inl e =>
      rw [rNum_bad he hn] at h
      exfalso
      have h1 : e = 0 := h.1
      subst h1
      have hne : ∀ (l : List UInt8) (k u : Nat), rd k u l ≠ .inl 0 := by
        intro l
        induction l with
        | nil => intro k u h; rw [rd_nil] at h; cases h
        | cons x l ih =>
          intro k u h
          rw [rd] at h
          split at h
          · cases h
          · split at h
            · exact ih _ _ h
            · split at h
              · cases h
              · cases h
      exact hne _ _ _ hn
    | inr q =>
      obtain ⟨u, z⟩ := q
      rw [rNum_ok he hn] at h ⊢
      obtain ⟨h1, h2, h3, _⟩ := num_is hn
      refine ⟨he, ?_⟩
      show bs.drop s.at' = nm (uz u) ++ r
      unfold nm
      rw [zz_uz, h1, List.drop_drop, ← h.2]
  · rw [rNum_wrong he] at h
    exact absurd h.1 he
theorem fwd_count {bs : List UInt8} {s : St} {k : Nat} {most : Int} {r : List UInt8} (h : Rem bs s (nm (k : Int) ++ r)) (hk : (k : Int) ≤ most) (hm : most ≤ 1000) (hr : k ≤ r.length) : (rCount bs most s).1 = k ∧ Rem bs (rCount bs most s).2 r := by
  have hf : Fit (k : Int) := ⟨by omega, by omega⟩
  obtain ⟨h1, h2⟩ := fwd_num h hf
  have hw : rWithin bs 0 most s = rNum bs s := rWithin_ok h2.1 (by rw [h1]; omega)
  have hl := congrArg List.length h.2
  rw [List.length_append, List.length_drop] at hl
  have hp := nm_pos (k : Int)
  have hl2 := congrArg List.length h2.2
  rw [List.length_drop] at hl2
  have hn : num (bs.drop s.at') = .inr (zz (k : Int), wd (zz (k : Int))) := by rw [h.2]; exact num_vb (zz_lt hf) r
  have ha : (rNum bs s).2.at' = s.at' + (nm (k : Int)).length := by rw [rNum_ok h.1 hn]; rfl
  have hc : rCount bs most s = rNum bs s := by
    rw [rCount_ok (by rw [hw, h1, ha]; omega), hw]
  rw [hc]
  exact ⟨h1, h2⟩
theorem bwd_count {bs : List UInt8} {s : St} {most : Int} {r : List UInt8} (h : Rem bs (rCount bs most s).2 r) : Rem bs s (nm (rCount bs most s).1 ++ r) ∧ 0 ≤ (rCount bs most s).1 ∧ (rCount bs most s).1 ≤ most ∧ (rCount bs most s).1 ≤ (r.length : Int) := by
  by_cases hb : (bs.length : Int) - ((rWithin bs 0 most s).2.at' : Int) < (rWithin bs 0 most s).1
  · rw [rCount_short hb] at h
    cases h.1
  · rw [rCount_ok hb] at h ⊢
    by_cases he : (rNum bs s).2.err = 0
    · by_cases hlo : (rNum bs s).1 < 0 ∨ most < (rNum bs s).1
      · rw [rWithin_long he hlo] at h
        cases h.1
      · rw [rWithin_ok he hlo] at h hb ⊢
        have h2 := h.2
        have hl := congrArg List.length h2
        rw [List.length_drop] at hl
        exact ⟨bwd_num h, by omega, by omega, by omega⟩
    · rw [rWithin_wrong he] at h
      exact absurd h.1 he
theorem str_txt (t : ByteArray) : str (txt t) = t := rfl
theorem txt_str (l : List UInt8) : txt (str l) = l := rfl
theorem fwd_text {bs : List UInt8} {s : St} {t : ByteArray} {r : List UInt8} (h : Rem bs s (tx t ++ r)) (ht : t.size ≤ 64) : (rText bs 64 s).1 = t ∧ Rem bs (rText bs 64 s).2 r := by
  unfold tx at h
  rw [List.append_assoc] at h
  obtain ⟨h1, h2⟩ := fwd_count (most := 64) h (by omega) (by omega) (by rw [List.length_append, txt_len]; omega)
  have ha : (bs.take ((rCount bs 64 s).2.at' + t.size)).drop (rCount bs 64 s).2.at' = txt t := by
    rw [List.drop_take, h2.2, show (rCount bs 64 s).2.at' + t.size - (rCount bs 64 s).2.at' = t.size by omega]
    exact List.take_left' (txt_len t)
  unfold rText
  rw [h1, Int.toNat_natCast, ha]
  refine ⟨str_txt t, h2.1, ?_⟩
  show bs.drop ((rCount bs 64 s).2.at' + t.size) = r
  rw [← List.drop_drop, h2.2]
  exact List.drop_left' (txt_len t)
theorem bwd_text {bs : List UInt8} {s : St} {r : List UInt8} (h : Rem bs (rText bs 64 s).2 r) : Rem bs s (tx (rText bs 64 s).1 ++ r) ∧ (rText bs 64 s).1.size ≤ 64 := by
  have he : (rCount bs 64 s).2.err = 0 := h.1
  obtain ⟨h1, h2, h3, h4⟩ := bwd_count (bs := bs) (s := s) (most := 64) (r := bs.drop (rCount bs 64 s).2.at') ⟨he, rfl⟩
  obtain ⟨q, hq⟩ : ∃ q : Nat, (rCount bs 64 s).1 = q := ⟨(rCount bs 64 s).1.toNat, by omega⟩
  have hd : bs.drop ((rCount bs 64 s).2.at' + q) = r := by
    have := h.2
    unfold rText at this
    rw [hq, Int.toNat_natCast] at this
    exact this
  unfold rText
  rw [hq, Int.toNat_natCast]
  rw [hq] at h1 h3 h4
  have hs : (bs.take ((rCount bs 64 s).2.at' + q)).drop (rCount bs 64 s).2.at' = (bs.drop (rCount bs 64 s).2.at').take q := by
    rw [List.drop_take, show (rCount bs 64 s).2.at' + q - (rCount bs 64 s).2.at' = q by omega]
  rw [hs]
  have hsz : (str ((bs.drop (rCount bs 64 s).2.at').take q)).size = q := by
    rw [← txt_len, txt_str, List.length_take]
    omega
  show Rem bs s (tx (str ((bs.drop (rCount bs 64 s).2.at').take q)) ++ r) ∧ (str ((bs.drop (rCount bs 64 s).2.at').take q)).size ≤ 64
  refine ⟨?_, by omega⟩
  unfold tx
  rw [hsz, txt_str, List.append_assoc, ← hd, ← List.drop_drop, List.take_append_drop]
  exact h1
theorem fwd_day {bs : List UInt8} {s : St} {y m d : Int} {r : List UInt8} (h : Rem bs s (dayB y m d ++ r)) (hy : Fit y) (hm : Fit m) (hd : Fit d) : (rDay bs s).1 = (y, m, d) ∧ Rem bs (rDay bs s).2 r := by
  unfold dayB at h
  simp only [List.append_assoc] at h
  obtain ⟨a1, a2⟩ := fwd_num h hy
  obtain ⟨b1, b2⟩ := fwd_num a2 hm
  obtain ⟨c1, c2⟩ := fwd_num b2 hd
  unfold rDay
  rw [a1, b1, c1]
  exact ⟨rfl, c2⟩
theorem bwd_day {bs : List UInt8} {s : St} {r : List UInt8} (h : Rem bs (rDay bs s).2 r) : Rem bs s (dayB (rDay bs s).1.1 (rDay bs s).1.2.1 (rDay bs s).1.2.2 ++ r) := by
  have h3 := bwd_num h
  have h2 := bwd_num h3
  have h1 := bwd_num h2
  unfold dayB
  simp only [List.append_assoc]
  exact h1
theorem fwd_line {bs : List UInt8} {s : St} {x : Ln.T} {r : List UInt8} (h : Rem bs s (lineB x ++ r)) (h1 : x.text.size ≤ 64) (h2 : x.category.size ≤ 64) (h3 : Fit x.count) (h4 : Fit x.price) : (rLine bs s).1 = x ∧ Rem bs (rLine bs s).2 r := by
  unfold lineB at h
  simp only [List.append_assoc] at h
  obtain ⟨a1, a2⟩ := fwd_text h h1
  obtain ⟨b1, b2⟩ := fwd_text a2 h2
  obtain ⟨c1, c2⟩ := fwd_num b2 h3
  obtain ⟨d1, d2⟩ := fwd_num c2 h4
  unfold rLine
  rw [a1, b1, c1, d1]
  exact ⟨rfl, d2⟩
theorem bwd_line {bs : List UInt8} {s : St} {r : List UInt8} (h : Rem bs (rLine bs s).2 r) : Rem bs s (lineB (rLine bs s).1 ++ r) ∧ (rLine bs s).1.text.size ≤ 64 ∧ (rLine bs s).1.category.size ≤ 64 ∧ Fit (rLine bs s).1.count ∧ Fit (rLine bs s).1.price := by
  have h4 := bwd_num h
  have h3 := bwd_num h4
  obtain ⟨h2, k2⟩ := bwd_text h3
  obtain ⟨h1, k1⟩ := bwd_text h2
  unfold lineB
  simp only [List.append_assoc]
  exact ⟨h1, k1, k2, rNum_fit _ _, rNum_fit _ _⟩
theorem longT_no {b : ByteArray} (h : longT b = false) : b.size ≤ 64 := by
  unfold longT at h
  have := of_decide_eq_false h
  omega
theorem longT_of {b : ByteArray} (h : b.size ≤ 64) : longT b = false := decide_eq_false (by omega)
theorem fwd_lines {bs : List UInt8} : ∀ (l : List Ln.T) (s : St) (r : List UInt8), Rem bs s (linesB l ++ r) → (l.any fun x => longT x.text || longT x.category) = false → (∀ x ∈ l, Ln.Short x) → (rLines bs l.length s).1 = l ∧ Rem bs (rLines bs l.length s).2 r
  | [], _, _, h, _, _ => ⟨rfl, h⟩
  | x :: l, s, r, h, hl, hs => by
    rw [List.any_cons, Bool.or_eq_false_iff, Bool.or_eq_false_iff] at hl
    obtain ⟨⟨l1, l2⟩, l3⟩ := hl
    have hx := hs x (List.mem_cons_self)
    rw [linesB, List.append_assoc] at h
    obtain ⟨a1, a2⟩ := fwd_line h (longT_no l1) (longT_no l2) hx.2.2.1 hx.2.2.2
    obtain ⟨b1, b2⟩ := fwd_lines l _ r a2 l3 (fun y hy => hs y (List.mem_cons_of_mem _ hy))
    rw [List.length_cons, rLines, a1, b1]
    exact ⟨rfl, b2⟩
theorem rLines_len (bs : List UInt8) : ∀ (k : Nat) (s : St), (rLines bs k s).1.length = k
  | 0, _ => rfl
  | k + 1, s => by rw [rLines, List.length_cons, rLines_len bs k]
theorem bwd_lines {bs : List UInt8} : ∀ (k : Nat) (s : St) (r : List UInt8), Rem bs (rLines bs k s).2 r → Rem bs s (linesB (rLines bs k s).1 ++ r) ∧ ((rLines bs k s).1.any fun x => longT x.text || longT x.category) = false ∧ (∀ x ∈ (rLines bs k s).1, Ln.Short x)
  | 0, _, _, h => ⟨h, rfl, fun _ h => by cases h⟩
  | k + 1, s, r, h => by
    obtain ⟨h1, h2, h3⟩ := bwd_lines k _ r h
    obtain ⟨g1, g2, g3, g4, g5⟩ := bwd_line h1
    rw [rLines, linesB, List.append_assoc]
    refine ⟨g1, ?_, ?_⟩
    · rw [List.any_cons, h2, longT_of g2, longT_of g3]
      rfl
    · intro x hx
      rcases List.mem_cons.1 hx with rfl | hx
      · exact ⟨by omega, by omega, g4, g5⟩
      · exact h3 x hx
theorem lineB_pos (x : Ln.T) : 1 ≤ (lineB x).length := by
  unfold lineB tx
  have := nm_pos (x.text.size : Int)
  simp only [List.length_append]
  omega
theorem linesB_len : ∀ l : List Ln.T, l.length ≤ (linesB l).length
  | [] => Nat.le_refl _
  | x :: l => by
    have := linesB_len l
    have := lineB_pos x
    rw [linesB, List.length_append, List.length_cons]
    omega
end Go.Proofs.Ytndfhnaafaijcaa.Cm

/- PLAIN LEAN: a command comes back from its bytes, and bytes from their command. -/
namespace Go.Proofs.Ytndfhnaafaijcaa.Cm
open Pk

theorem kinds {k : Int} (h1 : 1 ≤ k) (h2 : k ≤ 8) : k = 1 ∨ k = 2 ∨ k = 3 ∨ k = 4 ∨ k = 5 ∨ k = 6 ∨ k = 7 ∨ k = 8 := by omega
theorem longL_of {l : List Ln.T} (h : l.length ≤ 12) (k : (l.any fun x => longT x.text || longT x.category) = false) : longL l = false := by
  unfold longL
  rw [k, decide_eq_false (by omega)]
  rfl
theorem fwd_read {bs : List UInt8} {st : St} {s : S} {r : List UInt8} (hg : s.Good) (hl : s.long = false) (h : Rem bs st (s.fields ++ r)) : (rRead bs s.kind st).1 = s ∧ Rem bs (rRead bs s.kind st).2 r := by
  obtain ⟨lo, hi, hb, hf⟩ := hg
  obtain ⟨kind, series, limit, cat, fy, fm, fd, bp, y, m, d, lines, ofs, ofn, session⟩ := s
  dsimp only at lo hi ⊢
  have f_limit := hf.limit
  have f_fy := hf.fy
  have f_fm := hf.fm
  have f_fd := hf.fd
  have f_bp := hf.bp
  have f_y := hf.y
  have f_m := hf.m
  have f_d := hf.d
  have f_ofn := hf.ofn
  have f_session := hf.session
  have f_lines := hf.lines
  dsimp only at f_limit f_fy f_fm f_fd f_bp f_y f_m f_d f_ofn f_session f_lines
  rcases kinds lo hi with rfl | rfl | rfl | rfl | rfl | rfl | rfl | rfl
  all_goals
    simp only [S.bare, S.long, S.fields, rRead, reduceIte, Int.reduceEq, S.mk.injEq, true_and, and_true] at hb hl h ⊢
  · rw [List.append_assoc] at h
    obtain ⟨a1, a2⟩ := fwd_text h (longT_no hl)
    obtain ⟨b1, b2⟩ := fwd_num a2 f_limit
    obtain ⟨rfl, rfl, rfl, rfl, rfl, rfl, rfl, rfl, rfl, rfl, rfl, rfl⟩ := hb
    unfold rOpen
    rw [a1, b1]
    exact ⟨rfl, b2⟩
  · obtain ⟨a1, a2⟩ := fwd_text h (longT_no hl)
    obtain ⟨rfl, rfl, rfl, rfl, rfl, rfl, rfl, rfl, rfl, rfl, rfl, rfl, rfl⟩ := hb
    unfold rShut
    rw [a1]
    exact ⟨rfl, a2⟩
  · simp only [List.append_assoc] at h
    obtain ⟨a1, a2⟩ := fwd_text h (longT_no hl)
    obtain ⟨b1, b2⟩ := fwd_day a2 f_fy f_fm f_fd
    obtain ⟨c1, c2⟩ := fwd_num b2 f_bp
    obtain ⟨rfl, rfl, rfl, rfl, rfl, rfl, rfl, rfl, rfl⟩ := hb
    unfold rLevy
    rw [a1, b1, c1]
    exact ⟨rfl, c2⟩
  · simp only [List.append_assoc] at h
    unfold longL at hl
    rw [Bool.or_eq_false_iff, Bool.or_eq_false_iff] at hl
    obtain ⟨l1, l2, l3⟩ := hl
    have l2' := of_decide_eq_false l2
    obtain ⟨a1, a2⟩ := fwd_text h (longT_no l1)
    obtain ⟨b1, b2⟩ := fwd_day a2 f_y f_m f_d
    obtain ⟨c1, c2⟩ := fwd_count (most := 12) b2 (by omega) (by omega) (by rw [List.length_append]; have := linesB_len lines; omega)
    obtain ⟨d1, d2⟩ := fwd_lines lines _ r c2 l3 f_lines
    obtain ⟨rfl, rfl, rfl, rfl, rfl, rfl, rfl, rfl, rfl, rfl⟩ := hb
    unfold rPost
    rw [a1, b1, c1, Int.toNat_natCast, d1]
    exact ⟨rfl, d2⟩
  · simp only [List.append_assoc] at h
    rw [Bool.or_eq_false_iff] at hl
    obtain ⟨l1, l2⟩ := hl
    obtain ⟨a1, a2⟩ := fwd_text h (longT_no l1)
    obtain ⟨b1, b2⟩ := fwd_day a2 f_y f_m f_d
    obtain ⟨c1, c2⟩ := fwd_text b2 (longT_no l2)
    obtain ⟨d1, d2⟩ := fwd_num c2 f_ofn
    obtain ⟨rfl, rfl, rfl, rfl, rfl, rfl, rfl, rfl⟩ := hb
    unfold rCredit
    rw [a1, b1, c1, d1]
    exact ⟨rfl, d2⟩
  · obtain ⟨rfl, rfl, rfl, rfl, rfl, rfl, rfl, rfl, rfl, rfl, rfl, rfl, rfl, rfl⟩ := hb
    exact ⟨rfl, h⟩
  · obtain ⟨a1, a2⟩ := fwd_num h f_session
    obtain ⟨rfl, rfl, rfl, rfl, rfl, rfl, rfl, rfl, rfl, rfl, rfl, rfl, rfl⟩ := hb
    unfold rLeave
    rw [a1]
    exact ⟨rfl, a2⟩
  · obtain ⟨a1, a2⟩ := fwd_text h (longT_no hl)
    obtain ⟨rfl, rfl, rfl, rfl, rfl, rfl, rfl, rfl, rfl, rfl, rfl, rfl, rfl⟩ := hb
    unfold rAsk
    rw [a1]
    exact ⟨rfl, a2⟩
theorem fit0 : Fit 0 := ⟨by omega, by omega⟩
theorem empty_size : ByteArray.empty.size ≤ 140737488355328 := by decide
theorem fitS {s : S} (h1 : s.series.size ≤ 140737488355328) (h2 : s.cat.size ≤ 140737488355328) (h3 : s.ofs.size ≤ 140737488355328) (a1 : Fit s.limit) (a2 : Fit s.fy) (a3 : Fit s.fm) (a4 : Fit s.fd) (a5 : Fit s.bp) (a6 : Fit s.y) (a7 : Fit s.m) (a8 : Fit s.d) (a9 : Fit s.ofn) (a10 : Fit s.session) (h : ∀ x ∈ s.lines, Ln.Short x) : s.Fit' :=
  ⟨h1, h2, h3, a1, a2, a3, a4, a5, a6, a7, a8, a9, a10, h⟩
theorem bwd_read {bs : List UInt8} {st : St} {k : Int} {r : List UInt8} (h1 : 1 ≤ k) (h2 : k ≤ 8) (h : Rem bs (rRead bs k st).2 r) : (rRead bs k st).1.kind = k ∧ (rRead bs k st).1.Good ∧ (rRead bs k st).1.long = false ∧ Rem bs st ((rRead bs k st).1.fields ++ r) := by
  have nol : ∀ x ∈ ([] : List Ln.T), Ln.Short x := fun _ h => by cases h
  rcases kinds h1 h2 with rfl | rfl | rfl | rfl | rfl | rfl | rfl | rfl
  all_goals simp only [rRead, reduceIte, Int.reduceEq] at h ⊢
  · have g2 := bwd_num h
    obtain ⟨g1, k1⟩ := bwd_text g2
    refine ⟨rfl, ⟨h1, h2, rfl, fitS (Nat.le_trans k1 (by omega)) empty_size empty_size (rNum_fit _ _) fit0 fit0 fit0 fit0 fit0 fit0 fit0 fit0 fit0 nol⟩, ?_, ?_⟩
    · simp only [S.long, rOpen, reduceIte]
      exact longT_of k1
    · simp only [S.fields, rOpen, reduceIte, List.append_assoc]
      exact g1
  · obtain ⟨g1, k1⟩ := bwd_text h
    refine ⟨rfl, ⟨h1, h2, rfl, fitS (Nat.le_trans k1 (by omega)) empty_size empty_size fit0 fit0 fit0 fit0 fit0 fit0 fit0 fit0 fit0 fit0 nol⟩, ?_, ?_⟩
    · simp only [S.long, rShut, reduceIte, Int.reduceEq]
      exact longT_of k1
    · simp only [S.fields, rShut, reduceIte, Int.reduceEq]
      exact g1
  · have g3 := bwd_num h
    have g2 := bwd_day g3
    obtain ⟨g1, k1⟩ := bwd_text g2
    refine ⟨rfl, ⟨h1, h2, rfl, fitS empty_size (Nat.le_trans k1 (by omega)) empty_size fit0 (rNum_fit _ _) (rNum_fit _ _) (rNum_fit _ _) (rNum_fit _ _) fit0 fit0 fit0 fit0 fit0 nol⟩, ?_, ?_⟩
    · simp only [S.long, rLevy, reduceIte, Int.reduceEq]
      exact longT_of k1
    · simp only [S.fields, rLevy, reduceIte, Int.reduceEq, List.append_assoc]
      exact g1
  · obtain ⟨g4, l4, f4⟩ := bwd_lines _ _ r h
    obtain ⟨g3, c1, c2, _⟩ := bwd_count g4
    have g2 := bwd_day g3
    obtain ⟨g1, k1⟩ := bwd_text g2
    have hlen := rLines_len bs (rCount bs 12 (rDay bs (rText bs 64 st).2).2).1.toNat (rCount bs 12 (rDay bs (rText bs 64 st).2).2).2
    refine ⟨rfl, ⟨h1, h2, rfl, fitS (Nat.le_trans k1 (by omega)) empty_size empty_size fit0 fit0 fit0 fit0 fit0 (rNum_fit _ _) (rNum_fit _ _) (rNum_fit _ _) fit0 fit0 f4⟩, ?_, ?_⟩
    · simp only [S.long, rPost, reduceIte, Int.reduceEq]
      rw [longT_of k1, longL_of (by rw [hlen]; omega) l4]
      rfl
    · simp only [S.fields, rPost, reduceIte, Int.reduceEq, List.append_assoc]
      rw [hlen, Int.toNat_of_nonneg c1]
      exact g1
  · have g4 := bwd_num h
    obtain ⟨g3, k3⟩ := bwd_text g4
    have g2 := bwd_day g3
    obtain ⟨g1, k1⟩ := bwd_text g2
    refine ⟨rfl, ⟨h1, h2, rfl, fitS (Nat.le_trans k1 (by omega)) empty_size (Nat.le_trans k3 (by omega)) fit0 fit0 fit0 fit0 fit0 (rNum_fit _ _) (rNum_fit _ _) (rNum_fit _ _) (rNum_fit _ _) fit0 nol⟩, ?_, ?_⟩
    · simp only [S.long, rCredit, reduceIte, Int.reduceEq]
      rw [longT_of k1, longT_of k3]
      rfl
    · simp only [S.fields, rCredit, reduceIte, Int.reduceEq, List.append_assoc]
      exact g1
  · refine ⟨rfl, ⟨h1, h2, rfl, fitS empty_size empty_size empty_size fit0 fit0 fit0 fit0 fit0 fit0 fit0 fit0 fit0 fit0 nol⟩, rfl, h⟩
  · have g1 := bwd_num h
    refine ⟨rfl, ⟨h1, h2, rfl, fitS empty_size empty_size empty_size fit0 fit0 fit0 fit0 fit0 fit0 fit0 fit0 fit0 (rNum_fit _ _) nol⟩, rfl, ?_⟩
    simp only [S.fields, rLeave, reduceIte, Int.reduceEq]
    exact g1
  · obtain ⟨g1, k1⟩ := bwd_text h
    refine ⟨rfl, ⟨h1, h2, rfl, fitS (Nat.le_trans k1 (by omega)) empty_size empty_size fit0 fit0 fit0 fit0 fit0 fit0 fit0 fit0 fit0 fit0 nol⟩, ?_, ?_⟩
    · simp only [S.long, rAsk, reduceIte, Int.reduceEq]
      exact longT_of k1
    · simp only [S.fields, rAsk, reduceIte, Int.reduceEq]
      exact g1
theorem fit_kind {k : Int} (h1 : 1 ≤ k) (h2 : k ≤ 8) : Fit k := ⟨by omega, by omega⟩
/-- bytes that a command's stand ahead of -/
theorem get_ahead {s : S} (hg : s.Good) (hl : s.long = false) (r : List UInt8) (hm : (s.bytes ++ r).length ≤ 1024) : get (s.bytes ++ r) = if r = [] then (s, 0) else (S.zero, 5) := by
  have h0 : Rem (s.bytes ++ r) s0 (nm s.kind ++ (s.fields ++ r)) := ⟨rfl, by show (s.bytes ++ r).drop 0 = _; rw [List.drop_zero]; unfold S.bytes; rw [List.append_assoc]⟩
  obtain ⟨a1, a2⟩ := fwd_num h0 (fit_kind hg.lo hg.hi)
  obtain ⟨b1, b2⟩ := fwd_read hg hl a2
  unfold get
  rw [if_neg (by omega), if_neg (by rw [a2.1]; simp), a1, if_neg (by have := hg.lo; have := hg.hi; omega)]
  have hlen := congrArg List.length b2.2
  rw [List.length_drop] at hlen
  by_cases hr : r = []
  · subst hr
    rw [List.length_nil] at hlen
    rw [rEnd_else (fun h => by omega), if_neg (by rw [b2.1]; simp), if_pos rfl, b1]
  · have : 0 < r.length := List.length_pos_iff.2 hr
    rw [rEnd_tail ⟨b2.1, by omega⟩, if_pos (by show (5 : Int) ≠ 0; omega), if_neg hr]
theorem get_bytes {s : S} (hg : s.Good) (hl : s.long = false) (hm : s.bytes.length ≤ 1024) : get s.bytes = (s, 0) := by
  have h := get_ahead hg hl [] (by rw [List.append_nil]; exact hm)
  rw [List.append_nil, if_pos rfl] at h
  exact h
/-- what bytes are read as has these bytes -/
theorem get_ok {bs : List UInt8} (h : (get bs).2 = 0) : (get bs).1.Good ∧ (get bs).1.long = false ∧ (get bs).1.bytes = bs ∧ bs.length ≤ 1024 := by
  unfold get at h ⊢
  by_cases h1 : 1024 < bs.length
  · rw [if_pos h1] at h
    cases h
  · rw [if_neg h1] at h ⊢
    by_cases h2 : (rNum bs s0).2.err ≠ 0
    · rw [if_pos h2] at h
      exact absurd h h2
    · rw [if_neg h2] at h ⊢
      by_cases h3 : ¬ (1 ≤ (rNum bs s0).1 ∧ (rNum bs s0).1 ≤ 8)
      · rw [if_pos h3] at h
        cases h
      · rw [if_neg h3] at h ⊢
        by_cases h4 : (rEnd bs (rRead bs (rNum bs s0).1 (rNum bs s0).2).2).1 ≠ 0
        · rw [if_pos h4] at h
          exact absurd h h4
        · rw [if_neg h4]
          have h3' := Decidable.not_not.1 h3
          have h4' := Decidable.not_not.1 h4
          have hR : Rem bs (rRead bs (rNum bs s0).1 (rNum bs s0).2).2 [] := by
            by_cases ht : (rRead bs (rNum bs s0).1 (rNum bs s0).2).2.err = 0 ∧ (rRead bs (rNum bs s0).1 (rNum bs s0).2).2.at' < bs.length
            · rw [rEnd_tail ht] at h4'
              cases h4'
            · rw [rEnd_else ht] at h4'
              exact ⟨h4', List.drop_eq_nil_of_le (Nat.le_of_not_lt fun h => ht ⟨h4', h⟩)⟩
          obtain ⟨k1, k2, k3, k4⟩ := bwd_read h3'.1 h3'.2 hR
          rw [List.append_nil] at k4
          have k5 := bwd_num k4
          refine ⟨k2, k3, ?_, by omega⟩
          show (rRead bs (rNum bs s0).1 (rNum bs s0).2).1.bytes = bs
          unfold S.bytes
          rw [k1]
          have := k5.2
          rw [show s0.at' = 0 from rfl, List.drop_zero] at this
          exact this.symm
theorem get_cut {s : S} (hg : s.Good) (hl : s.long = false) (hm : s.bytes.length ≤ 1024) (j : Nat) (hj : j < s.bytes.length) : (get (s.bytes.take j)).2 ≠ 0 := by
  intro h
  obtain ⟨g1, g2, g3, g4⟩ := get_ok h
  have e : s.bytes = (get (s.bytes.take j)).1.bytes ++ s.bytes.drop j := by rw [g3, List.take_append_drop]
  have h1 := get_ahead g1 g2 (s.bytes.drop j) (by rw [← e]; exact hm)
  rw [← e, get_bytes hg hl hm, if_neg (fun k => by have := congrArg List.length k; rw [List.length_drop] at this; simp at this; omega)] at h1
  cases h1
theorem bytes_pos (s : S) : 1 ≤ s.bytes.length := by
  unfold S.bytes
  have := nm_pos s.kind
  rw [List.length_append]
  omega
theorem get_big {bs : List UInt8} (h : 1024 < bs.length) : get bs = (S.zero, 2) := by unfold get; rw [if_pos h]
theorem get_num {bs : List UInt8} (h : ¬ 1024 < bs.length) (h2 : (rNum bs s0).2.err ≠ 0) : get bs = (S.zero, (rNum bs s0).2.err) := by unfold get; rw [if_neg h, if_pos h2]
theorem get_kind {bs : List UInt8} (h : ¬ 1024 < bs.length) (h2 : (rNum bs s0).2.err = 0) (h3 : ¬ (1 ≤ (rNum bs s0).1 ∧ (rNum bs s0).1 ≤ 8)) : get bs = (S.zero, 17) := by unfold get; rw [if_neg h, if_neg (by simp [h2]), if_pos h3]
theorem get_end {bs : List UInt8} (h : ¬ 1024 < bs.length) (h2 : (rNum bs s0).2.err = 0) (h3 : 1 ≤ (rNum bs s0).1 ∧ (rNum bs s0).1 ≤ 8) (h4 : (rEnd bs (rRead bs (rNum bs s0).1 (rNum bs s0).2).2).1 ≠ 0) : get bs = (S.zero, (rEnd bs (rRead bs (rNum bs s0).1 (rNum bs s0).2).2).1) := by
  unfold get
  rw [if_neg h, if_neg (by simp [h2]), if_neg (fun k => k h3), if_pos h4]
theorem get_is {bs : List UInt8} (h : ¬ 1024 < bs.length) (h2 : (rNum bs s0).2.err = 0) (h3 : 1 ≤ (rNum bs s0).1 ∧ (rNum bs s0).1 ≤ 8) (h4 : (rEnd bs (rRead bs (rNum bs s0).1 (rNum bs s0).2).2).1 = 0) : get bs = ((rRead bs (rNum bs s0).1 (rNum bs s0).2).1, 0) := by
  unfold get
  rw [if_neg h, if_neg (by simp [h2]), if_neg (fun k => k h3), if_neg (by simp [h4])]
theorem get_zero {bs : List UInt8} (h : (get bs).2 ≠ 0) : (get bs).1 = S.zero := by
  by_cases h1 : 1024 < bs.length
  · rw [get_big h1]
  · by_cases h2 : (rNum bs s0).2.err = 0
    · by_cases h3 : 1 ≤ (rNum bs s0).1 ∧ (rNum bs s0).1 ≤ 8
      · by_cases h4 : (rEnd bs (rRead bs (rNum bs s0).1 (rNum bs s0).2).2).1 = 0
        · rw [get_is h1 h2 h3 h4] at h
          exact absurd rfl h
        · rw [get_end h1 h2 h3 h4]
      · rw [get_kind h1 h2 h3]
    · rw [get_num h1 h2]
end Go.Proofs.Ytndfhnaafaijcaa.Cm

/- A COMMAND BEHIND ITS INTERFACE. (By gencd.py.) -/
namespace Go.Proofs.Ytndfhnaafaijcaa.Cm
open Go.RowKit
open Mem

def S.opn (series : ByteArray) (limit : Int) : S := ⟨1, series, limit, .empty, 0, 0, 0, 0, 0, 0, 0, [], .empty, 0, 0⟩
def S.sht (series : ByteArray) : S := ⟨2, series, 0, .empty, 0, 0, 0, 0, 0, 0, 0, [], .empty, 0, 0⟩
def S.lvy (cat : ByteArray) (fy : Int) (fm : Int) (fd : Int) (bp : Int) : S := ⟨3, .empty, 0, cat, fy, fm, fd, bp, 0, 0, 0, [], .empty, 0, 0⟩
def S.pst (series : ByteArray) (y : Int) (m : Int) (d : Int) (ls : List Ln.T) : S := ⟨4, series, 0, .empty, 0, 0, 0, 0, y, m, d, ls, .empty, 0, 0⟩
def S.crd (series : ByteArray) (y : Int) (m : Int) (d : Int) (ofs : ByteArray) (ofn : Int) : S := ⟨5, series, 0, .empty, 0, 0, 0, 0, y, m, d, [], ofs, ofn, 0⟩
def S.jn : S := ⟨6, .empty, 0, .empty, 0, 0, 0, 0, 0, 0, 0, [], .empty, 0, 0⟩
def S.lv (session : Int) : S := ⟨7, .empty, 0, .empty, 0, 0, 0, 0, 0, 0, 0, [], .empty, 0, session⟩
def S.sk (series : ByteArray) : S := ⟨8, series, 0, .empty, 0, 0, 0, 0, 0, 0, 0, [], .empty, 0, 0⟩
/-- what a Command holds -/
inductive Is (w : World) : S → Value → Prop
  | none : Is w S.zero .nilIface
  | opn (series : ByteArray) (limit : Int) (h_series : series.size ≤ 140737488355328) (h_limit : Fit limit) : Is w (S.opn series limit) (.iface 73 (.agg #[.string series, .int .i64 limit]))
  | sht (series : ByteArray) (h_series : series.size ≤ 140737488355328) : Is w (S.sht series) (.iface 75 (.agg #[.string series]))
  | lvy (cat : ByteArray) (fy : Int) (fm : Int) (fd : Int) (bp : Int) (h_cat : cat.size ≤ 140737488355328) (h_fy : Fit fy) (h_fm : Fit fm) (h_fd : Fit fd) (h_bp : Fit bp) : Is w (S.lvy cat fy fm fd bp) (.iface 77 (.agg #[.string cat, .int .i64 fy, .int .i64 fm, .int .i64 fd, .int .i64 bp]))
  | pst (series : ByteArray) (y : Int) (m : Int) (d : Int) (ls : List Ln.T) (ao : Option Addr) (n cap : Nat) (h_series : series.size ≤ 140737488355328) (h_y : Fit y) (h_m : Fit m) (h_d : Fit d) (h_n : n ≤ 100000) (h_lines : Ln.Ls w ao n cap ls) : Is w (S.pst series y m d ls) (.iface 49 (.agg #[.string series, .int .i64 y, .int .i64 m, .int .i64 d, .slice ao n cap]))
  | crd (series : ByteArray) (y : Int) (m : Int) (d : Int) (ofs : ByteArray) (ofn : Int) (h_series : series.size ≤ 140737488355328) (h_y : Fit y) (h_m : Fit m) (h_d : Fit d) (h_ofs : ofs.size ≤ 140737488355328) (h_ofn : Fit ofn) : Is w (S.crd series y m d ofs ofn) (.iface 80 (.agg #[.string series, .int .i64 y, .int .i64 m, .int .i64 d, .string ofs, .int .i64 ofn]))
  | jn : Is w (S.jn) (.iface 82 (.agg #[]))
  | lv (session : Int) (h_session : Fit session) : Is w (S.lv session) (.iface 84 (.agg #[.int .i64 session]))
  | sk (series : ByteArray) (h_series : series.size ≤ 140737488355328) : Is w (S.sk series) (.iface 85 (.agg #[.string series]))
/-- a Command as it is handed over -/
def cv (v : Value) : Value := .agg #[v]
theorem Is.below {w u : World} {s : S} {v : Value} (h : Is w s v) (k : Below w.heap.size w u) : Is u s v := by
  cases h with
  | none => exact .none
  | opn series limit h_series h_limit => exact .opn series limit h_series h_limit
  | sht series h_series => exact .sht series h_series
  | lvy cat fy fm fd bp h_cat h_fy h_fm h_fd h_bp => exact .lvy cat fy fm fd bp h_cat h_fy h_fm h_fd h_bp
  | pst series y m d ls ao n cap h_series h_y h_m h_d h_n h_lines => exact .pst series y m d ls ao n cap h_series h_y h_m h_d h_n (h_lines.below k)
  | crd series y m d ofs ofn h_series h_y h_m h_d h_ofs h_ofn => exact .crd series y m d ofs ofn h_series h_y h_m h_d h_ofs h_ofn
  | jn  => exact .jn
  | lv session h_session => exact .lv session h_session
  | sk series h_series => exact .sk series h_series
theorem Is.oneCell {w : World} {s : S} {v : Value} (h : Is w s v) : v.oneCell' = true := by cases h <;> rfl
theorem Is.kindOk {w : World} {s : S} {v : Value} (h : Is w s v) : 0 ≤ s.kind ∧ s.kind ≤ 8 := by
  cases h
  · exact ⟨(by decide : (0 : Int) ≤ 0), (by decide : (0 : Int) ≤ 8)⟩
  · exact ⟨(by decide : (0 : Int) ≤ 1), (by decide : (1 : Int) ≤ 8)⟩
  · exact ⟨(by decide : (0 : Int) ≤ 2), (by decide : (2 : Int) ≤ 8)⟩
  · exact ⟨(by decide : (0 : Int) ≤ 3), (by decide : (3 : Int) ≤ 8)⟩
  · exact ⟨(by decide : (0 : Int) ≤ 4), (by decide : (4 : Int) ≤ 8)⟩
  · exact ⟨(by decide : (0 : Int) ≤ 5), (by decide : (5 : Int) ≤ 8)⟩
  · exact ⟨(by decide : (0 : Int) ≤ 6), (by decide : (6 : Int) ≤ 8)⟩
  · exact ⟨(by decide : (0 : Int) ≤ 7), (by decide : (7 : Int) ≤ 8)⟩
  · exact ⟨(by decide : (0 : Int) ≤ 8), (by decide : (8 : Int) ≤ 8)⟩
theorem Is.good {w : World} {s : S} {v : Value} (h : Is w s v) : (s = S.zero ∧ v = .nilIface) ∨ s.Good := by
  have nol : ∀ x ∈ ([] : List Ln.T), Ln.Short x := fun _ h => by cases h
  cases h with
  | none => exact .inl ⟨rfl, rfl⟩
  | opn series limit h_series h_limit => exact .inr ⟨(by decide : (1 : Int) ≤ 1), (by decide : (1 : Int) ≤ 8), rfl, fitS h_series empty_size empty_size h_limit fit0 fit0 fit0 fit0 fit0 fit0 fit0 fit0 fit0 nol⟩
  | sht series h_series => exact .inr ⟨(by decide : (1 : Int) ≤ 2), (by decide : (2 : Int) ≤ 8), rfl, fitS h_series empty_size empty_size fit0 fit0 fit0 fit0 fit0 fit0 fit0 fit0 fit0 fit0 nol⟩
  | lvy cat fy fm fd bp h_cat h_fy h_fm h_fd h_bp => exact .inr ⟨(by decide : (1 : Int) ≤ 3), (by decide : (3 : Int) ≤ 8), rfl, fitS empty_size h_cat empty_size fit0 h_fy h_fm h_fd h_bp fit0 fit0 fit0 fit0 fit0 nol⟩
  | pst series y m d ls ao n cap h_series h_y h_m h_d h_n h_lines => exact .inr ⟨(by decide : (1 : Int) ≤ 4), (by decide : (4 : Int) ≤ 8), rfl, fitS h_series empty_size empty_size fit0 fit0 fit0 fit0 fit0 h_y h_m h_d fit0 fit0 h_lines.short⟩
  | crd series y m d ofs ofn h_series h_y h_m h_d h_ofs h_ofn => exact .inr ⟨(by decide : (1 : Int) ≤ 5), (by decide : (5 : Int) ≤ 8), rfl, fitS h_series empty_size h_ofs fit0 fit0 fit0 fit0 fit0 h_y h_m h_d h_ofn fit0 nol⟩
  | jn => exact .inr ⟨(by decide : (1 : Int) ≤ 6), (by decide : (6 : Int) ≤ 8), rfl, fitS empty_size empty_size empty_size fit0 fit0 fit0 fit0 fit0 fit0 fit0 fit0 fit0 fit0 nol⟩
  | lv session h_session => exact .inr ⟨(by decide : (1 : Int) ≤ 7), (by decide : (7 : Int) ≤ 8), rfl, fitS empty_size empty_size empty_size fit0 fit0 fit0 fit0 fit0 fit0 fit0 fit0 fit0 h_session nol⟩
  | sk series h_series => exact .inr ⟨(by decide : (1 : Int) ≤ 8), (by decide : (8 : Int) ≤ 8), rfl, fitS h_series empty_size empty_size fit0 fit0 fit0 fit0 fit0 fit0 fit0 fit0 fit0 fit0 nol⟩
theorem Is.kind_pos {w : World} {s : S} {v : Value} (h : Is w s v) (hk : s.kind ≠ 0) : s.Good := by
  rcases h.good with ⟨e, _⟩ | h
  · exact absurd (by rw [e]; rfl) hk
  · exact h
/-- where the lines of what is held lie -/
def linesAt : Value → Option Addr
  | .iface _ (.agg a) => match (a[4]? : Option Value) with
    | some (Value.slice ao _ _) => ao
    | _ => none
  | _ => none
/-- .. and they are new, from a block on -/
structure IsF (w : World) (B : Nat) (s : S) (v : Value) : Prop where
  is : Is w s v
  new : ∀ ad, linesAt v = some ad → ∃ g, ad = ⟨g, 0, none⟩ ∧ B ≤ g
theorem IsF.below {w u : World} {B : Nat} {s : S} {v : Value} (h : IsF w B s v) (k : Below w.heap.size w u) : IsF u B s v := ⟨h.is.below k, h.new⟩
end Go.Proofs.Ytndfhnaafaijcaa.Cm

/- TYPE ASSERTIONS of package command, one equation each. (By gencd.py.) -/
namespace Go.Proofs.Ytndfhnaafaijcaa

theorem ask_nil_open (u : World) : (Instr.typeAssert Value.nilIface 23 73 true).run Try.prog u = .ok (.tuple #[.agg #[.string .empty, .int .i64 0], .bool false]) u := by kernel_rfl
theorem ask_nil_shut (u : World) : (Instr.typeAssert Value.nilIface 23 75 true).run Try.prog u = .ok (.tuple #[.agg #[.string .empty], .bool false]) u := by kernel_rfl
theorem ask_nil_levy (u : World) : (Instr.typeAssert Value.nilIface 23 77 true).run Try.prog u = .ok (.tuple #[.agg #[.string .empty, .int .i64 0, .int .i64 0, .int .i64 0, .int .i64 0], .bool false]) u := by kernel_rfl
theorem ask_nil_Post (u : World) : (Instr.typeAssert Value.nilIface 23 49 true).run Try.prog u = .ok (.tuple #[.agg #[.string .empty, .int .i64 0, .int .i64 0, .int .i64 0, .slice none 0 0], .bool false]) u := by kernel_rfl
theorem ask_nil_credit (u : World) : (Instr.typeAssert Value.nilIface 23 80 true).run Try.prog u = .ok (.tuple #[.agg #[.string .empty, .int .i64 0, .int .i64 0, .int .i64 0, .string .empty, .int .i64 0], .bool false]) u := by kernel_rfl
theorem ask_nil_join (u : World) : (Instr.typeAssert Value.nilIface 23 82 true).run Try.prog u = .ok (.tuple #[.agg #[], .bool false]) u := by kernel_rfl
theorem ask_nil_leave (u : World) : (Instr.typeAssert Value.nilIface 23 84 true).run Try.prog u = .ok (.tuple #[.agg #[.int .i64 0], .bool false]) u := by kernel_rfl
theorem ask_nil_ask (u : World) : (Instr.typeAssert Value.nilIface 23 85 true).run Try.prog u = .ok (.tuple #[.agg #[.string .empty], .bool false]) u := by kernel_rfl
theorem ask_open_open (x : Value) (u : World) : (Instr.typeAssert (.iface 73 x) 23 73 true).run Try.prog u = .ok (.tuple #[x, .bool true]) u := by kernel_rfl
theorem ask_open_shut (x : Value) (u : World) : (Instr.typeAssert (.iface 73 x) 23 75 true).run Try.prog u = .ok (.tuple #[.agg #[.string .empty], .bool false]) u := by kernel_rfl
theorem ask_open_levy (x : Value) (u : World) : (Instr.typeAssert (.iface 73 x) 23 77 true).run Try.prog u = .ok (.tuple #[.agg #[.string .empty, .int .i64 0, .int .i64 0, .int .i64 0, .int .i64 0], .bool false]) u := by kernel_rfl
theorem ask_open_Post (x : Value) (u : World) : (Instr.typeAssert (.iface 73 x) 23 49 true).run Try.prog u = .ok (.tuple #[.agg #[.string .empty, .int .i64 0, .int .i64 0, .int .i64 0, .slice none 0 0], .bool false]) u := by kernel_rfl
theorem ask_open_credit (x : Value) (u : World) : (Instr.typeAssert (.iface 73 x) 23 80 true).run Try.prog u = .ok (.tuple #[.agg #[.string .empty, .int .i64 0, .int .i64 0, .int .i64 0, .string .empty, .int .i64 0], .bool false]) u := by kernel_rfl
theorem ask_open_join (x : Value) (u : World) : (Instr.typeAssert (.iface 73 x) 23 82 true).run Try.prog u = .ok (.tuple #[.agg #[], .bool false]) u := by kernel_rfl
theorem ask_open_leave (x : Value) (u : World) : (Instr.typeAssert (.iface 73 x) 23 84 true).run Try.prog u = .ok (.tuple #[.agg #[.int .i64 0], .bool false]) u := by kernel_rfl
theorem ask_open_ask (x : Value) (u : World) : (Instr.typeAssert (.iface 73 x) 23 85 true).run Try.prog u = .ok (.tuple #[.agg #[.string .empty], .bool false]) u := by kernel_rfl
theorem ask_shut_open (x : Value) (u : World) : (Instr.typeAssert (.iface 75 x) 23 73 true).run Try.prog u = .ok (.tuple #[.agg #[.string .empty, .int .i64 0], .bool false]) u := by kernel_rfl
theorem ask_shut_shut (x : Value) (u : World) : (Instr.typeAssert (.iface 75 x) 23 75 true).run Try.prog u = .ok (.tuple #[x, .bool true]) u := by kernel_rfl
theorem ask_shut_levy (x : Value) (u : World) : (Instr.typeAssert (.iface 75 x) 23 77 true).run Try.prog u = .ok (.tuple #[.agg #[.string .empty, .int .i64 0, .int .i64 0, .int .i64 0, .int .i64 0], .bool false]) u := by kernel_rfl
theorem ask_shut_Post (x : Value) (u : World) : (Instr.typeAssert (.iface 75 x) 23 49 true).run Try.prog u = .ok (.tuple #[.agg #[.string .empty, .int .i64 0, .int .i64 0, .int .i64 0, .slice none 0 0], .bool false]) u := by kernel_rfl
theorem ask_shut_credit (x : Value) (u : World) : (Instr.typeAssert (.iface 75 x) 23 80 true).run Try.prog u = .ok (.tuple #[.agg #[.string .empty, .int .i64 0, .int .i64 0, .int .i64 0, .string .empty, .int .i64 0], .bool false]) u := by kernel_rfl
theorem ask_shut_join (x : Value) (u : World) : (Instr.typeAssert (.iface 75 x) 23 82 true).run Try.prog u = .ok (.tuple #[.agg #[], .bool false]) u := by kernel_rfl
theorem ask_shut_leave (x : Value) (u : World) : (Instr.typeAssert (.iface 75 x) 23 84 true).run Try.prog u = .ok (.tuple #[.agg #[.int .i64 0], .bool false]) u := by kernel_rfl
theorem ask_shut_ask (x : Value) (u : World) : (Instr.typeAssert (.iface 75 x) 23 85 true).run Try.prog u = .ok (.tuple #[.agg #[.string .empty], .bool false]) u := by kernel_rfl
theorem ask_levy_open (x : Value) (u : World) : (Instr.typeAssert (.iface 77 x) 23 73 true).run Try.prog u = .ok (.tuple #[.agg #[.string .empty, .int .i64 0], .bool false]) u := by kernel_rfl
theorem ask_levy_shut (x : Value) (u : World) : (Instr.typeAssert (.iface 77 x) 23 75 true).run Try.prog u = .ok (.tuple #[.agg #[.string .empty], .bool false]) u := by kernel_rfl
theorem ask_levy_levy (x : Value) (u : World) : (Instr.typeAssert (.iface 77 x) 23 77 true).run Try.prog u = .ok (.tuple #[x, .bool true]) u := by kernel_rfl
theorem ask_levy_Post (x : Value) (u : World) : (Instr.typeAssert (.iface 77 x) 23 49 true).run Try.prog u = .ok (.tuple #[.agg #[.string .empty, .int .i64 0, .int .i64 0, .int .i64 0, .slice none 0 0], .bool false]) u := by kernel_rfl
theorem ask_levy_credit (x : Value) (u : World) : (Instr.typeAssert (.iface 77 x) 23 80 true).run Try.prog u = .ok (.tuple #[.agg #[.string .empty, .int .i64 0, .int .i64 0, .int .i64 0, .string .empty, .int .i64 0], .bool false]) u := by kernel_rfl
theorem ask_levy_join (x : Value) (u : World) : (Instr.typeAssert (.iface 77 x) 23 82 true).run Try.prog u = .ok (.tuple #[.agg #[], .bool false]) u := by kernel_rfl
theorem ask_levy_leave (x : Value) (u : World) : (Instr.typeAssert (.iface 77 x) 23 84 true).run Try.prog u = .ok (.tuple #[.agg #[.int .i64 0], .bool false]) u := by kernel_rfl
theorem ask_levy_ask (x : Value) (u : World) : (Instr.typeAssert (.iface 77 x) 23 85 true).run Try.prog u = .ok (.tuple #[.agg #[.string .empty], .bool false]) u := by kernel_rfl
theorem ask_Post_open (x : Value) (u : World) : (Instr.typeAssert (.iface 49 x) 23 73 true).run Try.prog u = .ok (.tuple #[.agg #[.string .empty, .int .i64 0], .bool false]) u := by kernel_rfl
theorem ask_Post_shut (x : Value) (u : World) : (Instr.typeAssert (.iface 49 x) 23 75 true).run Try.prog u = .ok (.tuple #[.agg #[.string .empty], .bool false]) u := by kernel_rfl
theorem ask_Post_levy (x : Value) (u : World) : (Instr.typeAssert (.iface 49 x) 23 77 true).run Try.prog u = .ok (.tuple #[.agg #[.string .empty, .int .i64 0, .int .i64 0, .int .i64 0, .int .i64 0], .bool false]) u := by kernel_rfl
theorem ask_Post_Post (x : Value) (u : World) : (Instr.typeAssert (.iface 49 x) 23 49 true).run Try.prog u = .ok (.tuple #[x, .bool true]) u := by kernel_rfl
theorem ask_Post_credit (x : Value) (u : World) : (Instr.typeAssert (.iface 49 x) 23 80 true).run Try.prog u = .ok (.tuple #[.agg #[.string .empty, .int .i64 0, .int .i64 0, .int .i64 0, .string .empty, .int .i64 0], .bool false]) u := by kernel_rfl
theorem ask_Post_join (x : Value) (u : World) : (Instr.typeAssert (.iface 49 x) 23 82 true).run Try.prog u = .ok (.tuple #[.agg #[], .bool false]) u := by kernel_rfl
theorem ask_Post_leave (x : Value) (u : World) : (Instr.typeAssert (.iface 49 x) 23 84 true).run Try.prog u = .ok (.tuple #[.agg #[.int .i64 0], .bool false]) u := by kernel_rfl
theorem ask_Post_ask (x : Value) (u : World) : (Instr.typeAssert (.iface 49 x) 23 85 true).run Try.prog u = .ok (.tuple #[.agg #[.string .empty], .bool false]) u := by kernel_rfl
theorem ask_credit_open (x : Value) (u : World) : (Instr.typeAssert (.iface 80 x) 23 73 true).run Try.prog u = .ok (.tuple #[.agg #[.string .empty, .int .i64 0], .bool false]) u := by kernel_rfl
theorem ask_credit_shut (x : Value) (u : World) : (Instr.typeAssert (.iface 80 x) 23 75 true).run Try.prog u = .ok (.tuple #[.agg #[.string .empty], .bool false]) u := by kernel_rfl
theorem ask_credit_levy (x : Value) (u : World) : (Instr.typeAssert (.iface 80 x) 23 77 true).run Try.prog u = .ok (.tuple #[.agg #[.string .empty, .int .i64 0, .int .i64 0, .int .i64 0, .int .i64 0], .bool false]) u := by kernel_rfl
theorem ask_credit_Post (x : Value) (u : World) : (Instr.typeAssert (.iface 80 x) 23 49 true).run Try.prog u = .ok (.tuple #[.agg #[.string .empty, .int .i64 0, .int .i64 0, .int .i64 0, .slice none 0 0], .bool false]) u := by kernel_rfl
theorem ask_credit_credit (x : Value) (u : World) : (Instr.typeAssert (.iface 80 x) 23 80 true).run Try.prog u = .ok (.tuple #[x, .bool true]) u := by kernel_rfl
theorem ask_credit_join (x : Value) (u : World) : (Instr.typeAssert (.iface 80 x) 23 82 true).run Try.prog u = .ok (.tuple #[.agg #[], .bool false]) u := by kernel_rfl
theorem ask_credit_leave (x : Value) (u : World) : (Instr.typeAssert (.iface 80 x) 23 84 true).run Try.prog u = .ok (.tuple #[.agg #[.int .i64 0], .bool false]) u := by kernel_rfl
theorem ask_credit_ask (x : Value) (u : World) : (Instr.typeAssert (.iface 80 x) 23 85 true).run Try.prog u = .ok (.tuple #[.agg #[.string .empty], .bool false]) u := by kernel_rfl
theorem ask_join_open (x : Value) (u : World) : (Instr.typeAssert (.iface 82 x) 23 73 true).run Try.prog u = .ok (.tuple #[.agg #[.string .empty, .int .i64 0], .bool false]) u := by kernel_rfl
theorem ask_join_shut (x : Value) (u : World) : (Instr.typeAssert (.iface 82 x) 23 75 true).run Try.prog u = .ok (.tuple #[.agg #[.string .empty], .bool false]) u := by kernel_rfl
theorem ask_join_levy (x : Value) (u : World) : (Instr.typeAssert (.iface 82 x) 23 77 true).run Try.prog u = .ok (.tuple #[.agg #[.string .empty, .int .i64 0, .int .i64 0, .int .i64 0, .int .i64 0], .bool false]) u := by kernel_rfl
theorem ask_join_Post (x : Value) (u : World) : (Instr.typeAssert (.iface 82 x) 23 49 true).run Try.prog u = .ok (.tuple #[.agg #[.string .empty, .int .i64 0, .int .i64 0, .int .i64 0, .slice none 0 0], .bool false]) u := by kernel_rfl
theorem ask_join_credit (x : Value) (u : World) : (Instr.typeAssert (.iface 82 x) 23 80 true).run Try.prog u = .ok (.tuple #[.agg #[.string .empty, .int .i64 0, .int .i64 0, .int .i64 0, .string .empty, .int .i64 0], .bool false]) u := by kernel_rfl
theorem ask_join_join (x : Value) (u : World) : (Instr.typeAssert (.iface 82 x) 23 82 true).run Try.prog u = .ok (.tuple #[x, .bool true]) u := by kernel_rfl
theorem ask_join_leave (x : Value) (u : World) : (Instr.typeAssert (.iface 82 x) 23 84 true).run Try.prog u = .ok (.tuple #[.agg #[.int .i64 0], .bool false]) u := by kernel_rfl
theorem ask_join_ask (x : Value) (u : World) : (Instr.typeAssert (.iface 82 x) 23 85 true).run Try.prog u = .ok (.tuple #[.agg #[.string .empty], .bool false]) u := by kernel_rfl
theorem ask_leave_open (x : Value) (u : World) : (Instr.typeAssert (.iface 84 x) 23 73 true).run Try.prog u = .ok (.tuple #[.agg #[.string .empty, .int .i64 0], .bool false]) u := by kernel_rfl
theorem ask_leave_shut (x : Value) (u : World) : (Instr.typeAssert (.iface 84 x) 23 75 true).run Try.prog u = .ok (.tuple #[.agg #[.string .empty], .bool false]) u := by kernel_rfl
theorem ask_leave_levy (x : Value) (u : World) : (Instr.typeAssert (.iface 84 x) 23 77 true).run Try.prog u = .ok (.tuple #[.agg #[.string .empty, .int .i64 0, .int .i64 0, .int .i64 0, .int .i64 0], .bool false]) u := by kernel_rfl
theorem ask_leave_Post (x : Value) (u : World) : (Instr.typeAssert (.iface 84 x) 23 49 true).run Try.prog u = .ok (.tuple #[.agg #[.string .empty, .int .i64 0, .int .i64 0, .int .i64 0, .slice none 0 0], .bool false]) u := by kernel_rfl
theorem ask_leave_credit (x : Value) (u : World) : (Instr.typeAssert (.iface 84 x) 23 80 true).run Try.prog u = .ok (.tuple #[.agg #[.string .empty, .int .i64 0, .int .i64 0, .int .i64 0, .string .empty, .int .i64 0], .bool false]) u := by kernel_rfl
theorem ask_leave_join (x : Value) (u : World) : (Instr.typeAssert (.iface 84 x) 23 82 true).run Try.prog u = .ok (.tuple #[.agg #[], .bool false]) u := by kernel_rfl
theorem ask_leave_leave (x : Value) (u : World) : (Instr.typeAssert (.iface 84 x) 23 84 true).run Try.prog u = .ok (.tuple #[x, .bool true]) u := by kernel_rfl
theorem ask_leave_ask (x : Value) (u : World) : (Instr.typeAssert (.iface 84 x) 23 85 true).run Try.prog u = .ok (.tuple #[.agg #[.string .empty], .bool false]) u := by kernel_rfl
theorem ask_ask_open (x : Value) (u : World) : (Instr.typeAssert (.iface 85 x) 23 73 true).run Try.prog u = .ok (.tuple #[.agg #[.string .empty, .int .i64 0], .bool false]) u := by kernel_rfl
theorem ask_ask_shut (x : Value) (u : World) : (Instr.typeAssert (.iface 85 x) 23 75 true).run Try.prog u = .ok (.tuple #[.agg #[.string .empty], .bool false]) u := by kernel_rfl
theorem ask_ask_levy (x : Value) (u : World) : (Instr.typeAssert (.iface 85 x) 23 77 true).run Try.prog u = .ok (.tuple #[.agg #[.string .empty, .int .i64 0, .int .i64 0, .int .i64 0, .int .i64 0], .bool false]) u := by kernel_rfl
theorem ask_ask_Post (x : Value) (u : World) : (Instr.typeAssert (.iface 85 x) 23 49 true).run Try.prog u = .ok (.tuple #[.agg #[.string .empty, .int .i64 0, .int .i64 0, .int .i64 0, .slice none 0 0], .bool false]) u := by kernel_rfl
theorem ask_ask_credit (x : Value) (u : World) : (Instr.typeAssert (.iface 85 x) 23 80 true).run Try.prog u = .ok (.tuple #[.agg #[.string .empty, .int .i64 0, .int .i64 0, .int .i64 0, .string .empty, .int .i64 0], .bool false]) u := by kernel_rfl
theorem ask_ask_join (x : Value) (u : World) : (Instr.typeAssert (.iface 85 x) 23 82 true).run Try.prog u = .ok (.tuple #[.agg #[], .bool false]) u := by kernel_rfl
theorem ask_ask_leave (x : Value) (u : World) : (Instr.typeAssert (.iface 85 x) 23 84 true).run Try.prog u = .ok (.tuple #[.agg #[.int .i64 0], .bool false]) u := by kernel_rfl
theorem ask_ask_ask (x : Value) (u : World) : (Instr.typeAssert (.iface 85 x) 23 85 true).run Try.prog u = .ok (.tuple #[x, .bool true]) u := by kernel_rfl
theorem must_Post (x : Value) (u : World) : (Instr.typeAssert (.iface 49 x) 23 49 false).run Try.prog u = .ok x u := by kernel_rfl
end Go.Proofs.Ytndfhnaafaijcaa

/- CONTRACTS OF PACKAGE command: Kind. (By gencd.py.) -/
set_option linter.unusedVariables false
namespace Go.Proofs.Ytndfhnaafaijcaa
open Go.RowKit
open Mem

theorem cmd_kind (s : Cm.S) (v : Value) (w : World) (h : Cm.Is w s v) :
    Calls Try.prog 20 #[Cm.cv v] w fun e w' => e = .returned (.int .i64 s.kind) ∧ w' = w.alloc (.cells #[v] 25) := by
  unfold Cm.cv
  cases h with
  | none =>
    have a_open := ask_nil_open
    have a_shut := ask_nil_shut
    have a_levy := ask_nil_levy
    have a_Post := ask_nil_Post
    have a_credit := ask_nil_credit
    have a_join := ask_nil_join
    have a_leave := ask_nil_leave
    have a_ask := ask_nil_ask
    go_enter Try.func20, Try.ntmps20
    go_wp2_with fail
    go_ret
    exact ⟨rfl, rfl⟩
  | opn series limit h_series h_limit =>
    have a_open := ask_open_open
    go_enter Try.func20, Try.ntmps20
    go_wp2_with fail
    go_ret
    exact ⟨rfl, rfl⟩
  | sht series h_series =>
    have a_open := ask_shut_open
    have a_shut := ask_shut_shut
    go_enter Try.func20, Try.ntmps20
    go_wp2_with fail
    go_ret
    exact ⟨rfl, rfl⟩
  | lvy cat fy fm fd bp h_cat h_fy h_fm h_fd h_bp =>
    have a_open := ask_levy_open
    have a_shut := ask_levy_shut
    have a_levy := ask_levy_levy
    go_enter Try.func20, Try.ntmps20
    go_wp2_with fail
    go_ret
    exact ⟨rfl, rfl⟩
  | pst series y m d ls ao n cap h_series h_y h_m h_d h_n h_lines =>
    have a_open := ask_Post_open
    have a_shut := ask_Post_shut
    have a_levy := ask_Post_levy
    have a_Post := ask_Post_Post
    go_enter Try.func20, Try.ntmps20
    go_wp2_with fail
    go_ret
    exact ⟨rfl, rfl⟩
  | crd series y m d ofs ofn h_series h_y h_m h_d h_ofs h_ofn =>
    have a_open := ask_credit_open
    have a_shut := ask_credit_shut
    have a_levy := ask_credit_levy
    have a_Post := ask_credit_Post
    have a_credit := ask_credit_credit
    go_enter Try.func20, Try.ntmps20
    go_wp2_with fail
    go_ret
    exact ⟨rfl, rfl⟩
  | jn =>
    have a_open := ask_join_open
    have a_shut := ask_join_shut
    have a_levy := ask_join_levy
    have a_Post := ask_join_Post
    have a_credit := ask_join_credit
    have a_join := ask_join_join
    go_enter Try.func20, Try.ntmps20
    go_wp2_with fail
    go_ret
    exact ⟨rfl, rfl⟩
  | lv session h_session =>
    have a_open := ask_leave_open
    have a_shut := ask_leave_shut
    have a_levy := ask_leave_levy
    have a_Post := ask_leave_Post
    have a_credit := ask_leave_credit
    have a_join := ask_leave_join
    have a_leave := ask_leave_leave
    go_enter Try.func20, Try.ntmps20
    go_wp2_with fail
    go_ret
    exact ⟨rfl, rfl⟩
  | sk series h_series =>
    have a_open := ask_ask_open
    have a_shut := ask_ask_shut
    have a_levy := ask_ask_levy
    have a_Post := ask_ask_Post
    have a_credit := ask_ask_credit
    have a_join := ask_ask_join
    have a_leave := ask_ask_leave
    have a_ask := ask_ask_ask
    go_enter Try.func20, Try.ntmps20
    go_wp2_with fail
    go_ret
    exact ⟨rfl, rfl⟩
end Go.Proofs.Ytndfhnaafaijcaa

/- CONTRACTS OF PACKAGE command: own, Of. (By gencd.py.) -/
set_option linter.unusedVariables false
namespace Go.Proofs.Ytndfhnaafaijcaa
open Go.RowKit
open Mem

theorem Ln.At.upd {w w' : World} {p b o : Nat} {r : Ln.T} (h : Ln.At w b o r) (k : Upd w p w') (hp : b ≠ p) : Ln.At w' b o r := by
  have hl := cell_lt h.c0
  exact ⟨by rw [k.cell _ _ hl hp]; exact h.c0, by rw [k.cell _ _ hl hp]; exact h.c1, by rw [k.cell _ _ hl hp]; exact h.c2, by rw [k.cell _ _ hl hp]; exact h.c3⟩
theorem Ln.Ls.upd {w w' : World} {p : Nat} {ao : Option Addr} {n cap : Nat} {rs : List Ln.T} (h : Ln.Ls w ao n cap rs) (k : Upd w p w') (hp : ∀ b off, ao = some ⟨b, off, none⟩ → b ≠ p) : Ln.Ls w' ao n cap rs := by
  refine ⟨h.len, h.fits, h.reach, h.nil, ?_, h.short⟩
  rcases h.seg with e | ⟨b, off, e, hc⟩
  · exact .inl e
  · exact .inr ⟨b, off, e, fun i hi => (hc i hi).upd k (hp b off e)⟩
theorem Ln.apart {ao : Option Addr} {B p : Nat} (h : ∀ ad, ao = some ad → ∃ g, ad = ⟨g, 0, none⟩ ∧ B ≤ g) (hp : p < B) : ∀ b off, ao = some ⟨b, off, none⟩ → b ≠ p := by
  intro b off e
  obtain ⟨g, h1, h2⟩ := h _ e
  cases h1
  omega
theorem Cm.IsF.upd {w u : World} {B q : Nat} {s : Cm.S} {v : Value} (h : Cm.IsF w B s v) (k : Upd w q u) (hq : q < B) : Cm.IsF u B s v := by
  obtain ⟨hi, hn⟩ := h
  refine ⟨?_, hn⟩
  cases hi with
  | none => exact .none
  | opn a b h1 h2 => exact .opn a b h1 h2
  | sht a h1 => exact .sht a h1
  | lvy a b c d e h1 h2 h3 h4 h5 => exact .lvy a b c d e h1 h2 h3 h4 h5
  | pst series y m d ls ao n cap h1 h2 h3 h4 h5 h6 => exact .pst series y m d ls ao n cap h1 h2 h3 h4 h5 (h6.upd k (Ln.apart hn hq))
  | crd a b c d e f h1 h2 h3 h4 h5 h6 => exact .crd a b c d e f h1 h2 h3 h4 h5 h6
  | jn => exact .jn
  | lv a h1 => exact .lv a h1
  | sk a h1 => exact .sk a h1
theorem Cm.keepP {c : Cm.T} {w u : World} (h : Below w.heap.size w u ∧ u.cell? ⟨w.heap.size, 1, none⟩ = some (.string c.series) ∧ u.cell? ⟨w.heap.size, 8, none⟩ = some (.int .i64 c.y) ∧ u.cell? ⟨w.heap.size, 9, none⟩ = some (.int .i64 c.m) ∧ u.cell? ⟨w.heap.size, 10, none⟩ = some (.int .i64 c.d) ∧ u.cell? ⟨w.heap.size, 11, none⟩ = some (.slice c.ao c.n c.cap)) (x : Value) : Below w.heap.size w (u.setCell ⟨w.heap.size + 1, 0, none⟩ x) ∧ (u.setCell ⟨w.heap.size + 1, 0, none⟩ x).cell? ⟨w.heap.size, 1, none⟩ = some (.string c.series) ∧ (u.setCell ⟨w.heap.size + 1, 0, none⟩ x).cell? ⟨w.heap.size, 8, none⟩ = some (.int .i64 c.y) ∧ (u.setCell ⟨w.heap.size + 1, 0, none⟩ x).cell? ⟨w.heap.size, 9, none⟩ = some (.int .i64 c.m) ∧ (u.setCell ⟨w.heap.size + 1, 0, none⟩ x).cell? ⟨w.heap.size, 10, none⟩ = some (.int .i64 c.d) ∧ (u.setCell ⟨w.heap.size + 1, 0, none⟩ x).cell? ⟨w.heap.size, 11, none⟩ = some (.slice c.ao c.n c.cap) := by
  obtain ⟨h0, h1, h2, h3, h4, h5⟩ := h
  refine ⟨bset h0 (Nat.le_succ _) _ _, ?_, ?_, ?_, ?_, ?_⟩
  all_goals simp [go_sem, h1, h2, h3, h4, h5]
theorem cmd_own (ao : Option Addr) (n cap : Nat) (ls : List Ln.T) (w : World) (hL : Ln.Ls w ao n cap ls) (hn : n ≤ 100000) :
    Calls Try.prog 30 #[.slice ao n cap] w fun e w' => (∃ v, e = .returned v ∧ Ln.Own w' w.heap.size v ls) ∧ Below w.heap.size w w' := by
  have HL := Lib.hid hL
  clear hL
  go_enter Try.func30, Try.ntmps30
  go_wp2_with (at_builtin; go_must (refine Ln.wpList_append _ rfl _ _ rfl w.heap.size (.slice none 0 0) [] rfl (Ln.own_nil w _) ao n cap ls rfl HL.out.len HL.out.nil HL.out.seg (by simp only [List.length_nil]; omega) (Nat.le_refl _) ?_))
  intro v1 y1 o1 gr1 _
  have HO := Lib.hid o1
  have HB := Lib.hid ((Below.refl w.heap.size w).grown gr1 (Nat.le_refl _) (fun k hk => by cases hk))
  clear o1 gr1
  go_wp2_with fail
  go_ret
  exact ⟨⟨v1, rfl, by simpa using HO.out⟩, HB.out⟩
/-- Of's answer to a kind -/
def ofE (k : Int) : Int := if 1 ≤ k ∧ k ≤ 8 then 0 else 17
theorem ofE_yes {k : Int} (h : 1 ≤ k ∧ k ≤ 8) : ofE k = 0 := if_pos h
theorem ofE_no {k : Int} (h : ¬ (1 ≤ k ∧ k ≤ 8)) : ofE k = 17 := if_neg h
/-- what the region of a Post reads: the flat command's box, and the answer's own place -/
structure Cm.BoxP (c : Cm.T) (u : World) (b : Nat) : Prop where
  c0 : u.cell? ⟨b, 0, none⟩ = some (.int .i64 4)
  c1 : u.cell? ⟨b, 1, none⟩ = some (.string c.series)
  c8 : u.cell? ⟨b, 8, none⟩ = some (.int .i64 c.y)
  c9 : u.cell? ⟨b, 9, none⟩ = some (.int .i64 c.m)
  c10 : u.cell? ⟨b, 10, none⟩ = some (.int .i64 c.d)
  c11 : u.cell? ⟨b, 11, none⟩ = some (.slice c.ao c.n c.cap)
  r0 : u.cell? ⟨b + 1, 0, none⟩ = some .nilIface
  rf : u.frozen? ⟨b + 1, 0, none⟩ = false
theorem Cm.BoxP.below {c : Cm.T} {u v : World} {b : Nat} (h : Cm.BoxP c u b) (k : Below u.heap.size u v) : Cm.BoxP c v b := by
  have l1 := cell_lt h.c1
  have l2 := cell_lt h.r0
  exact ⟨by rw [(bcell k).1 _ _ l1]; exact h.c0, by rw [(bcell k).1 _ _ l1]; exact h.c1, by rw [(bcell k).1 _ _ l1]; exact h.c8, by rw [(bcell k).1 _ _ l1]; exact h.c9, by rw [(bcell k).1 _ _ l1]; exact h.c10, by rw [(bcell k).1 _ _ l1]; exact h.c11, by rw [(bcell k).1 _ _ l2]; exact h.r0, by rw [(bcell k).2 _ _ l2]; exact h.rf⟩

theorem Cm.boxP (c : Cm.T) (w : World) : ∃ W, (w.alloc (.cells #[.int .i64 4, .string c.series, .int .i64 c.limit, .string c.cat, .int .i64 c.fy, .int .i64 c.fm, .int .i64 c.fd, .int .i64 c.bp, .int .i64 c.y, .int .i64 c.m, .int .i64 c.d, .slice c.ao c.n c.cap, .string c.ofs, .int .i64 c.ofn, .int .i64 c.session] 37)).alloc (.cells #[.nilIface] 25) = W ∧ Below w.heap.size w W ∧ W.heap.size = w.heap.size + 2 ∧ Cm.BoxP c W w.heap.size := by
  refine ⟨_, rfl, below_box (below_box (Below.refl _ _) _) _, by simp, ?_, ?_, ?_, ?_, ?_, ?_, ?_, ?_⟩
  all_goals simp [go_sem]
theorem of_1 (c : Cm.T) (ls : List Ln.T) (w : World) (hI : Cm.In w c ls) (hk : c.kind = 1) :
    Calls Try.prog 9 #[Cm.val c] w fun e w' => (∃ v, e = .returned (.tuple #[Cm.cv v, .int .i64 0]) ∧ Cm.IsF w' w.heap.size (Cm.S.opn c.series c.limit) v) ∧ Below w.heap.size w w' := by
  have HI : ∀ u, Hid (Cm.IsF u w.heap.size (Cm.S.opn c.series c.limit) (.iface 73 (.agg #[.string c.series, .int .i64 c.limit]))) := fun u => Lib.hid ⟨.opn c.series c.limit hI.s_series hI.f_limit, fun ad h => by cases h⟩
  clear hI
  unfold Cm.val
  rw [hk]
  go_enter Try.func9, Try.ntmps9
  go_wp2_with fail
  exact bodyPost_ret (v := .tuple #[Cm.cv (.iface 73 (.agg #[.string c.series, .int .i64 c.limit])), .int .i64 0]) (by simp [results, Cm.cv, Try.results9, go_sem]) rfl ⟨⟨_, rfl, (HI _).out⟩, below_box (below_box (Below.refl _ _) _) _⟩
theorem of_2 (c : Cm.T) (ls : List Ln.T) (w : World) (hI : Cm.In w c ls) (hk : c.kind = 2) :
    Calls Try.prog 9 #[Cm.val c] w fun e w' => (∃ v, e = .returned (.tuple #[Cm.cv v, .int .i64 0]) ∧ Cm.IsF w' w.heap.size (Cm.S.sht c.series) v) ∧ Below w.heap.size w w' := by
  have HI : ∀ u, Hid (Cm.IsF u w.heap.size (Cm.S.sht c.series) (.iface 75 (.agg #[.string c.series]))) := fun u => Lib.hid ⟨.sht c.series hI.s_series, fun ad h => by cases h⟩
  clear hI
  unfold Cm.val
  rw [hk]
  go_enter Try.func9, Try.ntmps9
  go_wp2_with fail
  exact bodyPost_ret (v := .tuple #[Cm.cv (.iface 75 (.agg #[.string c.series])), .int .i64 0]) (by simp [results, Cm.cv, Try.results9, go_sem]) rfl ⟨⟨_, rfl, (HI _).out⟩, below_box (below_box (Below.refl _ _) _) _⟩
theorem of_3 (c : Cm.T) (ls : List Ln.T) (w : World) (hI : Cm.In w c ls) (hk : c.kind = 3) :
    Calls Try.prog 9 #[Cm.val c] w fun e w' => (∃ v, e = .returned (.tuple #[Cm.cv v, .int .i64 0]) ∧ Cm.IsF w' w.heap.size (Cm.S.lvy c.cat c.fy c.fm c.fd c.bp) v) ∧ Below w.heap.size w w' := by
  have HI : ∀ u, Hid (Cm.IsF u w.heap.size (Cm.S.lvy c.cat c.fy c.fm c.fd c.bp) (.iface 77 (.agg #[.string c.cat, .int .i64 c.fy, .int .i64 c.fm, .int .i64 c.fd, .int .i64 c.bp]))) := fun u => Lib.hid ⟨.lvy c.cat c.fy c.fm c.fd c.bp hI.s_cat hI.f_fy hI.f_fm hI.f_fd hI.f_bp, fun ad h => by cases h⟩
  clear hI
  unfold Cm.val
  rw [hk]
  go_enter Try.func9, Try.ntmps9
  go_wp2_with fail
  exact bodyPost_ret (v := .tuple #[Cm.cv (.iface 77 (.agg #[.string c.cat, .int .i64 c.fy, .int .i64 c.fm, .int .i64 c.fd, .int .i64 c.bp])), .int .i64 0]) (by simp [results, Cm.cv, Try.results9, go_sem]) rfl ⟨⟨_, rfl, (HI _).out⟩, below_box (below_box (Below.refl _ _) _) _⟩
set_option maxHeartbeats 4000000 in
theorem of_4 (c : Cm.T) (ls : List Ln.T) (w : World) (hI : Cm.In w c ls) (hn : c.n ≤ 100000) (hk : c.kind = 4) :
    Calls Try.prog 9 #[Cm.val c] w fun e w' => (∃ v, e = .returned (.tuple #[Cm.cv v, .int .i64 0]) ∧ Cm.IsF w' w.heap.size (Cm.S.pst c.series c.y c.m c.d ls) v) ∧ Below w.heap.size w w' := by
  have HI := Lib.hid hI
  clear hI
  obtain ⟨W, hW, hBW, hsz, hP⟩ := Cm.boxP c w
  have HBW := Lib.hid hBW
  have HL := Lib.hid (HI.out.lines.below hBW)
  have HS := Lib.hid HI.out.lines.short
  have HLen := Lib.hid HI.out.lines.len
  obtain ⟨c0, c1, c8, c9, c10, c11, r0, rf⟩ := hP
  have HP := Lib.hid (Cm.BoxP.mk c0 c1 c8 c9 c10 c11 r0 rf)
  clear hBW
  unfold Cm.val
  rw [hk]
  go_enter Try.func9, Try.ntmps9
  go_wp2_with fail
  clear hW
  have hS0 : Below w.heap.size w W.drew ∧ W.drew.cell? ⟨w.heap.size, 1, none⟩ = some (.string c.series) ∧ W.drew.cell? ⟨w.heap.size, 8, none⟩ = some (.int .i64 c.y) ∧ W.drew.cell? ⟨w.heap.size, 9, none⟩ = some (.int .i64 c.m) ∧ W.drew.cell? ⟨w.heap.size, 10, none⟩ = some (.int .i64 c.d) ∧ W.drew.cell? ⟨w.heap.size, 11, none⟩ = some (.slice c.ao c.n c.cap) := ⟨HBW.out.drew, c1, c8, c9, c10, c11⟩
  go_region_held3 (fun u => Below w.heap.size w u ∧ u.cell? ⟨w.heap.size, 1, none⟩ = some (.string c.series) ∧ u.cell? ⟨w.heap.size, 8, none⟩ = some (.int .i64 c.y) ∧ u.cell? ⟨w.heap.size, 9, none⟩ = some (.int .i64 c.m) ∧ u.cell? ⟨w.heap.size, 10, none⟩ = some (.int .i64 c.d) ∧ u.cell? ⟨w.heap.size, 11, none⟩ = some (.slice c.ao c.n c.cap)) (first | assumption | exact Cm.keepP hS0 _) (first | (go_at_call 30; refine (cmd_own c.ao c.n c.cap ls _ (HI.out.lines.below hS0.1) hn).mono ?_; rintro e w' ⟨⟨v, rfl, ho⟩, b⟩; have P' := (HP.out.below (Below.refl _ _).drew).below b; obtain ⟨ao2, cap2, rfl, hls, hfr⟩ := Ln.own_ls ho HS.out; have hS0 : Below w.heap.size w w' ∧ w'.cell? ⟨w.heap.size, 1, none⟩ = some (.string c.series) ∧ w'.cell? ⟨w.heap.size, 8, none⟩ = some (.int .i64 c.y) ∧ w'.cell? ⟨w.heap.size, 9, none⟩ = some (.int .i64 c.m) ∧ w'.cell? ⟨w.heap.size, 10, none⟩ = some (.int .i64 c.d) ∧ w'.cell? ⟨w.heap.size, 11, none⟩ = some (.slice c.ao c.n c.cap) := ⟨bchain hS0.1 b, P'.c1, P'.c8, P'.c9, P'.c10, P'.c11⟩; have q0 := P'.r0; have qf := P'.rf; clear ho b P') | fail)
  go_wp2_with fail
  have hsz' : w.heap.size + 1 < W.drew.heap.size := by show w.heap.size + 1 < W.heap.size; omega
  refine bodyPost_ret (v := .tuple #[Cm.cv (.iface 49 (.agg #[.string c.series, .int .i64 c.y, .int .i64 c.m, .int .i64 c.d, .slice ao2 ls.length cap2])), .int .i64 0]) (by simp [results, Cm.cv, Try.results9, go_sem, q0]) rfl ⟨⟨_, rfl, ?_⟩, bset hS0.1 (Nat.le_succ _) _ _⟩
  exact ⟨.pst _ _ _ _ _ _ _ _ HI.out.s_series HI.out.f_y HI.out.f_m HI.out.f_d (by rw [← HLen.out]; exact hn) (hls.upd (Upd.set _) (Ln.apart hfr hsz')), fun ad h => by
    obtain ⟨g, h1, h2⟩ := hfr ad h
    exact ⟨g, h1, by omega⟩⟩
theorem of_5 (c : Cm.T) (ls : List Ln.T) (w : World) (hI : Cm.In w c ls) (hk : c.kind = 5) :
    Calls Try.prog 9 #[Cm.val c] w fun e w' => (∃ v, e = .returned (.tuple #[Cm.cv v, .int .i64 0]) ∧ Cm.IsF w' w.heap.size (Cm.S.crd c.series c.y c.m c.d c.ofs c.ofn) v) ∧ Below w.heap.size w w' := by
  have HI : ∀ u, Hid (Cm.IsF u w.heap.size (Cm.S.crd c.series c.y c.m c.d c.ofs c.ofn) (.iface 80 (.agg #[.string c.series, .int .i64 c.y, .int .i64 c.m, .int .i64 c.d, .string c.ofs, .int .i64 c.ofn]))) := fun u => Lib.hid ⟨.crd c.series c.y c.m c.d c.ofs c.ofn hI.s_series hI.f_y hI.f_m hI.f_d hI.s_ofs hI.f_ofn, fun ad h => by cases h⟩
  clear hI
  unfold Cm.val
  rw [hk]
  go_enter Try.func9, Try.ntmps9
  go_wp2_with fail
  exact bodyPost_ret (v := .tuple #[Cm.cv (.iface 80 (.agg #[.string c.series, .int .i64 c.y, .int .i64 c.m, .int .i64 c.d, .string c.ofs, .int .i64 c.ofn])), .int .i64 0]) (by simp [results, Cm.cv, Try.results9, go_sem]) rfl ⟨⟨_, rfl, (HI _).out⟩, below_box (below_box (Below.refl _ _) _) _⟩
theorem of_6 (c : Cm.T) (ls : List Ln.T) (w : World) (hI : Cm.In w c ls) (hk : c.kind = 6) :
    Calls Try.prog 9 #[Cm.val c] w fun e w' => (∃ v, e = .returned (.tuple #[Cm.cv v, .int .i64 0]) ∧ Cm.IsF w' w.heap.size (Cm.S.jn ) v) ∧ Below w.heap.size w w' := by
  have HI : ∀ u, Hid (Cm.IsF u w.heap.size (Cm.S.jn ) (.iface 82 (.agg #[]))) := fun u => Lib.hid ⟨.jn , fun ad h => by cases h⟩
  clear hI
  unfold Cm.val
  rw [hk]
  go_enter Try.func9, Try.ntmps9
  go_wp2_with fail
  exact bodyPost_ret (v := .tuple #[Cm.cv (.iface 82 (.agg #[])), .int .i64 0]) (by simp [results, Cm.cv, Try.results9, go_sem]) rfl ⟨⟨_, rfl, (HI _).out⟩, below_box (below_box (Below.refl _ _) _) _⟩
theorem of_7 (c : Cm.T) (ls : List Ln.T) (w : World) (hI : Cm.In w c ls) (hk : c.kind = 7) :
    Calls Try.prog 9 #[Cm.val c] w fun e w' => (∃ v, e = .returned (.tuple #[Cm.cv v, .int .i64 0]) ∧ Cm.IsF w' w.heap.size (Cm.S.lv c.session) v) ∧ Below w.heap.size w w' := by
  have HI : ∀ u, Hid (Cm.IsF u w.heap.size (Cm.S.lv c.session) (.iface 84 (.agg #[.int .i64 c.session]))) := fun u => Lib.hid ⟨.lv c.session hI.f_session, fun ad h => by cases h⟩
  clear hI
  unfold Cm.val
  rw [hk]
  go_enter Try.func9, Try.ntmps9
  go_wp2_with fail
  exact bodyPost_ret (v := .tuple #[Cm.cv (.iface 84 (.agg #[.int .i64 c.session])), .int .i64 0]) (by simp [results, Cm.cv, Try.results9, go_sem]) rfl ⟨⟨_, rfl, (HI _).out⟩, below_box (below_box (Below.refl _ _) _) _⟩
theorem of_8 (c : Cm.T) (ls : List Ln.T) (w : World) (hI : Cm.In w c ls) (hk : c.kind = 8) :
    Calls Try.prog 9 #[Cm.val c] w fun e w' => (∃ v, e = .returned (.tuple #[Cm.cv v, .int .i64 0]) ∧ Cm.IsF w' w.heap.size (Cm.S.sk c.series) v) ∧ Below w.heap.size w w' := by
  have HI : ∀ u, Hid (Cm.IsF u w.heap.size (Cm.S.sk c.series) (.iface 85 (.agg #[.string c.series]))) := fun u => Lib.hid ⟨.sk c.series hI.s_series, fun ad h => by cases h⟩
  clear hI
  unfold Cm.val
  rw [hk]
  go_enter Try.func9, Try.ntmps9
  go_wp2_with fail
  exact bodyPost_ret (v := .tuple #[Cm.cv (.iface 85 (.agg #[.string c.series])), .int .i64 0]) (by simp [results, Cm.cv, Try.results9, go_sem]) rfl ⟨⟨_, rfl, (HI _).out⟩, below_box (below_box (Below.refl _ _) _) _⟩
theorem of_no (c : Cm.T) (w : World) (hk : ¬ (1 ≤ c.kind ∧ c.kind ≤ 8)) :
    Calls Try.prog 9 #[Cm.val c] w fun e w' => e = .returned (.tuple #[Cm.cv .nilIface, .int .i64 17]) ∧ Below w.heap.size w w' := by
  have k1 : (c.kind == 1) = false := beq_eq_false_iff_ne.2 (by omega)
  have k2 : (c.kind == 2) = false := beq_eq_false_iff_ne.2 (by omega)
  have k3 : (c.kind == 3) = false := beq_eq_false_iff_ne.2 (by omega)
  have k4 : (c.kind == 4) = false := beq_eq_false_iff_ne.2 (by omega)
  have k5 : (c.kind == 5) = false := beq_eq_false_iff_ne.2 (by omega)
  have k6 : (c.kind == 6) = false := beq_eq_false_iff_ne.2 (by omega)
  have k7 : (c.kind == 7) = false := beq_eq_false_iff_ne.2 (by omega)
  have k8 : (c.kind == 8) = false := beq_eq_false_iff_ne.2 (by omega)
  unfold Cm.val
  go_enter Try.func9, Try.ntmps9
  go_wp2_with fail
  exact bodyPost_ret (v := .tuple #[Cm.cv .nilIface, .int .i64 17]) (by simp [results, Cm.cv, Try.results9, go_sem]) rfl ⟨rfl, below_box (below_box (Below.refl _ _) _) _⟩
theorem of_any (c : Cm.T) (ls : List Ln.T) (w : World) (hI : Cm.In w c ls) (hn : c.n ≤ 100000) :
    Calls Try.prog 9 #[Cm.val c] w fun e w' => (∃ v, e = .returned (.tuple #[Cm.cv v, .int .i64 (ofE c.kind)]) ∧ Cm.IsF w' w.heap.size (c.sem ls).bare v) ∧ Below w.heap.size w w' := by
  by_cases hk : 1 ≤ c.kind ∧ c.kind ≤ 8
  · rw [ofE_yes hk]
    rcases Cm.kinds hk.1 hk.2 with h | h | h | h | h | h | h | h
    · have e : (c.sem ls).bare = Cm.S.opn c.series c.limit := by
        simp [Cm.T.sem, Cm.S.bare, h, Cm.S.opn]
      rw [e]
      exact of_1 c ls w hI h
    · have e : (c.sem ls).bare = Cm.S.sht c.series := by
        simp [Cm.T.sem, Cm.S.bare, h, Cm.S.sht]
      rw [e]
      exact of_2 c ls w hI h
    · have e : (c.sem ls).bare = Cm.S.lvy c.cat c.fy c.fm c.fd c.bp := by
        simp [Cm.T.sem, Cm.S.bare, h, Cm.S.lvy]
      rw [e]
      exact of_3 c ls w hI h
    · have e : (c.sem ls).bare = Cm.S.pst c.series c.y c.m c.d ls := by
        simp [Cm.T.sem, Cm.S.bare, h, Cm.S.pst]
      rw [e]
      exact of_4 c ls w hI hn h
    · have e : (c.sem ls).bare = Cm.S.crd c.series c.y c.m c.d c.ofs c.ofn := by
        simp [Cm.T.sem, Cm.S.bare, h, Cm.S.crd]
      rw [e]
      exact of_5 c ls w hI h
    · have e : (c.sem ls).bare = Cm.S.jn  := by
        simp [Cm.T.sem, Cm.S.bare, h, Cm.S.jn]
      rw [e]
      exact of_6 c ls w hI h
    · have e : (c.sem ls).bare = Cm.S.lv c.session := by
        simp [Cm.T.sem, Cm.S.bare, h, Cm.S.lv]
      rw [e]
      exact of_7 c ls w hI h
    · have e : (c.sem ls).bare = Cm.S.sk c.series := by
        simp [Cm.T.sem, Cm.S.bare, h, Cm.S.sk]
      rw [e]
      exact of_8 c ls w hI h
  · rw [ofE_no hk]
    have e : (c.sem ls).bare = Cm.S.zero := by
      show (if c.kind = 1 then _ else _) = _
      rw [if_neg (by omega), if_neg (by show ¬ c.kind = 2; omega), if_neg (by show ¬ c.kind = 3; omega), if_neg (by show ¬ c.kind = 4; omega), if_neg (by show ¬ c.kind = 5; omega), if_neg (by show ¬ c.kind = 6; omega), if_neg (by show ¬ c.kind = 7; omega), if_neg (by show ¬ c.kind = 8; omega)]
    rw [e]
    exact (of_no c w hk).mono fun e w' ⟨he, hb⟩ => ⟨⟨_, he, .none, fun ad h => by cases h⟩, hb⟩
end Go.Proofs.Ytndfhnaafaijcaa

/- CONTRACTS OF PACKAGE command: MustPost. -/
set_option linter.unusedVariables false
namespace Go.Proofs.Ytndfhnaafaijcaa
open Go.RowKit
open Mem

/-- a Post's own place -/
structure PostAt (u : World) (b : Nat) (series : ByteArray) (y m d : Int) (lv : Value) : Prop where
  c0 : u.cell? ⟨b, 0, none⟩ = some (.string series)
  c1 : u.cell? ⟨b, 1, none⟩ = some (.int .i64 y)
  c2 : u.cell? ⟨b, 2, none⟩ = some (.int .i64 m)
  c3 : u.cell? ⟨b, 3, none⟩ = some (.int .i64 d)
  c4 : u.cell? ⟨b, 4, none⟩ = some lv
  fz : ∀ o, u.frozen? ⟨b, o, none⟩ = false
theorem PostAt.below {u v : World} {b : Nat} {series : ByteArray} {y m d : Int} {lv : Value} (h : PostAt u b series y m d lv) (k : Below u.heap.size u v) : PostAt v b series y m d lv := by
  have hl := cell_lt h.c0
  exact ⟨by rw [(bcell k).1 _ _ hl]; exact h.c0, by rw [(bcell k).1 _ _ hl]; exact h.c1, by rw [(bcell k).1 _ _ hl]; exact h.c2, by rw [(bcell k).1 _ _ hl]; exact h.c3, by rw [(bcell k).1 _ _ hl]; exact h.c4, fun o => by rw [(bcell k).2 _ _ hl]; exact h.fz o⟩
theorem must_boxes (w u : World) (v : Value) (series : ByteArray) (y m d : Int) (lv : Value)
    (h : Below ((((w.alloc (.cells #[v] 25)).alloc (.cells #[.string .empty, .int .i64 0, .int .i64 0, .int .i64 0, .slice none 0 0] 49)).alloc (.cells #[v] 25)).alloc (.cells #[.string series, .int .i64 y, .int .i64 m, .int .i64 d, lv] 49)).heap.size ((((w.alloc (.cells #[v] 25)).alloc (.cells #[.string .empty, .int .i64 0, .int .i64 0, .int .i64 0, .slice none 0 0] 49)).alloc (.cells #[v] 25)).alloc (.cells #[.string series, .int .i64 y, .int .i64 m, .int .i64 d, lv] 49)) u) :
    Below w.heap.size w u ∧ PostAt u (w.heap.size + 1) .empty 0 0 0 (.slice none 0 0) ∧ PostAt u (w.heap.size + 3) series y m d lv := by
  refine ⟨bchain (below_box (below_box (below_box (below_box (Below.refl _ _) _) _) _) _) h, PostAt.below (u := _) ?_ h, PostAt.below (u := _) ?_ h⟩
  · exact ⟨by simp [go_sem], by simp [go_sem], by simp [go_sem], by simp [go_sem], by simp [go_sem], fun o => by simp [go_sem]⟩
  · exact ⟨by simp [go_sem], by simp [go_sem], by simp [go_sem], by simp [go_sem], by simp [go_sem], fun o => by simp [go_sem]⟩
set_option maxHeartbeats 2000000 in
theorem must_ok (s : Cm.S) (v : Value) (w : World) (h : Cm.Is w s v) (hk : s.kind = 4) :
    Calls Try.prog 15 #[Cm.cv v] w fun e w' => (∃ ao cap, e = .returned (.agg #[.string s.series, .int .i64 s.y, .int .i64 s.m, .int .i64 s.d, .slice ao s.lines.length cap]) ∧ Ln.Ls w' ao s.lines.length cap s.lines) ∧ Below w.heap.size w w' := by
  cases h with
  | pst series y m d ls ao n cap h_series h_y h_m h_d h_n h_lines =>
    have HL := Lib.hid h_lines
    have a_Post := must_Post
    have HI : ∀ u, Below w.heap.size w u → Cm.Is u (Cm.S.pst series y m d ls) (.iface 49 (.agg #[.string series, .int .i64 y, .int .i64 m, .int .i64 d, .slice ao n cap])) := fun u hu => .pst series y m d ls ao n cap h_series h_y h_m h_d h_n (h_lines.below hu)
    clear h_lines
    show Calls Try.prog 15 #[Cm.cv _] w fun e w' => (∃ ao cap, e = .returned (.agg #[.string series, .int .i64 y, .int .i64 m, .int .i64 d, .slice ao ls.length cap]) ∧ Ln.Ls w' ao ls.length cap ls) ∧ Below w.heap.size w w'
    unfold Cm.cv
    go_enter Try.func15, Try.ntmps15
    go_wp2_with fail
    refine (cmd_kind _ _ _ (HI _ (below_box (below_box (Below.refl _ _) _) _))).mono ?_
    rintro e w1 ⟨rfl, rfl⟩
    rw [show (Cm.S.pst series y m d ls).kind = 4 from rfl]
    clear HI hk
    go_wp2_with fail
    refine (cmd_own ao n cap ls _ (HL.out.below (below_box (below_box (below_box (below_box (Below.refl _ _) _) _) _) _)) h_n).mono ?_
    rintro e w2 ⟨⟨sv, rfl, ho⟩, b⟩
    obtain ⟨ao2, cap2, rfl, hls, hfr⟩ := Ln.own_ls ho HL.out.short
    obtain ⟨hb, hA, hC⟩ := must_boxes w w2 _ _ _ _ _ _ b
    have HLs := Lib.hid hls
    have HFr := Lib.hid hfr
    have HB := Lib.hid hb
    clear b ho hls hfr hb
    obtain ⟨a0, a1, a2, a3, a4, af⟩ := hA
    obtain ⟨c0, c1, c2, c3, c4, cf⟩ := hC
    go_wp2_with fail
    have e1 : ∀ b off, ao2 = some ⟨b, off, none⟩ → b ≠ w.heap.size + 1 + 1 + 1 := Ln.apart HFr.out (by simp)
    have e2 : ∀ b off, ao2 = some ⟨b, off, none⟩ → b ≠ w.heap.size + 1 := Ln.apart HFr.out (by simp)
    refine bodyPost_ret (v := .agg #[.string series, .int .i64 y, .int .i64 m, .int .i64 d, .slice ao2 ls.length cap2]) (by simp [results, Try.results15, go_sem, a0, a1, a2, a3, a4]) rfl ⟨⟨ao2, cap2, rfl, ?_⟩, ?_⟩
    · exact (((((HLs.out.upd (Upd.set _) e1).upd (Upd.set _) e2).upd (Upd.set _) e2).upd (Upd.set _) e2).upd (Upd.set _) e2).upd (Upd.set _) e2
    · exact bset (bset (bset (bset (bset (bset HB.out (by omega) _ _) (by omega) _ _) (by omega) _ _) (by omega) _ _) (by omega) _ _) (by omega) _ _
  | _ => cases hk
set_option maxHeartbeats 2000000 in
theorem must_no (s : Cm.S) (v : Value) (w : World) (h : Cm.Is w s v) (hk : s.kind ≠ 4) :
    Calls Try.prog 15 #[Cm.cv v] w fun e w' => e = .panicked [{ v := .iface 45 (.agg #[.int .i64 4, .int .i64 s.kind]), recovered := false }] ∧ Below w.heap.size w w' := by
  have HI := Lib.hid h
  have q : (s.kind != 4) = true := bne_iff_ne.2 hk
  have h1 := h.oneCell
  clear h
  unfold Cm.cv
  go_enter Try.func15, Try.ntmps15
  go_wp2_with fail
  refine (cmd_kind _ _ _ (HI.out.below (below_box (below_box (Below.refl _ _) _) _))).mono ?_
  rintro e w1 ⟨rfl, rfl⟩
  go_wp2_with fail
  exact ⟨rfl, rfl, below_box (below_box (below_box (Below.refl _ _) _) _) _⟩
end Go.Proofs.Ytndfhnaafaijcaa
