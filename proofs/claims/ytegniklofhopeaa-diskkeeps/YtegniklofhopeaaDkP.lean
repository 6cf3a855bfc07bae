/- PLAIN LEAN: a disk (chapter 16); no Go walked here. -/
import Derived.Test.YtegniklofhopeaaVt
set_option linter.unusedVariables false
namespace Go.Proofs.Ytegniklofhopeaa.Dk

/-- a file -/
structure F where
  name : ByteArray
  bs : List UInt8
  kept : Nat
/-- a disk; left below 0: any number of changes -/
structure D where
  fs : List F
  off : Bool
  left : Int
def lt (a b : ByteArray) : Bool := Op.bytesLess a.toList b.toList
theorem lt_trans {a b c : ByteArray} (h : lt a b = true) (k : lt b c = true) : lt a c = true := Vt.less_trans _ _ _ h k
theorem lt_irrefl (a : ByteArray) : lt a a = false := Vt.less_irrefl _
theorem lt_tri (a b : ByteArray) : lt a b = true ∨ a = b ∨ lt b a = true := by
  rcases Vt.less_tri a.toList b.toList with h | h | h
  · exact .inl h
  · exact .inr (.inl (Vt.cat_ext h))
  · exact .inr (.inr h)
theorem lt_ne {a b : ByteArray} (h : lt a b = true) : a ≠ b := by
  intro e
  rw [e, lt_irrefl] at h
  cases h
theorem lt_asymm {a b : ByteArray} (h : lt a b = true) : lt b a = false := by
  rw [Bool.eq_false_iff]
  intro k
  have := lt_trans h k
  rw [lt_irrefl] at this
  cases this
def Sorted (l : List F) : Prop := l.Pairwise fun a b => lt a.name b.name = true
/-- how many files stand ahead of a name -/
def spot (s : ByteArray) : List F → Nat
  | [] => 0
  | f :: l => if lt f.name s = true then spot s l + 1 else 0
theorem spot_le (s : ByteArray) : ∀ l : List F, spot s l ≤ l.length
  | [] => Nat.le_refl _
  | f :: l => by
    have := spot_le s l
    rw [spot, List.length_cons]
    split <;> omega
/-- ahead of the spot all names are less, from it on none is -/
theorem spot_iff (s : ByteArray) : ∀ (l : List F), Sorted l → ∀ i (hi : i < l.length), lt l[i].name s = true ↔ i < spot s l
  | f :: l, h, 0, _ => by
    show lt f.name s = true ↔ _
    rw [spot]
    split
    · rename_i k
      exact ⟨fun _ => Nat.succ_pos _, fun _ => k⟩
    · rename_i k
      exact ⟨fun z => absurd z k, fun z => absurd z (Nat.not_lt_zero _)⟩
  | f :: l, h, i + 1, hi => by
    have hs := List.pairwise_cons.1 h
    have hi' : i < l.length := by simpa using hi
    have ih := spot_iff s l hs.2 i hi'
    show lt l[i].name s = true ↔ _
    rw [spot]
    split
    · rw [ih]
      omega
    · rename_i k
      constructor
      · intro z
        exact absurd (lt_trans (hs.1 _ (List.getElem_mem hi')) z) k
      · intro z
        exact absurd z (Nat.not_lt_zero _)
/-- is there a file of that name? -/
def has (s : ByteArray) (l : List F) : Bool := l.any fun f => decide (f.name = s)
theorem has_iff {s : ByteArray} {l : List F} : has s l = true ↔ ∃ i, ∃ hi : i < l.length, l[i].name = s := by
  unfold has
  rw [List.any_eq_true]
  constructor
  · rintro ⟨f, hf, h⟩
    obtain ⟨i, hi, rfl⟩ := List.getElem_of_mem hf
    exact ⟨i, hi, of_decide_eq_true h⟩
  · rintro ⟨i, hi, h⟩
    exact ⟨l[i], List.getElem_mem hi, decide_eq_true h⟩
theorem has_spot {s : ByteArray} {l : List F} (hs : Sorted l) : has s l = true ↔ ∃ h : spot s l < l.length, l[spot s l].name = s := by
  rw [has_iff]
  constructor
  · rintro ⟨i, hi, h⟩
    have e : spot s l = i := by
      have h1 := spot_iff s l hs i hi
      rw [h, lt_irrefl] at h1
      have h2 : ¬ i < spot s l := fun z => by cases h1.2 z
      rcases Nat.lt_or_ge (spot s l) i with k | k
      · exfalso
        have hk : spot s l < l.length := by omega
        have h3 := spot_iff s l hs _ hk
        have h4 := List.pairwise_iff_getElem.1 hs (spot s l) i hk hi k
        rw [h] at h4
        exact absurd (h3.1 h4) (Nat.lt_irrefl _)
      · omega
    exact ⟨by omega, by simp only [e]; exact h⟩
  · rintro ⟨h1, h2⟩
    exact ⟨_, h1, h2⟩
theorem spot_lt {s : ByteArray} {l : List F} (hs : Sorted l) (h : has s l = true) : spot s l < l.length := (has_spot hs).1 h |>.1
theorem spot_name {s : ByteArray} {l : List F} (hs : Sorted l) (h : has s l = true) : (l[spot s l]'(spot_lt hs h)).name = s := ((has_spot hs).1 h).2
/-- .. and no other one bears it -/
theorem one_name {s : ByteArray} {l : List F} (hs : Sorted l) {i : Nat} (hi : i < l.length) (h : l[i].name = s) : i = spot s l := by
  have hh : has s l = true := has_iff.2 ⟨i, hi, h⟩
  have h1 := spot_lt hs hh
  have h2 := spot_name hs hh
  rcases Nat.lt_trichotomy i (spot s l) with k | k | k
  · have := List.pairwise_iff_getElem.1 hs i (spot s l) hi h1 k
    rw [h, h2, lt_irrefl] at this
    cases this
  · exact k
  · have := List.pairwise_iff_getElem.1 hs (spot s l) i h1 hi k
    rw [h, h2, lt_irrefl] at this
    cases this
theorem not_at {s : ByteArray} {l : List F} (hs : Sorted l) (h : has s l = false) {i : Nat} (hi : i < l.length) (k : spot s l ≤ i) : lt s l[i].name = true := by
  rcases lt_tri s l[i].name with z | z | z
  · exact z
  · have := has_iff.2 ⟨i, hi, z.symm⟩
    rw [h] at this
    cases this
  · have := (spot_iff s l hs i hi).1 z
    omega
/-- a file put in its place -/
def ins (f : F) (l : List F) : List F := l.take (spot f.name l) ++ f :: l.drop (spot f.name l)
def put (f : F) (l : List F) : List F := if has f.name l = true then l.set (spot f.name l) f else ins f l
def del (s : ByteArray) (l : List F) : List F := l.take (spot s l) ++ l.drop (spot s l + 1)
/-- the file of that name, or an empty one -/
def own (s : ByteArray) (l : List F) : F := if has s l = true then (l[spot s l]?).getD ⟨s, [], 0⟩ else ⟨s, [], 0⟩
theorem own_at {s : ByteArray} {l : List F} (hs : Sorted l) (h : has s l = true) : own s l = l[spot s l]'(spot_lt hs h) := by
  unfold own
  rw [if_pos h, List.getElem?_eq_getElem (spot_lt hs h)]
  rfl
theorem own_no {s : ByteArray} {l : List F} (h : has s l = false) : own s l = ⟨s, [], 0⟩ := if_neg (by rw [h]; exact Bool.false_ne_true)
theorem own_name {s : ByteArray} {l : List F} (hs : Sorted l) : (own s l).name = s := by
  cases h : has s l
  · rw [own_no h]
  · rw [own_at hs h]
    exact spot_name hs h
theorem ins_sorted {f : F} {l : List F} (hs : Sorted l) (h : has f.name l = false) : Sorted (ins f l) := by
  unfold ins Sorted
  rw [List.pairwise_append]
  refine ⟨hs.sublist (List.take_sublist _ _), List.pairwise_cons.2 ⟨fun x hx => ?_, hs.sublist (List.drop_sublist _ _)⟩, fun x hx y hy => ?_⟩
  · obtain ⟨i, hi, rfl⟩ := List.getElem_of_mem hx
    rw [List.length_drop] at hi
    rw [List.getElem_drop]
    exact not_at hs h (by omega) (by omega)
  · obtain ⟨i, hi, rfl⟩ := List.getElem_of_mem hx
    rw [List.length_take] at hi
    rw [List.getElem_take]
    have h1 := (spot_iff f.name l hs i (by omega)).2 (by omega)
    rcases List.mem_cons.1 hy with rfl | hy
    · exact h1
    · obtain ⟨j, hj, rfl⟩ := List.getElem_of_mem hy
      rw [List.length_drop] at hj
      rw [List.getElem_drop]
      exact List.pairwise_iff_getElem.1 hs i _ (by omega) (by omega) (by omega)
theorem set_sorted {f : F} {l : List F} (hs : Sorted l) {i : Nat} (hi : i < l.length) (h : l[i].name = f.name) : Sorted (l.set i f) := by
  unfold Sorted
  rw [List.pairwise_iff_getElem]
  intro a b ha hb hab
  rw [List.length_set] at ha hb
  have h1 := List.pairwise_iff_getElem.1 hs a b ha hb hab
  rw [List.getElem_set, List.getElem_set]
  by_cases e1 : i = a
  · subst e1
    rw [if_pos rfl, if_neg (by omega)]
    rw [h] at h1
    exact h1
  · rw [if_neg e1]
    by_cases e2 : i = b
    · subst e2
      rw [if_pos rfl]
      rw [h] at h1
      exact h1
    · rw [if_neg e2]
      exact h1
theorem put_sorted {f : F} {l : List F} (hs : Sorted l) : Sorted (put f l) := by
  unfold put
  split
  · rename_i h
    exact set_sorted hs (spot_lt hs h) (spot_name hs h)
  · rename_i h
    exact ins_sorted hs (Bool.eq_false_iff.2 h)
theorem del_sorted {s : ByteArray} {l : List F} (hs : Sorted l) : Sorted (del s l) := by
  unfold del
  have e : (l.take (spot s l) ++ l.drop (spot s l + 1)).Sublist l := by
    conv => rhs; rw [← List.take_append_drop (spot s l) l]
    refine List.Sublist.append (List.Sublist.refl _) ?_
    rw [← List.drop_drop]
    exact List.drop_sublist _ _
  exact hs.sublist e
/-! ### names, sizes -/
def nameOk (s : ByteArray) : Bool := decide (1 ≤ s.size ∧ s.size ≤ 24) && (txt s).all fun c => decide (33 ≤ c.toNat ∧ c.toNat ≤ 126)
def total : List F → Nat
  | [] => 0
  | f :: l => f.bs.length + total l
theorem total_app (l m : List F) : total (l ++ m) = total l + total m := by
  induction l with
  | nil => simp [total]
  | cons f l ih => rw [List.cons_append, total, total, ih]; omega
theorem total_mem {f : F} {l : List F} (h : f ∈ l) : f.bs.length ≤ total l := by
  induction l with
  | nil => cases h
  | cons g l ih =>
    rw [total]
    rcases List.mem_cons.1 h with rfl | h
    · omega
    · have := ih h
      omega
theorem total_set {l : List F} {i : Nat} (hi : i < l.length) (f : F) : total (l.set i f) + l[i].bs.length = total l + f.bs.length := by
  have h1 : l = l.take i ++ l[i] :: l.drop (i + 1) := by rw [← List.drop_eq_getElem_cons hi, List.take_append_drop]
  have h2 : l.set i f = l.take i ++ f :: l.drop (i + 1) := List.set_eq_take_append_cons_drop.trans (if_pos hi)
  have e1 : total l = total (l.take i ++ l[i] :: l.drop (i + 1)) := congrArg total h1
  rw [h2, e1, total_app, total_app, total, total]
  omega
theorem total_ins (f : F) (l : List F) : total (ins f l) = total l + f.bs.length := by
  unfold ins
  have e1 : total l = total (l.take (spot f.name l) ++ l.drop (spot f.name l)) := congrArg total (List.take_append_drop _ _).symm
  rw [e1, total_app, total_app, total]
  omega
theorem total_del {s : ByteArray} {l : List F} (h : spot s l < l.length) : total (del s l) + l[spot s l].bs.length = total l := by
  unfold del
  have e1 : total l = total (l.take (spot s l) ++ l[spot s l] :: l.drop (spot s l + 1)) := by rw [← List.drop_eq_getElem_cons h, List.take_append_drop]
  rw [e1, total_app, total_app, total]
  omega
/-! ### a disk that can be -/
structure Ok (d : D) : Prop where
  sorted : Sorted d.fs
  kept : ∀ f ∈ d.fs, f.kept ≤ f.bs.length
  room : total d.fs ≤ 4194304
  names : ∀ f ∈ d.fs, f.name.size ≤ 24
  left : -1 ≤ d.left ∧ d.left ≤ 9223372036854775807
def new : D := ⟨[], false, -1⟩
theorem ok_new : Ok new := ⟨List.Pairwise.nil, fun f h => (by cases h), (by show (0 : Nat) ≤ _; omega), fun f h => (by cases h), ⟨by show (-1 : Int) ≤ -1; omega, by show (-1 : Int) ≤ _; omega⟩⟩
/-! ### the changes -/
def dec (x : Int) : Int := if 0 < x then x - 1 else x
def spent (d : D) : D := ⟨d.fs, d.off, dec d.left⟩
def down (d : D) : D := ⟨d.fs, true, d.left⟩
def with' (d : D) (fs : List F) : D := ⟨fs, d.off, dec d.left⟩
def appD (d : D) (s : ByteArray) (p : List UInt8) : Int × D :=
  if d.off = true then (18, d) else if nameOk s = false then (19, d) else if 4194304 < total d.fs + p.length then (14, d) else if d.left = 0 then (18, down d) else
  (0, with' d (put ⟨s, (own s d.fs).bs ++ p, (own s d.fs).kept⟩ d.fs))
def syncD (d : D) (s : ByteArray) : Int × D :=
  if d.off = true then (18, d) else if has s d.fs = false then (11, d) else if d.left = 0 then (18, down d) else
  (0, with' d (put ⟨s, (own s d.fs).bs, (own s d.fs).bs.length⟩ d.fs))
def cutD (d : D) (s : ByteArray) (n : Int) : Int × D :=
  if d.off = true then (18, d) else if has s d.fs = false then (11, d) else if n < 0 ∨ ((own s d.fs).bs.length : Int) < n then (1, d) else if d.left = 0 then (18, down d) else
  (0, with' d (put ⟨s, (own s d.fs).bs.take n.toNat, min (own s d.fs).kept n.toNat⟩ d.fs))
def renD (d : D) (s t : ByteArray) : Int × D :=
  if d.off = true then (18, d) else if nameOk t = false then (19, d) else if has s d.fs = false then (11, d) else if d.left = 0 then (18, down d) else
  (0, with' d (put ⟨t, (own s d.fs).bs, (own s d.fs).kept⟩ (del s d.fs)))
def remD (d : D) (s : ByteArray) : Int × D :=
  if d.off = true then (18, d) else if has s d.fs = false then (11, d) else if d.left = 0 then (18, down d) else (0, with' d (del s d.fs))
def armD (d : D) (n : Int) : D := ⟨d.fs, d.off, if n < 0 then -1 else n⟩
def flip (b : List UInt8) : List UInt8 := b.set (b.length - 1) (b.getLast?.getD 0 ^^^ 255)
def tear (f : F) (p : Nat) : F :=
  let u := f.bs.length - f.kept
  let k := p % (u + 1)
  let b := f.bs.take (f.kept + k)
  let c := if 0 < k ∧ p / (u + 1) % 2 = 1 then flip b else b
  ⟨f.name, c, c.length⟩
def pick (l : List Int) (i : Nat) : Nat := ((l[i]?).getD 0).toNat
def crashD (d : D) (picks : List Int) : D := ⟨d.fs.mapIdx fun i f => tear f (pick picks i), false, -1⟩
theorem dec_ok {x : Int} (h : -1 ≤ x ∧ x ≤ 9223372036854775807) : -1 ≤ dec x ∧ dec x ≤ 9223372036854775807 := by
  unfold dec
  split <;> omega
end Go.Proofs.Ytegniklofhopeaa.Dk
