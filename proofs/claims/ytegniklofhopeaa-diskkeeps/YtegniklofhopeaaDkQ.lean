/- A DISK AS THE LAWS USE IT: what they make and do to it; the chapter's runs. -/
import Derived.Test.YtegniklofhopeaaDkZ
import Derived.Test.YtegniklofhopeaaByB
set_option maxRecDepth 100000
set_option linter.unusedVariables false
namespace Go.Proofs.Ytegniklofhopeaa
open Go.RowKit
open Mem Dk

/-- a disk that a law holds: it lies in blocks that are newer than the law's own world -/
structure Dk.S (P : Nat → Prop) (w0 W : World) (p : Nat) (d : D) : Prop where
  dsk : Dsk P W p d
  sub : ∀ b, P b → w0.heap.size ≤ b
  bel : Below w0.heap.size w0 W
section
variable {P : Nat → Prop} {w0 w u : World} {p : Nat} {d : D}
theorem Dk.S.later (h : S P w0 w p d) (k : Below w.heap.size w u) : S P w0 u p d := ⟨h.dsk.below k, h.sub, bchain h.bel k⟩
theorem Dk.S.tight (h : S P w0 w p d) : S (fun b => P b ∧ b < w.heap.size) w0 w p d := ⟨h.dsk.lt, fun b z => h.sub b z.1, h.bel⟩
theorem Dk.S.free (h : S P w0 w p d) : S (fun b => w0.heap.size ≤ b) w0 w p d := ⟨h.dsk.mono h.sub, fun b z => z, h.bel⟩
theorem Dk.S.op {x : Int × D} {e : Ending} {w' : World} (h : S P w0 w p d) (k : OpE P w p x e w') : e = .returned (.int .i64 x.1) ∧ S (nw P w) w0 w' p x.2 ∧ UpdQ P w w' :=
  ⟨k.1, ⟨k.2.1, fun b z => z.elim (h.sub b) fun z => Nat.le_trans h.bel.size z, k.2.2.below w0 h.bel h.sub⟩, k.2.2⟩
theorem s_new (w : World) : Calls Try.prog 6 #[] w fun e w' => ∃ p, e = .returned (.pointer (some ⟨p, 0, none⟩)) ∧ S (fun b => w.heap.size ≤ b) w w' p Dk.new := by
  refine (dk_new w w (Below.refl _ _)).mono ?_
  rintro e w' ⟨p, rfl, h, b⟩
  exact ⟨p, rfl, h, fun b z => z, b⟩
theorem s_append (h : S P w0 w p d) (s : ByteArray) (hs : s.size ≤ 9223372036854775807) (ao : Option Addr) (n cap : Nat) (zs : List UInt8) (hL : By.Ls w ao n cap zs) (hap : zs ≠ [] → ∀ ad, ao = some ad → ¬ P ad.block) (few : d.fs.length < 1000) :
    Calls Try.prog 11 #[.pointer (some ⟨p, 0, none⟩), .string s, .slice ao n cap] w fun e w' => e = .returned (.int .i64 (appD d s zs).1) ∧ S (nw P w) w0 w' p (appD d s zs).2 ∧ UpdQ P w w' := by
  obtain ⟨v, L, rs, k⟩ := h.dsk
  refine (dk_append k s hs ao n cap zs hL hap few).mono ?_
  exact fun e w' z => h.op z
/-- of bytes that were made just now -/
theorem s_append_new (h : S P w0 w p d) (s : ByteArray) (hs : s.size ≤ 9223372036854775807) (zs : List UInt8) (n : Nat) (hn : n = zs.length) (hm : n ≤ 1000) (few : d.fs.length < 1000) (cs : Array Value) (hcs : cs = (zs.map By.bv).toArray) :
    Calls Try.prog 11 #[.pointer (some ⟨p, 0, none⟩), .string s, .slice (some ⟨w.heap.size, 0, none⟩) n n] (w.alloc (.cells cs 5)) fun e w' => e = .returned (.int .i64 (appD d s zs).1) ∧ S (fun b => w0.heap.size ≤ b) w0 w' p (appD d s zs).2 := by
  subst hn hcs
  have k : Below w.heap.size w (w.alloc (.cells (zs.map By.bv).toArray 5)) := (Below.refl _ _).alloc (Nat.le_refl _) _
  have hb : By.Block (w.alloc (.cells (zs.map By.bv).toArray 5)) w.heap.size zs := heap_alloc_new w _
  refine (s_append (h.tight.later k) s hs _ _ _ zs (hb.ls (by omega)) (fun _ ad e z => ?_) few).mono ?_
  · cases e
    exact Nat.lt_irrefl _ z.2
  · rintro e w' ⟨rfl, h2, _⟩
    exact ⟨rfl, h2.free⟩
theorem s_sync (h : S P w0 w p d) (s : ByteArray) : Calls Try.prog 12 #[.pointer (some ⟨p, 0, none⟩), .string s] w fun e w' => e = .returned (.int .i64 (syncD d s).1) ∧ S (nw P w) w0 w' p (syncD d s).2 ∧ UpdQ P w w' := by
  obtain ⟨v, L, rs, k⟩ := h.dsk
  exact (dk_sync k s).mono fun e w' z => h.op z
theorem s_cut (h : S P w0 w p d) (s : ByteArray) (n : Int) (hn : Fit n) : Calls Try.prog 22 #[.pointer (some ⟨p, 0, none⟩), .string s, .int .i64 n] w fun e w' => e = .returned (.int .i64 (cutD d s n).1) ∧ S (nw P w) w0 w' p (cutD d s n).2 ∧ UpdQ P w w' := by
  obtain ⟨v, L, rs, k⟩ := h.dsk
  exact (dk_cut k s n hn).mono fun e w' z => h.op z
theorem s_rename (h : S P w0 w p d) (s t : ByteArray) (ht : t.size ≤ 9223372036854775807) : Calls Try.prog 13 #[.pointer (some ⟨p, 0, none⟩), .string s, .string t] w fun e w' => e = .returned (.int .i64 (renD d s t).1) ∧ S (nw P w) w0 w' p (renD d s t).2 ∧ UpdQ P w w' := by
  obtain ⟨v, L, rs, k⟩ := h.dsk
  exact (dk_rename k s t ht).mono fun e w' z => h.op z
theorem s_remove (h : S P w0 w p d) (s : ByteArray) : Calls Try.prog 14 #[.pointer (some ⟨p, 0, none⟩), .string s] w fun e w' => e = .returned (.int .i64 (remD d s).1) ∧ S (nw P w) w0 w' p (remD d s).2 ∧ UpdQ P w w' := by
  obtain ⟨v, L, rs, k⟩ := h.dsk
  exact (dk_remove k s).mono fun e w' z => h.op z
theorem s_arm (h : S P w0 w p d) (n : Int) (hn : Fit n) : Calls Try.prog 26 #[.pointer (some ⟨p, 0, none⟩), .int .i64 n] w fun e w' => e = .returned (.tuple #[]) ∧ S P w0 w' p (armD d n) ∧ UpdQ P w w' := by
  obtain ⟨v, L, rs, k⟩ := h.dsk
  refine (dk_arm n hn k).mono ?_
  rintro e w' ⟨rfl, h1, q⟩
  have q' : UpdQ P w w' := q.mono fun b z => z ▸ k.pp
  exact ⟨rfl, ⟨⟨v, n, rs, h1⟩, h.sub, q'.below w0 h.bel h.sub⟩, q'⟩
theorem s_off (h : S P w0 w p d) : Calls Try.prog 32 #[.pointer (some ⟨p, 0, none⟩)] w fun e w' => e = .returned (.bool d.off) ∧ w' = w := by
  obtain ⟨v, L, rs, k⟩ := h.dsk
  exact dk_off' k
theorem s_read (h : S P w0 w p d) (s : ByteArray) : Calls Try.prog 16 #[.pointer (some ⟨p, 0, none⟩), .string s] w (ReadE w d s) := by
  obtain ⟨v, L, rs, k⟩ := h.dsk
  exact dk_read k s
theorem s_crash (h : S P w0 w p d) (ao : Option Addr) (n cap : Nat) (zs : List Int) (hI : Ints w ao n cap zs) (hap : zs ≠ [] → ∀ ad, ao = some ad → ¬ P ad.block) :
    Calls Try.prog 15 #[.pointer (some ⟨p, 0, none⟩), .slice ao n cap] w fun e w' => e = .returned (.tuple #[]) ∧ S P w0 w' p (crashD d zs) ∧ UpdQ P w w' := by
  obtain ⟨v, L, rs, k⟩ := h.dsk
  refine (dk_crash k ao n cap zs hI hap).mono ?_
  rintro e w' ⟨rfl, h1, q⟩
  exact ⟨rfl, ⟨h1, h.sub, q.below w0 h.bel h.sub⟩, q⟩
end
/-! ### disks of one file -/
section
variable (s : ByteArray) (b : List UInt8) (k : Nat) (o : Bool) (l : Int)
theorem Dk.one_has : has s [⟨s, b, k⟩] = true := by simp [has]
theorem Dk.one_spot : Dk.spot s [⟨s, b, k⟩] = 0 := by simp [Dk.spot, lt_irrefl]
theorem Dk.one_own : own s [⟨s, b, k⟩] = ⟨s, b, k⟩ := by
  unfold own
  rw [if_pos (one_has s b k), one_spot]
  rfl
theorem Dk.one_put (c : List UInt8) (m : Nat) : put ⟨s, c, m⟩ [⟨s, b, k⟩] = [⟨s, c, m⟩] := by
  unfold put
  rw [if_pos (one_has s b k), one_spot]
  rfl
theorem Dk.none_put : put ⟨s, b, k⟩ [] = [⟨s, b, k⟩] := rfl
theorem Dk.none_own : own s [] = ⟨s, [], 0⟩ := rfl
end
def Dk.na : ByteArray := ⟨#[97]⟩
def Dk.tornD (pk : Nat) : List UInt8 := (tear ⟨na, [1, 2, 3, 4, 5], 3⟩ pk).bs
theorem Dk.run_a1 (s : ByteArray) (hs : nameOk s = true) (zs : List UInt8) (hz : zs.length ≤ 1000) (l : Int) (hl : l ≠ 0) : appD ⟨[], false, l⟩ s zs = (0, ⟨[⟨s, zs, 0⟩], false, dec l⟩) := by
  unfold appD
  rw [if_neg Bool.false_ne_true, if_neg (by rw [hs]; exact fun z => by cases z), if_neg (by show ¬ 4194304 < 0 + zs.length; omega), if_neg hl, none_own]
  rfl
theorem Dk.run_a2 (s : ByteArray) (hs : nameOk s = true) (b zs : List UInt8) (k : Nat) (hz : b.length + zs.length ≤ 1000) (l : Int) (hl : l ≠ 0) : appD ⟨[⟨s, b, k⟩], false, l⟩ s zs = (0, ⟨[⟨s, b ++ zs, k⟩], false, dec l⟩) := by
  unfold appD
  rw [if_neg Bool.false_ne_true, if_neg (by rw [hs]; exact fun z => by cases z), if_neg (by show ¬ 4194304 < (b.length + 0) + zs.length; omega), if_neg hl]
  simp only [one_own, one_put, with']
theorem Dk.run_s (s : ByteArray) (b : List UInt8) (k : Nat) (l : Int) (hl : l ≠ 0) : syncD ⟨[⟨s, b, k⟩], false, l⟩ s = (0, ⟨[⟨s, b, b.length⟩], false, dec l⟩) := by
  unfold syncD
  rw [if_neg Bool.false_ne_true, if_neg (by rw [show has s _ = true from one_has s b k]; exact fun z => by cases z), if_neg hl]
  simp only [one_own, one_put, with']
theorem Dk.na_ok : nameOk na = true := by decide
end Go.Proofs.Ytegniklofhopeaa
