/- PLAIN LEAN: a disk without an arm; how many files; what Append and Remove do to their own name; and rows of calls that came in. -/
import Derived.Test.YtegniklofhopeaaYDpDkU
import Derived.Test.YtegniklofhopeaaYDpDkB
import Derived.Test.YtegniklofhopeaaZDp3
import Derived.Test.YtegniklofhopeaaYDpAsIn
set_option maxRecDepth 100000
set_option linter.unusedVariables false
namespace Go.Proofs.Ytegniklofhopeaa
open Go.RowKit
open Mem Dk
theorem As.C.keep {u v : World} {b : Nat} {r : As.T} (h : As.C u b r) (e : v.heap[b]? = u.heap[b]?) : As.C v b r := by
 obtain ⟨h0,h1,h2,h3,h4,h5⟩ := h
 unfold As.C
 exact ⟨(World.cell?_of_block e).trans h0,(World.cell?_of_block e).trans h1,(World.cell?_of_block e).trans h2,(World.cell?_of_block e).trans h3,(World.cell?_of_block e).trans h4,(World.cell?_of_block e).trans h5⟩
theorem As.C.lt {u : World} {b : Nat} {r : As.T} (h : As.C u b r) : b < u.heap.size := cell_lt h.1
namespace Dk
theorem del_len_le {s : ByteArray} {l : List F} : (del s l).length ≤ l.length := by
 unfold del
 rw [List.length_append,List.length_take,List.length_drop]
 omega
section
variable {d : D} {s t : ByteArray} {zs : List UInt8}
theorem app_len : (appD d s zs).2.fs.length ≤ d.fs.length + 1 := by
 unfold appD
 split
 · exact Nat.le_succ _
 split
 · exact Nat.le_succ _
 split
 · exact Nat.le_succ _
 split
 · exact Nat.le_succ _
 exact put_len _ _
theorem sync_len (h : Ok d) : (syncD d s).2.fs.length ≤ d.fs.length := by
 unfold syncD
 split
 · exact Nat.le_refl _
 split
 · exact Nat.le_refl _
 rename_i k
 split
 · exact Nat.le_refl _
 exact Nat.le_of_eq (put_len_has (by simpa using k))
theorem cut_len (h : Ok d) {n : Int} : (cutD d s n).2.fs.length ≤ d.fs.length := by
 unfold cutD
 split
 · exact Nat.le_refl _
 split
 · exact Nat.le_refl _
 rename_i k
 split
 · exact Nat.le_refl _
 split
 · exact Nat.le_refl _
 exact Nat.le_of_eq (put_len_has (by simpa using k))
theorem rem_len : (remD d s).2.fs.length ≤ d.fs.length := by
 unfold remD
 split
 · exact Nat.le_refl _
 split
 · exact Nat.le_refl _
 split
 · exact Nat.le_refl _
 exact del_len_le
theorem ren_len (h : Ok d) : (renD d s t).2.fs.length ≤ d.fs.length := by
 unfold renD
 split
 · exact Nat.le_refl _
 split
 · exact Nat.le_refl _
 split
 · exact Nat.le_refl _
 rename_i k
 split
 · exact Nat.le_refl _
 have h1 := del_len (s := s) h.sorted (by simpa using k)
 have h2 := put_len ⟨t,(own s d.fs).bs,(own s d.fs).kept⟩ (del s d.fs)
 show (put _ _).length ≤ _
 omega
def Free (d : D) : Prop := d.off = false ∧ d.left = -1
theorem dec_free : dec (-1) = -1 := rfl
theorem app_free (h : Free d) : Free (appD d s zs).2 := by
 obtain ⟨fs,off,left⟩ := d
 obtain ⟨h1,h2⟩ := h
 simp only at h1 h2
 subst h1 h2
 unfold appD
 rw [if_neg Bool.false_ne_true]
 split
 · exact ⟨rfl,rfl⟩
 split
 · exact ⟨rfl,rfl⟩
 rw [if_neg (by show ¬ (-1 : Int) = 0; decide)]
 exact ⟨rfl,rfl⟩
theorem sync_free (h : Free d) : Free (syncD d s).2 := by
 obtain ⟨fs,off,left⟩ := d
 obtain ⟨h1,h2⟩ := h
 simp only at h1 h2
 subst h1 h2
 unfold syncD
 rw [if_neg Bool.false_ne_true]
 split
 · exact ⟨rfl,rfl⟩
 rw [if_neg (by show ¬ (-1 : Int) = 0; decide)]
 exact ⟨rfl,rfl⟩
theorem rem_free (h : Free d) : Free (remD d s).2 := by
 obtain ⟨fs,off,left⟩ := d
 obtain ⟨h1,h2⟩ := h
 simp only at h1 h2
 subst h1 h2
 unfold remD
 rw [if_neg Bool.false_ne_true]
 split
 · exact ⟨rfl,rfl⟩
 rw [if_neg (by show ¬ (-1 : Int) = 0; decide)]
 exact ⟨rfl,rfl⟩
theorem ren_free (h : Free d) : Free (renD d s t).2 := by
 obtain ⟨fs,off,left⟩ := d
 obtain ⟨h1,h2⟩ := h
 simp only at h1 h2
 subst h1 h2
 unfold renD
 rw [if_neg Bool.false_ne_true]
 split
 · exact ⟨rfl,rfl⟩
 split
 · exact ⟨rfl,rfl⟩
 rw [if_neg (by show ¬ (-1 : Int) = 0; decide)]
 exact ⟨rfl,rfl⟩
theorem has_put {f : F} {l : List F} (hs : Sorted l) : has f.name (put f l) = true := has_mem.2 ⟨f,(mem_put hs f).2 (.inl rfl),rfl⟩
theorem app_has (h : Ok d) : has s (appD d s zs).2.fs = (has s d.fs || ((appD d s zs).1 == 0)) := by
 unfold appD
 split
 ·
  show has s d.fs = (has s d.fs || ((18 : Int) == 0))
  rw [show ((18 : Int) == 0) = false from rfl,Bool.or_false]
 split
 ·
  show has s d.fs = (has s d.fs || ((19 : Int) == 0))
  rw [show ((19 : Int) == 0) = false from rfl,Bool.or_false]
 split
 ·
  show has s d.fs = (has s d.fs || ((14 : Int) == 0))
  rw [show ((14 : Int) == 0) = false from rfl,Bool.or_false]
 split
 ·
  show has s d.fs = (has s d.fs || ((18 : Int) == 0))
  rw [show ((18 : Int) == 0) = false from rfl,Bool.or_false]
 show has s (put _ _) = (has s d.fs || ((0 : Int) == 0))
 rw [show ((0 : Int) == 0) = true from rfl,Bool.or_true]
 exact has_put (f := ⟨s,_,_⟩) h.sorted
theorem rem_has (h : Ok d) (hf : Free d) : has s (remD d s).2.fs = false ∧ ((remD d s).1 == 0) = has s d.fs := by
 obtain ⟨fs,off,left⟩ := d
 obtain ⟨h1,h2⟩ := hf
 have hq := h.sorted
 simp only at h1 h2 hq
 subst h1 h2
 unfold remD
 rw [if_neg Bool.false_ne_true]
 cases k : has s fs
 ·
  rw [if_pos (by rfl)]
  exact ⟨k,rfl⟩
 ·
  rw [if_neg (by intro z; cases z),if_neg (by show ¬ (-1 : Int) = 0; decide)]
  exact ⟨del_self hq k,rfl⟩
end
end Dk
section
variable {P : Nat → Prop} {w0 w u : World} {p : Nat} {d : D}
theorem Dk.S.ok (h : S P w0 w p d) : Ok d := by
 obtain ⟨v,L,rs,k⟩ := h.dsk
 exact k.ok
theorem s_is (h : S P w0 w p d) (s : ByteArray) (th : Bool) (ht : has s d.fs = th) : Calls Try.prog 16 #[.pointer (some ⟨p,0,none⟩),.string s] w fun e w' => ∃ (ao : Option Addr) (n cap : Nat),e = .returned (.tuple #[.slice ao n cap,.bool th]) ∧ Below w.heap.size w w' := by
 refine (s_read h s).mono ?_
 rintro e w' ⟨b,⟨h1,rfl⟩ | ⟨h1,g,rfl,_,_⟩⟩
 ·
  rw [h1] at ht
  exact ⟨_,_,_,by rw [ht],b⟩
 ·
  rw [h1] at ht
  exact ⟨_,_,_,by rw [ht],b⟩
theorem s_nth (h : S P w0 w p d) {k : Nat} (hk : k < d.fs.length) : Calls Try.prog 16 #[.pointer (some ⟨p,0,none⟩),.string d.fs[k].name] w fun e w' => ∃ g : Nat,e = .returned (.tuple #[.slice (some ⟨g,0,none⟩) d.fs[k].bs.length d.fs[k].bs.length,.bool true]) ∧ By.Block w' g d.fs[k].bs ∧ Below w.heap.size w w' := by
 obtain ⟨h1,h2⟩ := own_eq h.ok.sorted (List.getElem_mem hk) rfl
 refine (s_read h d.fs[k].name).mono ?_
 rintro e w' ⟨b,⟨h3,rfl⟩ | ⟨_,g,rfl,hb,_⟩⟩
 ·
  rw [h1] at h3
  cases h3
 ·
  rw [h2] at hb ⊢
  exact ⟨g,rfl,hb,b⟩
end
theorem Dk.old_at {w : World} {ao : Option Addr} {n cap : Nat} {xs : List UInt8} (h : By.Ls w ao n cap xs) (hx : xs ≠ []) (ad : Addr) (e : ao = some ad) : ad.block < w.heap.size := by
 rcases h.seg with k | ⟨b,off,k,hc⟩
 · exact absurd k hx
 ·
  rw [k] at e
  cases e
  exact cell_lt (hc 0 (List.length_pos_iff.2 hx))
theorem s_app_old {P : Nat → Prop} {w0 w : World} {p : Nat} {d : D} (h : S P w0 w p d) (s : ByteArray) (hs : s.size ≤ 140737488355328) {ao : Option Addr} {n cap : Nat} {zs : List UInt8} (hL : By.Ls w0 ao n cap zs) (few : d.fs.length < 1000) :
  Calls Try.prog 11 #[.pointer (some ⟨p,0,none⟩),.string s,.slice ao n cap] w fun e w' => e = .returned (.int .i64 (appD d s zs).1) ∧ S (nw P w) w0 w' p (appD d s zs).2 ∧ UpdQ P w w' :=
 s_append h s (by omega) ao n cap zs (hL.below h.bel) (fun hne ad e z => by
  have h1 := old_at hL hne ad e
  have h2 := h.sub _ z
  omega) few
structure Dk.Asks (w : World) (ao : Option Addr) (n cap : Nat) (rs : List As.T) : Prop where
 ls : As.Ls w ao n cap rs
 sub : ∀ r ∈ rs,As.Sub w r
theorem asks_in {H : Type} {enc : TypeId × Value → H} {W : World} {ao : Option Addr} {n cap : Nat} {d : DataW H} {p : List MemPlace} {ts : List TypeId} {ds : List (DataW H)} (j : Nat)
  (hj : DataW.Trod enc Try.prog W 0 (fun _ => true) true 22 (.slice ao n cap) d p)
  (hsz : (DataW.weightsEach Try.prog ts ds).all (· ≤ reachBytes) = true) (ht : ts[j]? = some 22) (hd : ds[j]? = some d) : ∃ rs,Asks W ao n cap rs := by
 obtain ⟨rs,h1,h2⟩ := As.list_in j hj hsz ht hd
 exact ⟨rs,h1,h2⟩
end Go.Proofs.Ytegniklofhopeaa
